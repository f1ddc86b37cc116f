package addr_test

import (
	"regexp"
	"strings"
	"testing"
	"unsafe"

	"mailroom/addr"
	"mailroom/api"
	"mailroom/every"
	"mailroom/name"
)

var (
	atomsOnly  = regexp.MustCompile("^[a-zA-Z0-9!#$%&'*+/=?^_`{|}~-]+([.][a-zA-Z0-9!#$%&'*+/=?^_`{|}~-]+)*$")
	quotedOnly = regexp.MustCompile(`^"([ !#-[]|[\]-~]|\\[ -~])*"$`)
)

// plainly tells by the chapter's words alone what address s is.
func plainly(s string) (local, domain string, is bool) {
	for i := range len(s) {
		if s[i] != '@' {
			continue
		}
		l, d := s[:i], strings.ToLower(s[i+1:])
		if isLocal(l) && name.May(d) {
			return l, d, true
		}
	}
	return "", "", false
}

func isLocal(s string) bool {
	return len(s) >= 1 && len(s) <= 64 && (atomsOnly.MatchString(s) || quotedOnly.MatchString(s))
}

func long(letter byte, n int) string {
	return strings.Repeat(string(letter), n)
}

// wide is a name of MaxName bytes.
func wide() string {
	return strings.Join([]string{long('a', 63), long('b', 63), long('c', 63), long('d', 61)}, ".")
}

// is wants that s is an address of these parts, in all calls that ask for one.
func is(t *testing.T, s, local, domain string) {
	t.Helper()
	l, d, e := addr.Parse(s)
	if l != local || d != domain || e != api.OK {
		t.Errorf("Parse(%q): %q, %q, %v; want %q, %q", s, l, d, e, local, domain)
	}
	if !addr.May(s) || !addr.Same(s, s) {
		t.Errorf("May(%q): %v; the same as itself: %v", s, addr.May(s), addr.Same(s, s))
	}
	if p := addr.Path(s); p != "<"+s+">" {
		t.Errorf("Path(%q): %q", s, p)
	}
	if u, e := addr.Unpath("<" + s + ">"); u != s || e != api.OK {
		t.Errorf("Unpath of %q's path: %q, %v", s, u, e)
	}
}

// locals wants that each text is a local part.
func locals(t *testing.T, texts ...string) {
	t.Helper()
	for _, l := range texts {
		is(t, l+"@b.example", l, "b.example")
	}
}

// nones wants that no text is an address, and that no call tells anything of it.
func nones(t *testing.T, texts ...string) {
	t.Helper()
	for _, s := range texts {
		if l, d, e := addr.Parse(s); l != "" || d != "" || e != api.ErrForm {
			t.Errorf("Parse(%q): %q, %q, %v; want ErrForm", s, l, d, e)
		}
		if addr.May(s) {
			t.Errorf("May(%q): yes", s)
		}
		for _, other := range []string{s, "a@b.example", ""} {
			if addr.Same(s, other) || addr.Same(other, s) {
				t.Errorf("Same(%q, %q), or the other way about: yes", s, other)
			}
		}
		if s == "" {
			continue
		}
		if p := addr.Path(s); p != "" {
			t.Errorf("Path(%q): %q", s, p)
		}
		if u, e := addr.Unpath("<" + s + ">"); u != "" || e != api.ErrForm {
			t.Errorf("Unpath(<%s>): %q, %v; want ErrForm", s, u, e)
		}
	}
}

// noLocals wants that no text is a local part.
func noLocals(t *testing.T, texts ...string) {
	t.Helper()
	for _, l := range texts {
		nones(t, l+"@b.example")
	}
}

func TestExamplesOfTheChapter(t *testing.T) {
	is(t, "a.b@Mail.example", "a.b", "mail.example")
	nones(t, ".a@b.example", "a..b@b.example", "a b@b.example", "a@", "@b.example", "a@b.example.", "a@1.2", `"a@b.example`)
	is(t, `"a b"@b.example`, `"a b"`, "b.example")
	if p := addr.Path("a@b.example"); p != "<a@b.example>" {
		t.Errorf("Path: %q", p)
	}
	if s, e := addr.Unpath("<>"); s != "" || e != api.OK {
		t.Errorf("Unpath(<>): %q, %v", s, e)
	}
}

// P4.1, and the words: a local part.
func TestAllShortTexts(t *testing.T) {
	found := 0
	for _, s := range every.Text(6, "a", ".", "@", `"`, `\`, " ", "1") {
		l, d, yes := plainly(s)
		if !yes {
			nones(t, s)
			continue
		}
		is(t, s, l, d)
		found++
	}
	if found < 200 {
		t.Errorf("%d addresses among the short texts", found)
	}
}

func TestAllShortLocals(t *testing.T) {
	quoted := 0
	for _, l := range every.Text(7, "a", ".", "@", `"`, `\`) {
		if !isLocal(l) {
			noLocals(t, l)
			continue
		}
		locals(t, l)
		if l[0] == '"' {
			quoted++
		}
	}
	if quoted < 500 {
		t.Errorf("%d quoted ones among the short local parts", quoted)
	}
}

func TestAtomsByTheByte(t *testing.T) {
	const letters = "abcdefghijklmnopqrstuvwxyzABCDEFGHIJKLMNOPQRSTUVWXYZ0123456789"
	const signs = "!#$%&'*+-/=?^_{|}~\x60"
	for i := range 256 {
		c := string([]byte{byte(i)})
		for _, l := range []string{c, c + "a", "a" + c, "a" + c + "b", "a." + c, c + ".a", "a." + c + ".b", c + c} {
			if strings.Contains(letters+signs, c) || l == "a.b" || l == `""` {
				locals(t, l)
				continue
			}
			noLocals(t, l)
		}
	}
}

func TestAtoms(t *testing.T) {
	locals(t, "a", "A", "a.b", "a.b.c.d", "A.b", "0", "1.2", "-", "-a-", "a+b", "{a|b}", "!#$%&'*+-/=?^_`{|}~", "a.-.b", "user=x.y/z")
	noLocals(t, "", ".", "..", ".a", "a.", ".a.", "a..b", "a...b", "..a", "a..", "a b", " a", "a ", "a\tb", "a\r\n", "\r\na", "a\x00", "(a)", "a,b", "a:b", "a;b", "<a>", "a>", "[a]", `a\b`, `a\.b`, "a\x7f", "é", "a\xff", "ａ")
}

func TestLocalPartsByLength(t *testing.T) {
	for _, n := range []int{1, 2, 3, 63, 64} {
		locals(t, long('a', n))
	}
	for _, n := range []int{65, 66, 128, 1 << 16} {
		noLocals(t, long('a', n))
	}
	locals(t, strings.Repeat("a.", 31)+"ab", `"`+long('a', 62)+`"`, `"`+long(' ', 62)+`"`, `"`+strings.Repeat(`\"`, 31)+`"`)
	noLocals(t, strings.Repeat("a.", 32)+"a", strings.Repeat("a.", 31)+"abc", `"`+long('a', 63)+`"`, `"`+strings.Repeat(`\"`, 31)+`a"`, `"`+strings.Repeat(`\"`, 32)+`"`, `"`+long('a', 62)+`\"`)
}

func TestQuotedByTheByte(t *testing.T) {
	for i := range 256 {
		c := string([]byte{byte(i)})
		may := i >= 32 && i <= 126
		for _, x := range []struct {
			local string
			is    bool
		}{
			{`"` + c + `"`, may && c != `"` && c != `\`},
			{`"a` + c + `b"`, may && c != `"`}, // a backslash marks the b
			{`"` + c + ` "`, may && c != `"`},
			{`"\` + c + `"`, may},
			{`"a\` + c + `b"`, may},
			{`"\\` + c + `"`, may && c != `"` && c != `\`}, // the second backslash is marked itself
			{`"\\\` + c + `"`, may},
			{`"a` + c, c == `"`},
			{c + `a"`, c == `"`},
		} {
			if x.is {
				locals(t, x.local)
				continue
			}
			noLocals(t, x.local)
		}
	}
}

func TestQuoted(t *testing.T) {
	locals(t, `""`, `" "`, `"a"`, `"a b"`, `"."`, `".a"`, `"a..b"`, `"a."`, `"@"`, `"a@b"`, `"a@b.example"`, `"<>"`, `"\a"`, `"\a\b"`, `"\""`, `"\\"`, `"a\"b"`, `"a\\b"`, `"\\\""`, `"\"\""`, `"\ "`, `"\@"`)
	noLocals(t, `"`, `"""`, `""""`, `"a`, `a"`, `"\"`, `"a\"`, `"\\\"`, `"\\"a"`, `"\\""`, `"a"b"`, `a"b"`, `"a"b`, `"a".b`, `a."b"`, `"a"."b"`, `"a""b"`, ` "a"`, `"a" `, `\"a\"`, `\"a"`, "'a b'", `\`, `\"`, `\a`)
	noLocals(t, "\"a\tb\"", "\"a\r\n b\"", "\"a\x7fb\"", "\"\x00\"", "\"\x1f\"", "\"é\"", "\"\xff\"", "\"\\\t\"", "\"\\\x7f\"", "\"\\\xff\"", "\"\\\n\"")
}

// P4.1, and the words: an address, and its domain.
func TestDomains(t *testing.T) {
	is(t, "A.B@EXAMPLE.Com", "A.B", "example.com")
	is(t, "a@LOCALHOST", "a", "localhost")
	is(t, "a@xn--bcher-kva.example", "a", "xn--bcher-kva.example")
	is(t, "a@1.2.x", "a", "1.2.x")
	is(t, "a@"+wide(), "a", wide())
	is(t, "a@"+strings.ToUpper(wide()), "a", wide())
	is(t, long('a', 64)+"@"+wide(), long('a', 64), wide())
	is(t, "a@"+long('b', 63)+".c", "a", long('b', 63)+".c")
	nones(t, "a@"+wide()+"d", "a@"+wide()+".", "a@"+wide()[1:]+".", "a@"+long('b', 64)+".c", "a@"+long('b', 1<<16))
	nones(t, "a@b.", "a@B.", "a@b..", "a@.", "a@..", "a@.b", "a@b..c", "a@1", "a@b.1", "a@b.42", "a@1.2.3.4", "a@[1.2.3.4]", "a@-b", "a@b-", "a@b_c", "a@*.b", "a@b c", "a@ b", "a@b ", "a@b\r\n", "a@b\x00", "a@bücher.example", "a@\u212a.x", "a@b\xff", `a@"b"`, "a@<b>", "a@b>")
}

func TestAts(t *testing.T) {
	is(t, `"a@b"@c`, `"a@b"`, "c")
	is(t, `"@"@c`, `"@"`, "c")
	is(t, `"@@@"@c.D`, `"@@@"`, "c.d")
	is(t, `"a\"@b"@c`, `"a\"@b"`, "c")
	is(t, `"a\\@b"@c`, `"a\\@b"`, "c")
	nones(t, "", "@", "@@", "a", "a.b", "localhost", `"a"`, `"a@b"`, "a@", "@b", "a@@b", "a@b@c", "@a@b", "a@b@", `"a"@b@c`, `"a"@`, `@"a"`, `"a"@"b"@c`, `a@"b"@c`, `"a@b@c`, `"a\"@b`, `"a""@"@b`, "a @b", "a@ b", "a(c)@b")
}

// P4.1: Show.
func TestShow(t *testing.T) {
	for _, x := range [][2]string{{"a", "b"}, {"a.b", "mail.example"}, {"A", "b"}, {`"a b"`, "b.c"}, {`"a@b"`, "c"}, {`""`, "c"}, {long('a', 64), wide()}} {
		if got := addr.Show(x[0], x[1]); got != x[0]+"@"+x[1] {
			t.Errorf("Show(%q, %q): %q", x[0], x[1], got)
		}
	}
	for _, x := range [][2]string{
		{"", ""}, {"a", ""}, {"", "b"}, {".a", "b"}, {"a.", "b"}, {"a..b", "c"}, {"a b", "c"}, {`"a`, "b"}, {`a"`, "b"}, {`"`, "b"}, {`"\"`, "b"}, {long('a', 65), "b"},
		{"a", "B"}, {"a", "Mail.example"}, {"a", "b."}, {"a", "B."}, {"a", "1"}, {"a", "b.1"}, {"a", "1.2.3.4"}, {"a", "-b"}, {"a", "b..c"}, {"a", ".b"}, {"a", "b c"}, {"a", "*.b"}, {"a", wide() + "d"},
		{"a@b", "c"}, {"a", "b@c"}, {"a@", "b"}, {"a", "@b"}, {`"a`, `b"@c`}, {`"a"@b`, "c"}, {`"`, `"@c`}, {"<a", "b"}, {"a", "b>"},
	} {
		if got := addr.Show(x[0], x[1]); got != "" {
			t.Errorf("Show(%q, %q): %q; want nothing", x[0], x[1], got)
		}
	}
}

// P4.1: Same.
func TestSame(t *testing.T) {
	for _, x := range [][2]string{{"a@b", "a@b"}, {"a@b", "a@B"}, {"a@B.c", "a@b.C"}, {`"a@b"@c`, `"a@b"@C`}, {"A@b", "A@B"}, {"a@" + wide(), "a@" + strings.ToUpper(wide())}} {
		if !addr.Same(x[0], x[1]) || !addr.Same(x[1], x[0]) {
			t.Errorf("Same(%q, %q), or the other way about: no", x[0], x[1])
		}
	}
	for _, x := range [][2]string{
		{"a@b", "A@b"}, {"A@b", "a@B"}, {"a@b", "c@b"}, {"a@b", "a@c"}, {"a@b", "b@a"}, {"a@b", "a.a@b"}, {"a@b", "a@b.c"}, {"a@b", `"a"@b`}, {`"a"@b`, `"\a"@b`}, {`"a"@b`, `"A"@b`}, {"a@b", "aa@b"},
		{"a@b", "a@b."}, {"a@b", ""}, {"", ""}, {"a", "a"}, {"a@b.", "a@b."}, {"<a@b>", "a@b"}, {"<>", "<>"}, {"a@1", "a@1"}, {"a@b", "a@b "},
	} {
		if addr.Same(x[0], x[1]) || addr.Same(x[1], x[0]) {
			t.Errorf("Same(%q, %q), or the other way about: yes", x[0], x[1])
		}
	}
}

// P4.2.
func TestPath(t *testing.T) {
	for s, want := range map[string]string{
		"": "<>", "a@b": "<a@b>", "A@Mail.Example": "<A@Mail.Example>", `">"@b`: `<">"@b>`, `"a b"@c`: `<"a b"@c>`,
		"<>": "", "<a@b>": "", "a": "", "a@": "", "@b": "", "a@b.": "", "a@b@c": "", " ": "", "<": "", ">": "", " a@b": "", "a@b\r\n": "",
	} {
		if got := addr.Path(s); got != want {
			t.Errorf("Path(%q): %q; want %q", s, got, want)
		}
	}
}

func TestUnpath(t *testing.T) {
	for s, want := range map[string]string{"<>": "", "<a@b>": "a@b", "<A@Mail.Example>": "A@Mail.Example", `<">"@b>`: `">"@b`, `<"<"@b>`: `"<"@b`, `<"<>"@b>`: `"<>"@b`} {
		if got, e := addr.Unpath(s); got != want || e != api.OK {
			t.Errorf("Unpath(%q): %q, %v; want %q", s, got, e, want)
		}
	}
	for _, s := range []string{"", "<", ">", "><", "a@b", "<a@b", "a@b>", "<<a@b>>", "<<a@b>", "<a@b>>", "<<>>", "<>>", "<<>", "<><>", "<a@b><a@b>", "<a>", "<a@>", "<@b>", "<a@b.>", "<a@b.1>", "< a@b>", "<a@b >", " <a@b>", "<a@b> ", "<a@b>\r\n", "< >", " <>", "<> ", "<a@b,c@d>", "<@x:a@b>", `<"a@b>`, `<"a@b>"`, "(a@b)"} {
		if got, e := addr.Unpath(s); got != "" || e != api.ErrForm {
			t.Errorf("Unpath(%q): %q, %v; want ErrForm", s, got, e)
		}
	}
}

// some are addresses, of which some are the same.
func some() []string {
	out := []string{"a.b@Mail.example", "A.B@mail.example", "a.b@mail.EXAMPLE", `"a.b"@mail.example`, `"a\.b"@mail.example`, long('a', 64) + "@" + wide(), long('a', 64) + "@" + strings.ToUpper(wide())}
	for _, l := range []string{"a", "A", `"a"`, `"A"`, `"\a"`, `""`, `"@"`, "a.a", "`"} {
		for _, d := range []string{"b", "B", "b.c", "B.c", "b.C", "c.b", "a"} {
			out = append(out, l+"@"+d)
		}
	}
	return out
}

// P4.4.
func TestBack(t *testing.T) {
	for _, s := range append(some(), every.Text(6, "a", ".", "@", `"`, `\`, "B")...) {
		l, d, e := addr.Parse(s)
		if e != api.OK {
			continue
		}
		shown := addr.Show(l, d)
		if shown != l+"@"+d || !addr.Same(shown, s) {
			t.Fatalf("%q, parsed, shown: %q", s, shown)
		}
		is(t, shown, l, d)
		back, e := addr.Unpath(addr.Path(s))
		if back != s || e != api.OK || addr.Path(back) != addr.Path(s) {
			t.Fatalf("%q: of its path %q: %q, %v", s, addr.Path(s), back, e)
		}
	}
}

func TestWhatIsShownIsParsed(t *testing.T) {
	parts := every.Text(3, "a", "B", ".", "@", `"`, `\`)
	shown := 0
	for _, l := range parts {
		for _, d := range parts {
			s := addr.Show(l, d)
			if want := isLocal(l) && name.May(d); (s != "") != want {
				t.Fatalf("Show(%q, %q): %q", l, d, s)
			}
			if s != "" {
				is(t, s, l, d)
				shown++
			}
		}
	}
	if shown < 50 {
		t.Errorf("%d were shown", shown)
	}
}

// P4.5.
func TestSameOnes(t *testing.T) {
	pairs := 0
	for _, a := range some() {
		l, d, _ := addr.Parse(a)
		if great := l + "@" + strings.ToUpper(d); !addr.Same(a, a) || !addr.Same(a, great) || !addr.Same(great, a) {
			t.Fatalf("%q, and %q: not the same", a, great)
		}
		for _, b := range some() {
			other, under, _ := addr.Parse(b)
			same := addr.Same(a, b)
			if same != (l == other && d == under) || same != addr.Same(b, a) {
				t.Fatalf("Same(%q, %q): %v; the other way about: %v", a, b, same, addr.Same(b, a))
			}
			if same && a != b {
				pairs++
			}
			for _, c := range some() {
				if same && addr.Same(c, b) && !addr.Same(a, c) {
					t.Fatalf("%q and %q are the same as %q, but not as one another", a, c, b)
				}
			}
		}
	}
	if pairs < 30 {
		t.Errorf("%d pairs of the same", pairs)
	}
}

// R1: what is told shares no memory with what was handed in.
func TestNothingShared(t *testing.T) {
	s := strings.Clone("<a.b@mail.example>")
	within := s[1 : len(s)-1]
	l, d, _ := addr.Parse(within)
	u, _ := addr.Unpath(s)
	told := []string{l, d, u, addr.Path(within), addr.Show(within[:3], within[4:])}
	for _, x := range append(told, addr.Domains(api.Mail{Rcpts: []api.Rcpt{{To: within}}})...) {
		if x == "" || lies(x, s) {
			t.Errorf("%q lies within %q, or is nothing", x, s)
		}
	}
}

// lies tells whether part lies in the memory of whole.
func lies(part, whole string) bool {
	p, w := uintptr(unsafe.Pointer(unsafe.StringData(part))), uintptr(unsafe.Pointer(unsafe.StringData(whole)))
	return p >= w && p < w+uintptr(len(whole))
}
