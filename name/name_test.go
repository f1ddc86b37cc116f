package name_test

import (
	"fmt"
	"regexp"
	"slices"
	"strings"
	"testing"
	"unsafe"

	"mailroom/api"
	"mailroom/every"
	"mailroom/name"
)

func TestExamplesOfTheChapter(t *testing.T) {
	names(t, "mx1.example.com", "xn--bcher-kva.example", "localhost")
	nones(t, "a..b", "-a.b", "a.b-", "", "a.1", "1.2.3.4")
	folds(t, "Mx1.Example.COM.", "mx1.example.com")
	if !name.Match("*.example.com", "a.example.com") {
		t.Error("Match of a.example.com: no")
	}
	if name.Match("*.example.com", "example.com") || name.Match("*.example.com", "a.b.example.com") {
		t.Error("Match of example.com, or of a.b.example.com: yes")
	}
	if s, ok := name.Under("_mta-sts.", "example.com"); s != "_mta-sts.example.com" || !ok {
		t.Errorf("Under: %q, %v", s, ok)
	}
}

// names wants that each text is a name.
func names(t *testing.T, texts ...string) {
	t.Helper()
	for _, s := range texts {
		if !name.May(s) {
			t.Errorf("May(%q), of %d bytes: no", s, len(s))
		}
	}
}

// nones wants that no text is a name, and that no call that asks for one tells anything of it.
func nones(t *testing.T, texts ...string) {
	t.Helper()
	for _, s := range texts {
		if name.May(s) {
			t.Errorf("May(%q), of %d bytes: yes", s, len(s))
		}
		if l := name.Labels(s); len(l) != 0 {
			t.Errorf("Labels(%q): %q", s, l)
		}
		if p, ok := name.Parent(s); p != "" || ok {
			t.Errorf("Parent(%q): %q, %v", s, p, ok)
		}
		if u, ok := name.Under("_x.", s); u != "" || ok {
			t.Errorf("Under(%q): %q, %v", s, u, ok)
		}
		for _, p := range []string{s, "*." + s, "a.b", "*.b", "*.", "*", ""} {
			if name.Match(p, s) {
				t.Errorf("Match(%q, %q): yes", p, s)
			}
		}
	}
}

// folds wants that s folds to want; unfolded, that no name comes of it.
func folds(t *testing.T, s, want string) {
	t.Helper()
	if got, e := name.Fold(s); got != want || e != api.OK {
		t.Errorf("Fold(%q), of %d bytes: %q, %v; want %q", s, len(s), got, e, want)
	}
}

func unfolded(t *testing.T, texts ...string) {
	t.Helper()
	for _, s := range texts {
		if got, e := name.Fold(s); got != "" || e != api.ErrForm {
			t.Errorf("Fold(%q), of %d bytes: %q, %v; want ErrForm", s, len(s), got, e)
		}
	}
}

// few are all short texts; they have labels of each kind, and dots and - wherever they may stand.
func few() []string {
	return every.Text(6, "a", "1", "-", ".")
}

var (
	labelsOnly = regexp.MustCompile(`^([a-z0-9]([a-z0-9-]{0,61}[a-z0-9])?\.)*[a-z0-9]([a-z0-9-]{0,61}[a-z0-9])?$`)
	digitsLast = regexp.MustCompile(`(^|\.)[0-9]+$`)
)

// plainly tells by the chapter's words alone whether s is a name.
func plainly(s string) bool {
	return len(s) <= 253 && labelsOnly.MatchString(s) && !digitsLast.MatchString(s)
}

// some are the names among the short texts, and some that are not short.
func some() []string {
	out := slices.DeleteFunc(few(), func(s string) bool { return !plainly(s) })
	return append(out, "mx1.example.com", "xn--bcher-kva.example", "localhost", "a.b.c.d.e.f", "0.0.0.0.z",
		long('a', 63), wide(), deep(), "a."+long('b', 63), long('b', 63)+".a")
}

// long is a label of n letters.
func long(letter byte, n int) string {
	return strings.Repeat(string(letter), n)
}

// wide is a name of MaxName bytes in as few labels as may be, deep one in as many.
func wide() string {
	return strings.Join([]string{long('a', 63), long('b', 63), long('c', 63), long('d', 61)}, ".")
}

func deep() string {
	return strings.Repeat("a.", 126) + "z"
}

// P3.1, and the words: a label, a name.
func TestMayOfAllShortTexts(t *testing.T) {
	found := 0
	for _, s := range few() {
		if plainly(s) {
			names(t, s)
			found++
			continue
		}
		nones(t, s)
	}
	if found < 500 {
		t.Errorf("%d names among the short texts", found)
	}
}

func TestMayByTheByte(t *testing.T) {
	for i := range 256 {
		c := string([]byte{byte(i)})
		for _, s := range []string{c, "a" + c, c + "a", "a" + c + "b", "a." + c, "a.b" + c, "a." + c + "b", c + ".a", "a" + c + ".b", c + "a.b", "a.b" + c + "c", "a" + c + c + "b"} {
			if plainly(s) {
				names(t, s)
				continue
			}
			nones(t, s)
		}
	}
}

func TestMayOfLabelsByLength(t *testing.T) {
	for _, n := range []int{1, 2, 62, 63} {
		l := long('x', n)
		names(t, l, l+".a", "a."+l, "a."+l+".b", l+"."+l+"."+l)
	}
	for _, n := range []int{64, 65, 127, 128, 200, 253} {
		l := long('x', n)
		nones(t, l, l+".a", "a."+l, "a."+l+".b")
	}
	names(t, "x"+long('-', 61)+"x", "x"+long('-', 61)+"x.a", long('1', 63)+".a", "a."+long('1', 62)+"a")
	nones(t, "x"+long('-', 62)+"x", "x"+long('-', 62), long('-', 62)+"x", long('-', 63), "a."+long('1', 63), "a."+long('1', 62))
	nones(t, long('1', 64)+".a", long('a', 63)+"."+long('a', 64), long('a', 64)+"."+long('a', 63))
}

func TestMayOfNamesByLength(t *testing.T) {
	if len(wide()) != api.MaxName || len(deep()) != api.MaxName {
		t.Fatalf("%d, %d bytes", len(wide()), len(deep()))
	}
	names(t, wide(), deep(), wide()[1:], deep()[2:], wide()[:252], strings.Repeat("a.", 125)+"zz")
	nones(t, wide()+"d", deep()+"z", "a"+deep(), "a."+wide(), "a."+deep(), wide()+".a", wide()+"."+long('e', 63))
	nones(t, wide()+".", deep()+".", wide()[1:]+".")
	nones(t, strings.Repeat("a.", 1<<16)+"z", long('a', 1<<16), long('.', 1<<16), long('-', 1<<16))
}

func TestMayOfTheLastLabel(t *testing.T) {
	names(t, "1a", "a1", "1-1", "a.1a", "a.a1", "a.1-1", "1.a", "1.2.3.a", "0.0.0.0.a", "1.2.3.4a", "1.2.3.x4", "123.456-789")
	nones(t, "1", "0", "9", "42", "0123456789", "a.1", "a.0", "a.42", "a.b.0123456789", "1a.2", "1.2", "1.2.3.4", "0.0.0.0", "255.255.255.255")
}

func TestMayOfHyphens(t *testing.T) {
	names(t, "a-b", "a--b", "a---b", "a-1", "1-a", "a-b.c-d.e-f", "xn--bcher-kva", "xn--80ak6aa92e.com", "a.xn--p1ai", "1-1.a")
	nones(t, "-", "--", "-a", "a-", "-a-", "-1", "1-", "a-.b", "-a.b", "a.-b", "a.b-", "a.-", "-.a", "a.-.b", "a.b-.c", "a.-b.c", "xn--", "xn--.a")
}

func TestMayOfWhatIsEmpty(t *testing.T) {
	nones(t, "", ".", "..", "...", ".a", "a.", "a..", "..a", "a..b", "a...b", ".a.b", "a.b.", "a.b..", ".1", "1.", "a.1.")
}

func TestMayOfOtherLetters(t *testing.T) {
	nones(t, "A", "a.B", "A.b", "EXAMPLE.com", "aBc", "Z.a", "a.Z", "localHost")
	nones(t, "_a", "_mta-sts.a", "a_b", "*", "*.a", "a.*", "a b", " a", "a ", "a\t", "a\r\n", "a\n", "a\x00", "\x00", "a@b", "a/b", "a:25", "[1.2.3.4]", "a,b", "a;b", "a\\.b", "a%b", "a+b", "a'b")
	nones(t, "bücher.example", "ａ.b", "a。b", "K.a", "a.ſ", "é", "\xff", "a.\xc3", "\xe1\x80", "a\u200b", "a\u00ad")
}

// P3.1: Fold, and the table of errors.
func TestFold(t *testing.T) {
	for s, want := range map[string]string{
		"a": "a", "A": "a", "Z": "z", "a.": "a", "A.": "a", "a.b": "a.b", "A.B": "a.b", "A.b.": "a.b", "aZ-9": "az-9", "1.A": "1.a", "XN--BCHER-KVA.Example.": "xn--bcher-kva.example", "LocalHost": "localhost",
		"ABCDEFGHIJKLMNOPQRSTUVWXYZ.ABCDEFGHIJKLMNOPQRSTUVWXYZ-0123456789": "abcdefghijklmnopqrstuvwxyz.abcdefghijklmnopqrstuvwxyz-0123456789",
	} {
		folds(t, s, want)
	}
}

func TestFoldOfWhatNoNameComesOf(t *testing.T) {
	unfolded(t, "", ".", "..", "...", "a..", "A..", "a.b..", "a...", ".a", ".A", ".a.", "..a", "a..b", "A..B.", "a. ", " a", "a .", "a\r\n", "a.\r\n", "a.\n")
	unfolded(t, "1", "1.", "A.1", "A.1.", "1.2.3.4", "1.2.3.4.", "-A.B", "A-.B", "A.B-", "A.B-.", "A.-", "-", "-.", "*.A", "_A.B", "A*", "A@B", "[A]", "`a", "a{", "@", "[")
	unfolded(t, "\u212a.a", "a.\u212a", "\u0130.a", "a.\u017f", "É", "é.", "Ａ", "a。", "a\uff0eb", "\xff", "A\xff", "\xc3", "A\x00", "BÜCHER.example")
}

// Great letters are A to Z: the bytes beside them, and those with another upper bit, fold to nothing else.
func TestFoldByTheByte(t *testing.T) {
	for i := range 256 {
		c := string([]byte{byte(i)})
		small := c
		if i >= 'A' && i <= 'Z' {
			small = string("abcdefghijklmnopqrstuvwxyz"[i-'A'])
		}
		for _, ends := range [][2]string{{"", ""}, {"", "b"}, {"x", "y"}, {"x.", ""}, {"x.", "y"}, {"", ".x"}} {
			s, want := ends[0]+c+ends[1], ends[0]+small+ends[1]
			if !plainly(want) {
				unfolded(t, s)
				continue
			}
			folds(t, s, want)
		}
	}
}

func TestFoldByLength(t *testing.T) {
	for _, n := range []string{wide(), deep(), wide()[1:], deep()[2:], long('a', 63), "a." + long('a', 63)} {
		folds(t, n, n)
		folds(t, n+".", n)
		folds(t, strings.ToUpper(n), n)
		folds(t, strings.ToUpper(n)+".", n)
		unfolded(t, n+"..", "."+n, strings.ToUpper(n)+"..")
	}
	for _, s := range []string{wide() + "d", deep() + "z", "a." + wide(), "a." + deep(), long('a', 64), "a." + long('a', 64), long('a', 64) + ".a"} {
		unfolded(t, s, s+".", strings.ToUpper(s), strings.ToUpper(s)+".")
	}
	unfolded(t, long('A', 1<<16), long('.', 1<<16), strings.Repeat("A.", 1<<16))
}

// P3.1: Labels, and Parent.
func TestLabels(t *testing.T) {
	for s, want := range map[string][]string{
		"a": {"a"}, "localhost": {"localhost"}, "a.b": {"a", "b"}, "mx1.example.com": {"mx1", "example", "com"}, "1.2.3.x": {"1", "2", "3", "x"}, "a.a.a": {"a", "a", "a"},
		wide(): {long('a', 63), long('b', 63), long('c', 63), long('d', 61)},
		deep(): append(slices.Repeat([]string{"a"}, 126), "z"),
	} {
		if got := name.Labels(s); !slices.Equal(got, want) {
			t.Errorf("Labels(%q): %q; want %q", s, got, want)
		}
	}
	for _, s := range []string{"", ".", "A.b", "a.b.", "a..b", "a.1", "*.a", "a.-b", wide() + "d"} {
		if got := name.Labels(s); len(got) != 0 {
			t.Errorf("Labels(%q): %q", s, got)
		}
	}
}

func TestParent(t *testing.T) {
	for s, want := range map[string]string{
		"a.b": "b", "mx1.example.com": "example.com", "example.com": "com", "a.a.a": "a.a", "1.2.3.x": "2.3.x", "a-b.c-d.e": "c-d.e",
		wide(): wide()[64:], deep(): deep()[2:],
	} {
		if got, ok := name.Parent(s); got != want || !ok {
			t.Errorf("Parent(%q): %q, %v; want %q", s, got, ok, want)
		}
	}
	for _, s := range []string{"a", "localhost", "1a", long('a', 63), "", ".", "a.", ".a", "A.b", "a.B", "a.b.", "a..b", "a.1", "1.2.3.4", "*.a.b", "-a.b", "a b.c", wide() + "d", "a." + wide()} {
		if got, ok := name.Parent(s); got != "" || ok {
			t.Errorf("Parent(%q): %q, %v; want no", s, got, ok)
		}
	}
}

// P3.2: Pattern.
func TestPattern(t *testing.T) {
	for _, s := range []string{"a", "*.a", "localhost", "*.localhost", "mx1.example.com", "*.example.com", "*.1.a", "*.xn--bcher-kva.example", wide(), "*." + wide(), "*." + deep(), "*." + long('a', 63)} {
		if !name.Pattern(s) {
			t.Errorf("Pattern(%q), of %d bytes: no", s, len(s))
		}
	}
	for _, s := range []string{"", "*", "*.", "*..", "**", "**.a", "*.*", "*.*.a", "*.*.*.a", "*a", "*a.b", "a*.b", "a.*", "a.*.b", "a.b.*", "*.a.*", "*..a", ".*.a", " *.a", "*. a", "*.a ", "*.a.", "*.a..b", "*.A", "*.-a", "*.a-", "*.1", "*.a.1", "*.1.2.3.4", "1", "a.1", "A", "a.", "?.a", "%.a", "a.b*", "*\x00.a",
		"*." + wide() + "d", "*.a." + wide(), "*." + deep() + "z", wide() + "d", "*." + long('a', 64), "a.*." + wide()[4:]} {
		if name.Pattern(s) {
			t.Errorf("Pattern(%q), of %d bytes: yes", s, len(s))
		}
	}
	for _, s := range few() {
		if name.Pattern(s) != plainly(s) || name.Pattern("*."+s) != plainly(s) {
			t.Errorf("Pattern(%q): %v; behind *.: %v", s, name.Pattern(s), name.Pattern("*."+s))
		}
		if name.Pattern("*"+s) != (strings.HasPrefix(s, ".") && plainly(s[1:])) || name.Pattern("*.*."+s) || name.Pattern(s+"*") {
			t.Errorf("Pattern(%q), with a * elsewhere", s)
		}
	}
}

// P3.2: Match.
func TestMatch(t *testing.T) {
	for _, x := range [][2]string{
		{"a", "a"}, {"a.b", "a.b"}, {"mx1.example.com", "mx1.example.com"}, {wide(), wide()}, {deep(), deep()},
		{"*.a", "b.a"}, {"*.a", "a.a"}, {"*.a.b", "c.a.b"}, {"*.a.b", "1.a.b"}, {"*.example.com", "xn--bcher-kva.example.com"},
		{"*." + wide()[64:], wide()}, {"*." + deep()[2:], deep()},
	} {
		if !name.Match(x[0], x[1]) {
			t.Errorf("Match(%q, %q): no", x[0], x[1])
		}
	}
	for _, x := range [][2]string{
		{"a", "b"}, {"a", "a.a"}, {"a.a", "a"}, {"a.b", "b"}, {"b", "a.b"}, {"a.b", "a.c"}, {"a.b", "ab"}, {"example.com", "mx1.example.com"}, {"mx1.example.com", "mx2.example.com"},
		{"*.a", "a"}, {"*.a", "c.b.a"}, {"*.a", "ba"}, {"*.a", "b.aa"}, {"*.a", "b.a.c"}, {"*.a.b", "a.b"}, {"*.a.b", "b"}, {"*.a.b", "c.b"}, {"*.a.b", "a.a.c"}, {"*.a.b", "d.c.a.b"}, {"*.a.b", "ca.b"}, {"*." + wide(), wide()},
		{"*.a", "*.a"}, {"*.a.b", "*.a.b"}, {"*.a", "*.*.a"}, {"*.*.a", "c.b.a"}, {"*.*.a", "*.b.a"}, {"a.*", "a.b"}, {"a.*.c", "a.b.c"}, {"a*.c", "ab.c"}, {"*b.c", "ab.c"},
		{"*", "a"}, {"*.", "a"}, {"*", "*"}, {"*.", "a.b"}, {"", "a"}, {"", ""}, {"a", ""}, {"*.", ""}, {"*.a", ""}, {"*.", "."}, {"*.a", ".a"}, {".", "."},
		{"A", "a"}, {"a", "A"}, {"A", "A"}, {"*.A", "b.a"}, {"*.a", "B.a"}, {"*.a", "b.A"}, {"*.A", "b.A"}, {"a.b.", "a.b"}, {"a.b", "a.b."}, {"a.b.", "a.b."}, {"*.a.", "b.a"}, {"*.a", "b.a."},
		{"a.1", "a.1"}, {"1.2.3.4", "1.2.3.4"}, {"*.1", "a.1"}, {"*.2.3.4", "1.2.3.4"}, {"*.a", "-b.a"}, {"*.a", "b-.a"}, {"*.a", "_b.a"}, {"*.a", "b c.a"}, {"*..a", "b..a"}, {"-a", "-a"}, {" a", " a"},
		{wide() + "d", wide() + "d"}, {"*." + wide(), "a." + wide()}, {"*." + deep(), "a." + deep()}, {"*." + long('a', 64), "b." + long('a', 64)},
	} {
		if name.Match(x[0], x[1]) {
			t.Errorf("Match(%q, %q): yes", x[0], x[1])
		}
	}
}

// P3.2: whatever two texts are held against each other, a match is what the words say.
func TestMatchOfAllShortTexts(t *testing.T) {
	matched := 0
	for _, p := range every.Text(5, "a", "1", "*", ".") {
		n, starred := strings.CutPrefix(p, "*.")
		for _, s := range every.Text(5, "a", "1", "*", ".") {
			want := plainly(s) && plainly(n) && s == n
			if starred {
				i := strings.Index(s, ".")
				want = plainly(s) && plainly(n) && i >= 0 && s[i+1:] == n
			}
			if name.Match(p, s) != want {
				t.Fatalf("Match(%q, %q): %v", p, s, !want)
			}
			if want {
				matched++
			}
		}
	}
	if matched < 100 {
		t.Errorf("%d matches", matched)
	}
}

// P3.2: Compare.
func TestCompare(t *testing.T) {
	for _, x := range []struct {
		a, b string
		want int
	}{
		{"", "", 0}, {"", "a", -1}, {"a", "a", 0}, {"a", "b", -1}, {"a", "aa", -1}, {"ab", "b", -1}, {"a.b", "a.b", 0}, {"b.a", "a.b", 1}, {"a-b", "a.b", -1}, {"a.b", "a0b", -1}, {"z", "aa", 1},
		{"A", "a", -1}, {"Z", "a", -1}, {"a.b.", "a.b", 1}, {"a", "\x7f", -1}, {"\x7f", "\x80", -1}, {"a", "\xff", -1}, {"\x00", "", 1}, {"a\x00", "a", 1}, {"a\x00", "a\x00", 0}, {"\x00a", "a", -1}, {"\xff", "\xff\x00", -1}, {"9", "10", 1},
		{"é", "z", 1}, {"\uffff", "\U00010000", -1}, {wide(), wide(), 0}, {wide(), wide() + "d", -1}, {wide(), deep(), 1}, {long('a', 1<<16), long('a', 1<<16) + "a", -1},
	} {
		if got := name.Compare(x.a, x.b); got != x.want {
			t.Errorf("Compare(%q, %q): %d; want %d", x.a, x.b, got, x.want)
		}
		if got := name.Compare(x.b, x.a); got != -x.want {
			t.Errorf("Compare(%q, %q): %d; want %d", x.b, x.a, got, -x.want)
		}
	}
}

// P3.2: Compare is reckoned byte by byte.
func TestCompareOfAllShortTexts(t *testing.T) {
	texts := every.Text(4, "a", "-", ".", "\x80", "B")
	for _, a := range texts {
		for _, b := range texts {
			if got, want := name.Compare(a, b), byBytes(a, b); got != want {
				t.Fatalf("Compare(%q, %q): %d; want %d", a, b, got, want)
			}
		}
	}
}

func byBytes(a, b string) int {
	for i := 0; ; i++ {
		switch {
		case i == len(a) && i == len(b):
			return 0
		case i == len(a), i < len(b) && a[i] < b[i]:
			return -1
		case i == len(b), a[i] > b[i]:
			return 1
		}
	}
}

// P3.2: Under.
func TestUnder(t *testing.T) {
	for _, prefix := range []string{"", "a", "a.", "_mta-sts.", "_25._tcp.", "*.", ".", "..", "-", " ", "A.", "\r\n", "\x00\xff", "é"} {
		for _, s := range []string{"a", "localhost", "mx1.example.com", "1.2.a", long('a', 63)} {
			if got, ok := name.Under(prefix, s); got != prefix+s || !ok {
				t.Errorf("Under(%q, %q): %q, %v", prefix, s, got, ok)
			}
		}
		for _, s := range []string{"", ".", "a.", ".a", "a..b", "A", "a.B", "1", "a.1", "1.2.3.4", "*.a", "_a.b", "-a", "a-", "a b", "é", wide() + "d"} {
			if got, ok := name.Under(prefix, s); got != "" || ok {
				t.Errorf("Under(%q, %q): %q, %v; want no", prefix, s, got, ok)
			}
		}
	}
	// What the two make together would be a name; but what stands behind is none.
	for _, x := range [][2]string{{"a.b", ""}, {"a", ".b"}, {"a", "-b"}, {"a.b", "1"}, {"a.", "1"}, {"a-", "1"}} {
		if got, ok := name.Under(x[0], x[1]); got != "" || ok {
			t.Errorf("Under(%q, %q): %q, %v; want no", x[0], x[1], got, ok)
		}
	}
}

// sized is a name of n bytes.
func sized(n int) string {
	return strings.Repeat("a.", (n-1)/2) + "zz"[n%2:]
}

func TestUnderByLength(t *testing.T) {
	for n := 1; n <= api.MaxName; n++ {
		s, prefix := sized(n), long('_', api.MaxName-n)
		if got, ok := name.Under(prefix, s); got != prefix+s || !ok {
			t.Errorf("Under of %d and %d bytes: %q, %v", len(prefix), n, got, ok)
		}
		for _, more := range []int{1, 2, 300} {
			if got, ok := name.Under(prefix+long('_', more), s); got != "" || ok {
				t.Errorf("Under of %d and %d bytes: %q, %v; want no", len(prefix)+more, n, got, ok)
			}
		}
	}
	fits, not := sized(244), sized(245)
	if got, ok := name.Under("_mta-sts.", fits); got != "_mta-sts."+fits || len(got) != 253 || !ok {
		t.Errorf("Under of MaxName bytes: %q, %v", got, ok)
	}
	if got, ok := name.Under("_mta-sts.", not); got != "" || ok {
		t.Errorf("Under of MaxName bytes and one: %q, %v; want no", got, ok)
	}
	if got, ok := name.Under(long('_', 1<<16), "a"); got != "" || ok {
		t.Errorf("Under of a long prefix: %q, %v; want no", got, ok)
	}
}

// P3.3: what was folded is a name, and folded is itself.
func TestFoldedIsFolded(t *testing.T) {
	folded := 0
	for _, s := range every.Text(6, "a", "B", "1", "-", ".") {
		n, e := name.Fold(s)
		want := strings.ToLower(strings.TrimSuffix(s, "."))
		if (e == api.OK) != plainly(want) {
			t.Fatalf("Fold(%q): %q, %v", s, n, e)
		}
		if e != api.OK {
			continue
		}
		folded++
		if n != want || !name.May(n) {
			t.Fatalf("Fold(%q): %q; May: %v", s, n, name.May(n))
		}
		folds(t, n, n)
	}
	if folded < 1000 {
		t.Errorf("%d were folded", folded)
	}
}

func TestFoldOfNames(t *testing.T) {
	for _, n := range some() {
		upper := strings.ToUpper(n)
		for _, s := range []string{n, upper, n + ".", upper + ".", mixed(n, 0), mixed(n, 1), mixed(n, 0) + ".", mixed(n, 1) + "."} {
			folds(t, s, n)
		}
		unfolded(t, n+"..", upper+"..", "."+n)
	}
}

// mixed has each other letter great.
func mixed(s string, from int) string {
	b := []byte(s)
	for i := from; i < len(b); i += 2 {
		b[i] = strings.ToUpper(string(b[i]))[0]
	}
	return string(b)
}

// P3.4.
func TestPutTogether(t *testing.T) {
	for _, n := range some() {
		labels := name.Labels(n)
		if len(labels) == 0 || strings.Join(labels, ".") != n {
			t.Errorf("Labels(%q): %q", n, labels)
			continue
		}
		parent, ok := name.Parent(n)
		if ok != (len(labels) > 1) || parent != strings.Join(labels[1:], ".") {
			t.Errorf("Parent(%q): %q, %v", n, parent, ok)
		}
		if ok && !name.May(parent) {
			t.Errorf("Parent(%q): %q is none", n, parent)
		}
		if !slices.Equal(name.Labels(parent), labels[1:]) {
			t.Errorf("Labels of %q's parent: %q", n, name.Labels(parent))
		}
	}
}

// P3.5.
func TestOneStar(t *testing.T) {
	of := slices.DeleteFunc(some(), func(n string) bool { return strings.Contains(n, "-") && len(n) > 3 })
	matched := 0
	for _, p := range of {
		star := "*." + p
		for _, n := range of {
			parent, more := name.Parent(n)
			if name.Match(star, n) != (len(name.Labels(n)) == len(name.Labels(p))+1 && strings.HasSuffix(n, "."+p)) {
				t.Fatalf("Match(%q, %q): %v", star, n, name.Match(star, n))
			}
			if name.Match(p, n) != (p == n) {
				t.Fatalf("Match(%q, %q): %v", p, n, name.Match(p, n))
			}
			if more && (name.Match(star, n) && name.Match(star, parent) || name.Match(p, n) && name.Match(p, parent)) {
				t.Fatalf("%q, or with *. ahead, matches %q and its parent", p, n)
			}
			if name.Match(n, star) || name.Match("*."+n, star) {
				t.Fatalf("%q is matched by %q, or with *. ahead", star, n)
			}
			if name.Match(star, n) {
				matched++
			}
		}
	}
	if matched < 100 {
		t.Errorf("%d matches", matched)
	}
}

// P3.6: of any three texts Compare is a row, and 0 just of the same.
func TestInARow(t *testing.T) {
	texts := append(every.Text(2, "a", "B", ".", "-", "\xff", "\x00"), "a.b", "a.b.", "a.b.c", "A.b", "aa.b", "é", wide(), deep())
	for _, a := range texts {
		for _, b := range texts {
			ab := name.Compare(a, b)
			if (ab == 0) != (a == b) || ab < -1 || ab > 1 || name.Compare(b, a) != -ab {
				t.Fatalf("Compare(%q, %q): %d; the other way: %d", a, b, ab, name.Compare(b, a))
			}
			for _, c := range texts {
				if ab <= 0 && name.Compare(b, c) <= 0 && name.Compare(a, c) > 0 {
					t.Fatalf("no row: %q, %q, %q", a, b, c)
				}
			}
		}
	}
	sorted := slices.Clone(texts)
	slices.Sort(sorted)
	slices.SortFunc(texts, name.Compare)
	if !slices.Equal(texts, sorted) {
		t.Errorf("sorted: %q; want %q", texts, sorted)
	}
}

// R1: what is told shares no memory with what was handed in, and a list of labels is one's own.
func TestNothingShared(t *testing.T) {
	s := strings.Clone("mx1.example.com")
	folded, _ := name.Fold(s)
	parent, _ := name.Parent(s)
	under, _ := name.Under("", s)
	labels := name.Labels(s)
	for _, told := range append([]string{folded, parent, under}, labels...) {
		if told == "" || within(told, s) {
			t.Errorf("%q lies within %q, or is nothing", told, s)
		}
	}
	labels[0] = "changed"
	if got := name.Labels(s); fmt.Sprint(got) != "[mx1 example com]" {
		t.Errorf("Labels: %q", got)
	}
}

// within tells whether part lies in the memory of whole.
func within(part, whole string) bool {
	p, w := uintptr(unsafe.Pointer(unsafe.StringData(part))), uintptr(unsafe.Pointer(unsafe.StringData(whole)))
	return p >= w && p < w+uintptr(len(whole))
}
