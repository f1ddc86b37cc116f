package cmd_test

import (
	"regexp"
	"slices"
	"strings"
	"testing"

	"mailroom/api"
	"mailroom/cmd"
	"mailroom/name"
)

// longest is how many bytes a line may have: MaxLine less 2.
const longest = 510

// verbs are all of them, with the words of their lines.
var verbs = []struct {
	verb uint8
	word string
}{
	{1, "EHLO"}, {2, "STARTTLS"}, {3, "MAIL FROM:"}, {4, "RCPT TO:"}, {5, "DATA"}, {6, "QUIT"},
}

// What the chapter's words on parameters, on a path and on a line say, as expressions.
const (
	atom      = "[a-zA-Z0-9!#$%&'*+/=?^_`{|}~-]+"
	localPart = atom + `(?:[.]` + atom + `)*|"(?:[ !#-[\]-~]|\\[ -~])*"`
	pathExp   = `<(?:(` + localPart + `)@([a-zA-Z0-9.-]+))?>`
	paramExp  = `[a-zA-Z][a-zA-Z0-9]{0,31}(?:=[!-<>-~]+)?`
)

var (
	nameOnly    = regexp.MustCompile(`^[A-Z][A-Z0-9]{0,31}$`)
	valueOnly   = regexp.MustCompile(`^[!-<>-~]*$`)
	addressOnly = regexp.MustCompile(`^(` + localPart + `)@([a-zA-Z0-9.-]+)$`)
	lineOnly    = regexp.MustCompile(`^(?:(?i:(EHLO)) ([a-z0-9.-]+)|(?i:(STARTTLS|DATA|QUIT))|(?i:(MAIL FROM:|RCPT TO:))(` + pathExp + `)((?: ` + paramExp + `)*))$`)
)

// isAddress tells by the chapters' words alone whether s is an address.
func isAddress(s string) bool {
	m := addressOnly.FindStringSubmatch(s)
	return m != nil && len(m[1]) <= 64 && name.May(strings.ToLower(m[2]))
}

// may tells by the chapter's words alone whether a command may be.
func may(c cmd.Cmd) bool {
	seen := map[string]int{}
	for _, p := range c.Params {
		seen[p.Name]++
		if !nameOnly.MatchString(p.Name) || !valueOnly.MatchString(p.Value) || seen[p.Name] > 1 {
			return false
		}
	}
	switch c.Verb {
	case 1:
		return name.May(c.Arg) && len(c.Params) == 0
	case 2, 5, 6:
		return c.Arg == "" && len(c.Params) == 0
	case 3:
		return (c.Arg == "" || isAddress(c.Arg)) && len(c.Params) <= 8
	case 4:
		return isAddress(c.Arg) && len(c.Params) <= 8
	}
	return false
}

// lineOf tells by the chapter's words alone the line of a command that may be, however long it is.
func lineOf(c cmd.Cmd) string {
	words := []string{verbs[c.Verb-1].word}
	switch c.Verb {
	case 1:
		words = append(words, c.Arg)
	case 3, 4:
		words[0] += "<" + c.Arg + ">"
	}
	for _, p := range c.Params {
		if p.Value != "" {
			p.Name += "=" + p.Value
		}
		words = append(words, p.Name)
	}
	return strings.Join(words, " ")
}

// plainly tells by the chapter's words alone what command a line is of.
func plainly(line string) (cmd.Cmd, api.Errno) {
	if len(line) > longest {
		return cmd.Cmd{}, api.ErrTooLarge
	}
	m := lineOnly.FindStringSubmatch(line)
	if m == nil || strings.ContainsFunc(line, func(r rune) bool { return r > 127 }) {
		return cmd.Cmd{}, api.ErrForm
	}
	word := strings.ToUpper(m[1] + m[3] + m[4])
	c := cmd.Cmd{Arg: m[2]}
	for _, x := range verbs {
		if x.word == word {
			c.Verb = x.verb
		}
	}
	if m[5] != "" {
		c.Arg = m[5][1 : len(m[5])-1]
	}
	for _, s := range strings.Fields(m[8]) {
		n, value, _ := strings.Cut(s, "=")
		c.Params = append(c.Params, cmd.Param{Name: strings.ToUpper(n), Value: value})
	}
	if !may(c) {
		return cmd.Cmd{}, api.ErrForm
	}
	return c, api.OK
}

// command puts a command together: its parameters are texts, with an equals sign ahead of what is their value.
func command(verb uint8, arg string, texts ...string) cmd.Cmd {
	c := cmd.Cmd{Verb: verb, Arg: arg}
	for _, s := range texts {
		n, value, _ := strings.Cut(s, "=")
		c.Params = append(c.Params, cmd.Param{Name: n, Value: value})
	}
	return c
}

// is wants that a command may be, and has that line.
func is(t *testing.T, c cmd.Cmd, line string) {
	t.Helper()
	if !cmd.May(c) || !may(c) {
		t.Errorf("May(%+v): %v; by the chapter's words %v", c, cmd.May(c), may(c))
	}
	if s, e := cmd.Show(c); s != line || e != api.OK {
		t.Errorf("Show(%+v): %q, %v; want %q", c, s, e, line)
	}
	if back, e := cmd.Parse(line); !cmd.Same(back, c) || e != api.OK {
		t.Errorf("Parse(%q): %+v, %v; want %+v", line, back, e, c)
	}
}

// none wants that a command may not be.
func none(t *testing.T, list ...cmd.Cmd) {
	t.Helper()
	for _, c := range list {
		if cmd.May(c) || may(c) {
			t.Errorf("May(%.300q): %v; by the chapter's words %v", c, cmd.May(c), may(c))
		}
		if s, e := cmd.Show(c); s != "" || e != api.ErrForm {
			t.Errorf("Show(%.300q): %q, %v; want ErrForm", c, s, e)
		}
	}
}

// args are arguments, of which each verb may have some.
var args = []string{
	"", "mx.example", "localhost", "a", "Mx.Example", "mx.example.", "1.2", "a@b.c", "A.b@C.D", `"a b"@c.d`, `"<>"@c.d`, `"a>b=c"@d.e`,
	"a@", "@b.c", "a@b.c.", "a b@c.d", "<a@b.c>", "<>", " ", " a", "a ", "\r\n", "\x00", "ü@b.c", "a@ü.c",
}

// rows are rows of parameters, of which some may be.
var rows = [][]string{
	nil, {"SIZE=100"}, {"REQUIRETLS"}, {"SIZE=100", "REQUIRETLS", "ENVID=x"}, {"A", "B", "C", "D", "E", "F", "G", "H"}, {"A=1", "A1=2"},
	{""}, {"=x"}, {"A", "B", "C", "D", "E", "F", "G", "H", "I"}, {"A", "A"}, {"A=1", "B", "A=2"}, {"size=1"}, {"1A"}, {"A=b=c"}, {"A=\x7f"}, {"A=b c"}, {"A "},
}

// The chapter's table: each number as a verb, with arguments and parameters of each kind.
func TestVerbs(t *testing.T) {
	count := [256]int{}
	for v := range 256 {
		for _, arg := range args {
			for _, row := range rows {
				c := command(uint8(v), arg, row...)
				if !may(c) {
					none(t, c)
					continue
				}
				is(t, c, lineOf(c))
				count[v]++
			}
		}
	}
	if want := [256]int{0, 3, 1, 6 * 6, 5 * 6, 1, 1}; count != want {
		t.Errorf("so many may be of each verb: %v; want %v", count, want)
	}
}

// P7.1: the constants are the chapter's numbers, and the lines of each verb.
func TestLines(t *testing.T) {
	if got := []uint8{cmd.Ehlo, cmd.StartTLS, cmd.MailFrom, cmd.RcptTo, cmd.Data, cmd.Quit}; !slices.Equal(got, []uint8{1, 2, 3, 4, 5, 6}) || cmd.MaxParams != 8 {
		t.Errorf("%v, %d", got, cmd.MaxParams)
	}
	is(t, command(cmd.Ehlo, "mx.example"), "EHLO mx.example")
	is(t, command(cmd.StartTLS, ""), "STARTTLS")
	is(t, command(cmd.MailFrom, ""), "MAIL FROM:<>")
	is(t, command(cmd.MailFrom, "a@b.c"), "MAIL FROM:<a@b.c>")
	is(t, command(cmd.MailFrom, "A.b@Mail.Example", "SIZE=0", "REQUIRETLS"), "MAIL FROM:<A.b@Mail.Example> SIZE=0 REQUIRETLS")
	is(t, command(cmd.MailFrom, "", "X"), "MAIL FROM:<> X")
	is(t, command(cmd.RcptTo, "a@b.c"), "RCPT TO:<a@b.c>")
	is(t, command(cmd.RcptTo, "a@b.c", "NOTIFY=NEVER", "ORCPT=rfc822;a@b.c"), "RCPT TO:<a@b.c> NOTIFY=NEVER ORCPT=rfc822;a@b.c")
	is(t, command(cmd.Data, ""), "DATA")
	is(t, command(cmd.Quit, ""), "QUIT")
	none(t, command(cmd.RcptTo, ""), command(cmd.Ehlo, ""), command(cmd.Ehlo, "Mx.example"), command(cmd.Data, "x"), command(cmd.Quit, "", "X"), command(cmd.StartTLS, "", ""), cmd.Cmd{})
	// No list, and a list of nothing, are the same.
	for _, v := range []uint8{cmd.StartTLS, cmd.Data, cmd.Quit, cmd.MailFrom} {
		is(t, cmd.Cmd{Verb: v, Params: []cmd.Param{}}, lineOf(cmd.Cmd{Verb: v}))
	}
}

// P7.1: how many parameters there may be.
func TestHowManyParams(t *testing.T) {
	var texts []string
	for i := range 12 {
		for _, v := range []uint8{cmd.MailFrom, cmd.RcptTo} {
			c := command(v, "a@b.c", texts...)
			if i <= 8 {
				is(t, c, lineOf(c))
			} else {
				none(t, c)
				refuses(t, api.ErrForm, lineOf(c))
			}
		}
		texts = append(texts, "P"+string(rune('A'+i))+"="+strings.Repeat("x", i))
	}
	none(t, command(cmd.MailFrom, "", slices.Repeat([]string{"A"}, 100000)...))
}

// P7.1: no two parameters of one name, wherever they stand, and whatever values they have.
func TestTwoOfOneName(t *testing.T) {
	for n := 2; n <= 8; n++ {
		for i := range n {
			for j := range i {
				var texts []string
				for k := range n {
					texts = append(texts, "P"+string(rune('A'+k))+"=1")
				}
				c := command(cmd.MailFrom, "", texts...)
				is(t, c, lineOf(c))
				for _, value := range []string{"1", "2", ""} {
					c.Params[i] = cmd.Param{Name: c.Params[j].Name, Value: value}
					none(t, c)
					refuses(t, api.ErrForm, lineOf(c))
					refuses(t, api.ErrForm, strings.ToLower(lineOf(c)))
				}
			}
		}
	}
	refuses(t, api.ErrForm, "MAIL FROM:<> a A", "MAIL FROM:<> Ab=1 X aB=1", "RCPT TO:<a@b.c> x=1 X=2", "RCPT TO:<a@b.c> A B C A")
	// Names of which one begins by the other are two.
	is(t, command(cmd.MailFrom, "", "A=1", "AA=1", "A1=1", "B"), "MAIL FROM:<> A=1 AA=1 A1=1 B")
}

// P7.1: how long names are, and of which bytes.
func TestNames(t *testing.T) {
	good := []string{"A", "Z", "A0", "Z9", "AZ", "SIZE", "X8BITMIME", strings.Repeat("A", 31), strings.Repeat("Z", 32), "A" + strings.Repeat("9", 31)}
	bad := []string{"", "0", "9A", "a", "Aa", "aA", "-", "A-", "A-B", "A_B", "A.B", " ", " A", "A ", "A B", "A\t", "Ä", "A\u017f", "\u212a", "A\u212a", strings.Repeat("A", 33), "A" + strings.Repeat("9", 32), strings.Repeat("A", 5000)}
	for _, v := range []uint8{cmd.MailFrom, cmd.RcptTo} {
		for _, value := range []string{"", "x"} {
			for _, n := range good {
				c := cmd.Cmd{Verb: v, Arg: "a@b.c", Params: []cmd.Param{{Name: "B"}, {Name: n, Value: value}}}
				is(t, c, lineOf(c))
			}
			for _, n := range bad {
				c := cmd.Cmd{Verb: v, Arg: "a@b.c", Params: []cmd.Param{{Name: "B"}, {Name: n, Value: value}}}
				none(t, c)
				c.Params[0], c.Params[1] = c.Params[1], c.Params[0]
				none(t, c)
			}
		}
	}
	for b := range 256 {
		c := byte(b)
		for i, n := range []string{"", "A", "B7"} {
			s := n + string([]byte{c})
			x := cmd.Cmd{Verb: cmd.MailFrom, Params: []cmd.Param{{Name: s}}}
			if c >= 'A' && c <= 'Z' || i > 0 && c >= '0' && c <= '9' {
				is(t, x, "MAIL FROM:<> "+s)
			} else {
				none(t, x)
			}
			x.Params[0].Name = s + "X"
			if c >= 'A' && c <= 'Z' || i > 0 && c >= '0' && c <= '9' {
				is(t, x, "MAIL FROM:<> "+s+"X")
			} else {
				none(t, x)
			}
		}
	}
}

// P7.1: of which bytes values are.
func TestValues(t *testing.T) {
	for b := range 256 {
		c := string([]byte{byte(b)})
		fits := b >= 33 && b <= 126 && b != '='
		for _, value := range []string{c, c + c, "x" + c, c + "x", "x" + c + "x", "!" + c + "~"} {
			x := cmd.Cmd{Verb: cmd.RcptTo, Arg: "a@b.c", Params: []cmd.Param{{Name: "A", Value: value}, {Name: "B"}}}
			if fits {
				is(t, x, "RCPT TO:<a@b.c> A="+value+" B")
			} else {
				none(t, x)
				if b != ' ' {
					refuses(t, api.ErrForm, "RCPT TO:<a@b.c> A="+value+" B")
				}
			}
		}
	}
	is(t, command(cmd.MailFrom, "", "A"), "MAIL FROM:<> A")
	is(t, command(cmd.MailFrom, "", "A=", "B=<>", "C=\"", "D=>", "E=<a@b.c>", "F=:"), "MAIL FROM:<> A B=<> C=\" D=> E=<a@b.c> F=:")
	none(t, command(cmd.MailFrom, "", "A=="), command(cmd.MailFrom, "", "A==b"), command(cmd.MailFrom, "", "A=b="), command(cmd.MailFrom, "", "A=ü"))
}

// P7.1: a line as long as may be, and one that is a byte longer.
func TestHowLongLinesAre(t *testing.T) {
	for _, c := range []cmd.Cmd{
		command(cmd.MailFrom, "", "A=", "B"),
		command(cmd.MailFrom, "a@b.c", "A=", "B=x"),
		command(cmd.RcptTo, `"a b"@b.c`, "A=", "B", "C", "D", "E", "F", "G", "H"),
	} {
		for _, size := range []int{1, 100, longest - 1, longest, longest + 1, longest + 2, 5000} {
			c.Params[0].Value = ""
			if more := size - len(lineOf(c)) - 1; more > 0 {
				c.Params[0].Value = strings.Repeat("v", more)
			}
			line := lineOf(c)
			if len(line) <= longest {
				is(t, c, line)
				continue
			}
			if s, e := cmd.Show(c); s != "" || e != api.ErrTooLarge || !cmd.May(c) {
				t.Errorf("a line of %d bytes: %q, %v; want ErrTooLarge; May: %v", len(line), s, e, cmd.May(c))
			}
			refuses(t, api.ErrTooLarge, line)
		}
	}
	// A command that may not be is refused for that first, one too long to be read for its length.
	none(t, command(cmd.MailFrom, "", "A="+strings.Repeat("v", 600)+" "), command(cmd.Quit, strings.Repeat("x", 600)))
	refuses(t, api.ErrForm, strings.Repeat("x", longest), strings.Repeat(" ", longest), "QUIT"+strings.Repeat(" ", longest-4))
	refuses(t, api.ErrTooLarge, strings.Repeat("x", longest+1), strings.Repeat("\x00", 100000), "QUIT"+strings.Repeat(" ", longest-3))
	// The longest ones of what is no parameter are short enough.
	long := strings.Repeat("l", 64) + "@" + wide()
	is(t, command(cmd.Ehlo, wide()), "EHLO "+wide())
	is(t, command(cmd.MailFrom, long), "MAIL FROM:<"+long+">")
	is(t, command(cmd.RcptTo, long), "RCPT TO:<"+long+">")
	none(t, command(cmd.Ehlo, "e"+wide()), command(cmd.MailFrom, "l"+long), command(cmd.RcptTo, long+"e"))
	refuses(t, api.ErrForm, "EHLO e"+wide(), "MAIL FROM:<l"+long+">", "RCPT TO:<"+long+"e>")
}

// wide is a name of MaxName bytes.
func wide() string {
	return strings.Repeat("a", 63) + "." + strings.Repeat("b", 63) + "." + strings.Repeat("c", 63) + "." + strings.Repeat("d", 61)
}

// P7.1: Get, of names that there are, and not.
func TestGet(t *testing.T) {
	c := command(cmd.MailFrom, "SIZE@b.c", "SIZE=100", "REQUIRETLS", "ENVID=SIZE", "A=1", "AA=2")
	for n, want := range map[string]string{"SIZE": "100", "REQUIRETLS": "", "ENVID": "SIZE", "A": "1", "AA": "2"} {
		if got, ok := cmd.Get(c, n); got != want || !ok {
			t.Errorf("Get(%q): %q, %v; want %q", n, got, ok, want)
		}
	}
	for _, n := range []string{"", "size", "Size", "SIZ", "SIZES", "AAA", "100", "1", "SIZE=100", " SIZE", "SIZE@b.c", "MAIL FROM:", "\x00", "ſIZE"} {
		if got, ok := cmd.Get(c, n); got != "" || ok {
			t.Errorf("Get(%q): %q, %v; want none", n, got, ok)
		}
		if got, ok := cmd.Get(cmd.Cmd{}, n); got != "" || ok {
			t.Errorf("Get(%q) of nothing: %q, %v; want none", n, got, ok)
		}
	}
	for i := range 8 {
		var texts []string
		for k := range 8 {
			texts = append(texts, "P"+string(rune('A'+k))+"="+string(rune('a'+k)))
		}
		c := command(cmd.RcptTo, "a@b.c", texts...)
		if got, ok := cmd.Get(c, "P"+string(rune('A'+i))); got != string(rune('a'+i)) || !ok {
			t.Errorf("the parameter %d: %q, %v", i, got, ok)
		}
	}
	back, _ := cmd.Parse("mail from:<> size=7 x")
	if got, ok := cmd.Get(back, "SIZE"); got != "7" || !ok {
		t.Errorf("SIZE: %q, %v", got, ok)
	}
	if got, ok := cmd.Get(back, "X"); got != "" || !ok {
		t.Errorf("X: %q, %v", got, ok)
	}
}

// P7.1: Same, of commands that differ in one thing alone.
func TestSame(t *testing.T) {
	base := command(cmd.MailFrom, "a@b.c", "A=1", "B")
	list := []cmd.Cmd{
		base,
		command(cmd.RcptTo, "a@b.c", "A=1", "B"),
		command(0, "a@b.c", "A=1", "B"),
		command(cmd.MailFrom, "", "A=1", "B"),
		command(cmd.MailFrom, "a@b.d", "A=1", "B"),
		command(cmd.MailFrom, "a@B.c", "A=1", "B"),
		command(cmd.MailFrom, "A@b.c", "A=1", "B"),
		command(cmd.MailFrom, "a@b.c"),
		command(cmd.MailFrom, "a@b.c", "A=1"),
		command(cmd.MailFrom, "a@b.c", "B"),
		command(cmd.MailFrom, "a@b.c", "B", "A=1"),
		command(cmd.MailFrom, "a@b.c", "A=1", "B", "C"),
		command(cmd.MailFrom, "a@b.c", "A=1", "B", "B"),
		command(cmd.MailFrom, "a@b.c", "A=2", "B"),
		command(cmd.MailFrom, "a@b.c", "A", "B"),
		command(cmd.MailFrom, "a@b.c", "A=1", "B=1"),
		command(cmd.MailFrom, "a@b.c", "A=1", "C"),
		command(cmd.MailFrom, "a@b.c", "a=1", "B"),
		{},
		{Verb: cmd.Data},
		{Verb: cmd.Quit},
		{Arg: "a@b.c"},
	}
	for i, a := range list {
		for j, b := range list {
			b.Params = slices.Clone(b.Params)
			if got := cmd.Same(a, b); got != (i == j) {
				t.Errorf("Same(%+v, %+v): %v", a, b, got)
			}
		}
	}
	if a, b := (cmd.Cmd{Verb: cmd.Data}), (cmd.Cmd{Verb: cmd.Data, Params: []cmd.Param{}}); !cmd.Same(a, b) || !cmd.Same(b, a) {
		t.Error("no list, and a list of nothing, are not the same")
	}
}
