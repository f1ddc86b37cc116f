package cmd_test

import (
	"math"
	"slices"
	"strconv"
	"strings"
	"testing"
	"unsafe"

	"mailroom/api"
	"mailroom/caps"
	"mailroom/cmd"
	"mailroom/every"
)

// offers are all that a peer can, of what a command hangs on.
func offers() []caps.Caps {
	var out []caps.Caps
	for bits := range 1 << 7 {
		is := func(i int) bool { return bits>>i&1 == 1 }
		c := caps.Caps{Size: is(0), RequireTLS: is(1), Dsn: is(2), StartTLS: is(3), Pipelining: is(4), EightBit: is(5)}
		if is(6) {
			c.Most = 5
		}
		out = append(out, c)
	}
	return out
}

// The chapter's examples of what is made.
func TestExamples(t *testing.T) {
	can := caps.Caps{StartTLS: true, Pipelining: true, RequireTLS: true, Dsn: true, EightBit: true, Size: true, Most: 1000}
	c, e := cmd.Mail("a@b.c", can, 100, true, "x")
	makes(t, c, e, "MAIL FROM:<a@b.c> SIZE=100 REQUIRETLS ENVID=x")
	c, e = cmd.Mail("a@b.c", caps.Caps{}, 100, true, "x")
	makes(t, c, e, "MAIL FROM:<a@b.c>")
	c, e = cmd.Mail("", caps.Caps{}, 100, true, "x")
	makes(t, c, e, "MAIL FROM:<>")
	c, e = cmd.Rcpt("d@e.f", caps.Caps{Dsn: true}, true)
	makes(t, c, e, "RCPT TO:<d@e.f> NOTIFY=NEVER")
}

// makes wants that a command was made, whose line is that.
func makes(t *testing.T, c cmd.Cmd, e api.Errno, line string) {
	t.Helper()
	if e != api.OK {
		t.Errorf("want %q: %v", line, e)
		return
	}
	is(t, c, line)
}

// unmade wants that no command was made.
func unmade(t *testing.T, c cmd.Cmd, e api.Errno, of ...string) {
	t.Helper()
	if !equal(c, cmd.Cmd{}) || c.Params != nil || e != api.ErrForm {
		t.Errorf("of %q: %+v, %v; want ErrForm", of, c, e)
	}
}

// P7.2, P7.4: Mail, whatever the peer can, and whatever is asked for.
func TestMail(t *testing.T) {
	for _, can := range offers() {
		for _, from := range []string{"", "a@b.c", "A@B.C", `"a> b=c"@d.e`} {
			for _, size := range []int{0, 1, 100, 1 << 40, math.MaxInt} {
				for _, require := range []bool{false, true} {
					for _, id := range []string{"", "x", "-", "aZ09-", strings.Repeat("i", 32)} {
						want := "MAIL FROM:<" + from + ">"
						if can.Size {
							want += " SIZE=" + strconv.Itoa(size)
						}
						if can.RequireTLS && require {
							want += " REQUIRETLS"
						}
						if can.Dsn && id != "" {
							want += " ENVID=" + id
						}
						c, e := cmd.Mail(from, can, size, require, id)
						makes(t, c, e, want)
					}
				}
			}
		}
	}
}

// P7.2: what Mail refuses, also where the peer can't do what is asked for.
func TestNoMail(t *testing.T) {
	for _, can := range offers() {
		for _, require := range []bool{false, true} {
			for _, size := range []int{-1, -100, math.MinInt} {
				c, e := cmd.Mail("a@b.c", can, size, require, "x")
				unmade(t, c, e, strconv.Itoa(size))
			}
			for _, id := range []string{strings.Repeat("i", 33), strings.Repeat("i", 5000), " ", "a b", "a=b", "a_b", "a.b", "<>", "ü", "\x00", "a\r\n", "a\t"} {
				for _, from := range []string{"", "a@b.c"} {
					c, e := cmd.Mail(from, can, 1, require, id)
					unmade(t, c, e, from, id)
				}
			}
			for _, from := range []string{" ", "a", "a@", "@b.c", "<>", "<a@b.c>", "a@b.c.", "a b@c.d", "a@b.c\r\n", "a@1.2", `"a@b.c`, "ü@b.c", strings.Repeat("l", 65) + "@b.c", "a@b.c>", "a@b.c> X=1"} {
				c, e := cmd.Mail(from, can, 1, require, "x")
				unmade(t, c, e, from)
			}
		}
	}
	for b := range 256 {
		ch := string([]byte{byte(b)})
		fits := b >= 'a' && b <= 'z' || b >= 'A' && b <= 'Z' || b >= '0' && b <= '9' || b == '-'
		for _, id := range []string{ch, ch + "x", "x" + ch, "x" + ch + "x", strings.Repeat("x", 31) + ch} {
			for _, can := range []caps.Caps{{}, {Dsn: true}} {
				c, e := cmd.Mail("", can, 0, false, id)
				switch {
				case !fits:
					unmade(t, c, e, id)
				case can.Dsn:
					makes(t, c, e, "MAIL FROM:<> ENVID="+id)
				default:
					makes(t, c, e, "MAIL FROM:<>")
				}
			}
		}
	}
}

// P7.2: the longest command that Mail makes is not too long.
func TestLongestMail(t *testing.T) {
	from := strings.Repeat("l", 64) + "@" + wide()
	c, e := cmd.Mail(from, caps.Caps{Size: true, RequireTLS: true, Dsn: true}, math.MaxInt, true, strings.Repeat("i", 32))
	makes(t, c, e, "MAIL FROM:<"+from+"> SIZE=9223372036854775807 REQUIRETLS ENVID="+strings.Repeat("i", 32))
	c, e = cmd.Rcpt(from, caps.Caps{Dsn: true}, true)
	makes(t, c, e, "RCPT TO:<"+from+"> NOTIFY=NEVER")
}

// P7.2, P7.4: Rcpt, whatever the peer can, and whatever is asked for.
func TestRcpt(t *testing.T) {
	for _, can := range offers() {
		for _, never := range []bool{false, true} {
			for _, to := range []string{"d@e.f", "D@E.F", `"a> b=c"@d.e`} {
				want := "RCPT TO:<" + to + ">"
				if can.Dsn && never {
					want += " NOTIFY=NEVER"
				}
				c, e := cmd.Rcpt(to, can, never)
				makes(t, c, e, want)
			}
			for _, to := range []string{"", " ", "d", "d@", "@e.f", "<>", "<d@e.f>", "d@e.f.", "d e@f.g", "d@1.2", `"d@e.f`, "d@e.f NOTIFY=NEVER", "ü@e.f", "d@e.f\r\n"} {
				c, e := cmd.Rcpt(to, can, never)
				unmade(t, c, e, to)
			}
		}
	}
}

// pieces are commands of each kind, all of which may be.
func pieces() []cmd.Cmd {
	out := []cmd.Cmd{{Verb: cmd.StartTLS}, {Verb: cmd.Data}, {Verb: cmd.Quit}, command(cmd.Ehlo, "a"), command(cmd.Ehlo, "b"), command(cmd.Ehlo, "mx.example"), command(cmd.Ehlo, wide())}
	texts := [][]string{nil, {"A"}, {"A=1"}, {"A1"}, {"B"}, {"A", "B"}, {"B", "A"}, {"A=B"}, {"A=1", "B=2"}, {"A=>"}, {"A=<a@b.c>"}, {"A=\"", "B=\"@b.c>"}, {"A", "B", "C", "D", "E", "F", "G", "H=8"}, {"SIZE=100", "REQUIRETLS", "ENVID=x"}, {"X=" + strings.Repeat("x", 300)}}
	for _, row := range texts {
		out = append(out, command(cmd.MailFrom, "", row...))
		for _, a := range append([]string{"a@b.c", "A@b.c", "a@B.c", "a=1@b.c", strings.Repeat("l", 64) + "@b.c"}, quoted...) {
			out = append(out, command(cmd.MailFrom, a, row...), command(cmd.RcptTo, a, row...))
		}
	}
	return out
}

// P7.3, P7.5: what is shown is parsed as it was, and is one line that is short enough.
func TestThereAndBack(t *testing.T) {
	for _, c := range pieces() {
		s, e := cmd.Show(c)
		if e != api.OK || s != lineOf(c) {
			t.Errorf("Show(%+v): %q, %v", c, s, e)
		}
		if back, e := cmd.Parse(s); !equal(back, c) || e != api.OK {
			t.Errorf("%q: %+v, %v; want %+v", s, back, e, c)
		}
		if len(s) > longest || strings.ContainsFunc(s, func(r rune) bool { return r < 32 || r > 126 }) {
			t.Errorf("%q is no line", s)
		}
	}
}

// P7.3: what is parsed, shown, is parsed so again, and is the line, but for great and small letters.
func TestBackAndThere(t *testing.T) {
	for _, c := range pieces() {
		great := lineOf(c)
		n := len(verbs[c.Verb-1].word)
		for _, line := range []string{great, strings.ToLower(great[:n]) + great[n:], strings.ToLower(great[:1]) + great[1:]} {
			back, e := cmd.Parse(line)
			if !equal(back, c) || e != api.OK {
				t.Errorf("%q: %+v, %v; want %+v", line, back, e, c)
			}
			if s, e := cmd.Show(back); s != great || e != api.OK {
				t.Errorf("%q, parsed and shown: %q, %v", line, s, e)
			}
		}
	}
	// Just these lines are parsed that differ from what is shown in letters of the word and of the names.
	for _, line := range append(every.Text(5, "mail from:<>", " ", "a", "B=c", "=", ">"), every.Text(4, "Rcpt To:<a@b.c>", " ", "Ab", "=C")...) {
		c, e := cmd.Parse(line)
		if e != api.OK {
			continue
		}
		s, e := cmd.Show(c)
		again, f := cmd.Parse(s)
		if e != api.OK || f != api.OK || !equal(again, c) || !strings.EqualFold(s, line) || len(s) != len(line) {
			t.Errorf("%q: %+v, shown %q, parsed %+v", line, c, s, again)
		}
	}
}

// P7.6: two commands with the same line are the same, and no line is one of two verbs.
func TestOneVerb(t *testing.T) {
	lines := map[string]cmd.Cmd{}
	for _, c := range pieces() {
		s, _ := cmd.Show(c)
		if other, is := lines[s]; is && (!cmd.Same(c, other) || !equal(c, other)) {
			t.Errorf("%q is the line of %+v, and of %+v", s, c, other)
		}
		lines[s] = c
		for _, x := range verbs {
			if n := len(x.word); c.Verb != x.verb && len(s) >= n && strings.EqualFold(s[:n], x.word) {
				t.Errorf("%q begins by %q, too", s, x.word)
			}
		}
	}
	if len(lines) != len(pieces()) {
		t.Errorf("%d lines of %d commands", len(lines), len(pieces()))
	}
}

// R1: a call tells the same whenever it is made, and what is handed in stays.
func TestNothingChanged(t *testing.T) {
	list := []cmd.Param{{Name: "A", Value: "1"}, {Name: "B"}, {Name: "a", Value: "="}, {Name: "A"}}
	ahead := slices.Clone(list)
	for n := range len(list) + 1 {
		c := cmd.Cmd{Verb: cmd.MailFrom, Params: list[:n:len(list)]}
		first, e := cmd.Show(c)
		again, f := cmd.Show(c)
		if first != again || e != f || cmd.May(c) != may(c) {
			t.Errorf("%+v: %q, %v, and again %q, %v", c, first, e, again, f)
		}
		cmd.Get(c, "A")
		cmd.Same(c, c)
		if !slices.Equal(list, ahead) {
			t.Errorf("what was handed in: %+v", list)
		}
	}
}

// R1: slices that are written over behind a call change nothing that is told elsewhere.
func TestNoListShared(t *testing.T) {
	c, e := cmd.Parse("MAIL FROM:<a@b.c> A=1 B")
	other, f := cmd.Parse("MAIL FROM:<a@b.c> A=1 B")
	if e != api.OK || f != api.OK {
		t.Fatal(e, f)
	}
	c.Params[0], c.Params[1] = cmd.Param{Name: "X"}, cmd.Param{Name: "Y"}
	c.Params = append(c.Params, cmd.Param{Name: "Z"})
	is(t, other, "MAIL FROM:<a@b.c> A=1 B")

	can := caps.Caps{Size: true, RequireTLS: true, Dsn: true}
	m, _ := cmd.Mail("a@b.c", can, 1, true, "x")
	n, _ := cmd.Mail("a@b.c", can, 1, true, "x")
	r, _ := cmd.Rcpt("a@b.c", can, true)
	s, _ := cmd.Rcpt("a@b.c", can, true)
	for i := range m.Params {
		m.Params[i] = cmd.Param{Name: "X", Value: "changed"}
	}
	r.Params[0] = cmd.Param{Name: "X", Value: "changed"}
	is(t, n, "MAIL FROM:<a@b.c> SIZE=1 REQUIRETLS ENVID=x")
	is(t, s, "RCPT TO:<a@b.c> NOTIFY=NEVER")

	line, _ := cmd.Show(n)
	value, _ := cmd.Get(n, "ENVID")
	n.Params[2].Value = "changed"
	if line != "MAIL FROM:<a@b.c> SIZE=1 REQUIRETLS ENVID=x" || value != "x" {
		t.Errorf("%q, %q", line, value)
	}
}

// R1: what is told has bytes of its own.
func TestNoBytesShared(t *testing.T) {
	apart := func(what, told, handed string) {
		t.Helper()
		from, to := start(handed), start(handed)+uintptr(len(handed))
		if told == "" || start(told) >= from && start(told) < to {
			t.Errorf("%s: %q shares the bytes of %q", what, told, handed)
		}
	}
	for _, s := range []string{"EHLO mx.example", `RCPT TO:<"a b"@mx.example> NOTIFY=never-ever`} {
		line := strings.Clone(s)
		c, e := cmd.Parse(line)
		if e != api.OK {
			t.Fatal(s, e)
		}
		apart("Parse", c.Arg, line)
		for _, p := range c.Params {
			apart("Parse", p.Name, line)
			apart("Parse", p.Value, line)
			value, _ := cmd.Get(c, p.Name)
			apart("Get", value, p.Value)
		}
		shown, _ := cmd.Show(c)
		apart("Show", shown, c.Arg)
	}
	from, id := strings.Clone("sender@mx.example"), strings.Clone("an-envid")
	m, _ := cmd.Mail(from, caps.Caps{Dsn: true}, 0, false, id)
	apart("Mail", m.Arg, from)
	apart("Mail", m.Params[0].Value, id)
	r, _ := cmd.Rcpt(from, caps.Caps{}, false)
	apart("Rcpt", r.Arg, from)
}

// start tells where the bytes of s stand.
func start(s string) uintptr {
	return uintptr(unsafe.Pointer(unsafe.StringData(s)))
}

// R1: no call panics, whatever it is handed.
func TestWhatever(t *testing.T) {
	texts := []string{"", "\x00", "\xff\xfe", "MAIL FROM:<", "MAIL FROM:>", strings.Repeat("<", 600), "MAIL FROM:" + strings.Repeat(">", 500), strings.Repeat("\"", 5000), "MAIL FROM:<" + strings.Repeat("a", 100000)}
	for _, s := range texts {
		cmd.Parse(s)
		cmd.Mail(s, caps.Caps{Size: true, Dsn: true, Most: math.MinInt}, math.MinInt, true, s)
		cmd.Rcpt(s, caps.Caps{Dsn: true}, true)
		for v := range 256 {
			c := cmd.Cmd{Verb: uint8(v), Arg: s, Params: []cmd.Param{{}, {Name: s, Value: s}}}
			cmd.May(c)
			cmd.Show(c)
			cmd.Get(c, s)
			cmd.Same(c, c)
		}
	}
}
