package addr_test

import (
	"math"
	"regexp"
	"slices"
	"strings"
	"testing"

	"mailroom/addr"
	"mailroom/api"
	"mailroom/every"
)

// to makes recipients of addresses.
func to(addrs ...string) []api.Rcpt {
	var out []api.Rcpt
	for _, a := range addrs {
		out = append(out, api.Rcpt{To: a})
	}
	return out
}

func mail() api.Mail {
	return api.Mail{From: "a@b.c", Rcpts: to("x@d.e", "y@d.e"), Envid: "id-1", Text: "Subject: x\r\n\r\nhi\r\n"}
}

// answers wants what Mail says of a mail, with MaxRcpts and MaxText.
func answers(t *testing.T, m api.Mail, want api.Errno) {
	t.Helper()
	if e := addr.Mail(m, api.MaxRcpts, api.MaxText); e != want {
		t.Errorf("Mail(%.200v): %v; want %v", m, e, want)
	}
}

// P4.3: From.
func TestMailFrom(t *testing.T) {
	m := mail()
	for _, s := range []string{"", "a@b.c", "A@B.C", `"a b"@c`, "x@d.e", long('a', 64) + "@" + wide()} {
		m.From = s
		answers(t, m, api.OK)
	}
	for _, s := range []string{" ", "a", "a@", "@b", "a@b.", "a@1.2", "<>", "<a@b.c>", "a@b@c", ".a@b", "a@b\r\n", long('a', 65) + "@b"} {
		m.From = s
		answers(t, m, api.ErrForm)
	}
}

// P4.3: recipients.
func TestMailRcpts(t *testing.T) {
	m := mail()
	for _, l := range [][]string{
		{"x@d.e"}, {"x@d.e", "y@d.e"}, {"x@d.e", "X@d.e"}, {"x@d.e", "x@d.f"}, {"x@d.e", `"x"@d.e`}, {"a@b", "b@a"}, {"a@b", "c@d", "e@f", "g@h"}, {"a@b", "c@b", "e@b", "g@B"}, {"a@b.c"}, {`"a@b"@c`, `"a@"@b.c`},
	} {
		m.Rcpts = to(l...)
		answers(t, m, api.OK)
	}
	for _, l := range [][]string{
		{}, {""}, {"x"}, {"<x@d.e>"}, {"x@d.e."}, {"x@d.e", ""}, {"", "x@d.e"}, {"x@d.e", "y@1"}, {"a@b", "c@d", "e@f", "g"},
		{"x@d.e", "x@d.e"}, {"x@d.e", "x@D.e"}, {"x@D.E", "y@d.e", "x@d.e"}, {"a@b", "c@d", "e@f", "a@B"}, {"a@b", "c@d", "C@d", "c@D"}, {`"x y"@d`, `"x y"@D`},
	} {
		m.Rcpts = to(l...)
		answers(t, m, api.ErrForm)
	}
	m.Rcpts = []api.Rcpt{{To: "x@d.e"}, {To: "x@d.e", Never: true}}
	answers(t, m, api.ErrForm)
	m.Rcpts = []api.Rcpt{{To: "x@d.e", Never: true}, {To: "y@d.e"}}
	answers(t, m, api.OK)
	m.Require = true
	answers(t, m, api.OK)
}

// P4.3: the Envid.
func TestMailEnvid(t *testing.T) {
	m := mail()
	for _, s := range []string{"", "a", "-", "--", "0", "aZ-09", long('x', 31), long('x', 32), long('-', 32)} {
		m.Envid = s
		answers(t, m, api.OK)
	}
	for _, s := range []string{long('x', 33), long('x', 1<<16), " ", "a b", "a_b", "a.b", "a=b", "a+b", "a\r\n", "é", "\x00"} {
		m.Envid = s
		answers(t, m, api.ErrForm)
	}
	for i := range 256 {
		c := byte(i)
		want := api.ErrForm
		if c == '-' || strings.IndexByte("abcdefghijklmnopqrstuvwxyzABCDEFGHIJKLMNOPQRSTUVWXYZ0123456789", c) >= 0 {
			want = api.OK
		}
		for _, ends := range [][2]string{{"", ""}, {"a", ""}, {"", "a"}, {"a", "b"}} {
			m.Envid = ends[0] + string([]byte{c}) + ends[1]
			answers(t, m, want)
		}
	}
}

var textOnly = regexp.MustCompile("^([\t -~]{0,510}\r\n)*$")

// P4.3: the Text.
func TestMailText(t *testing.T) {
	m := mail()
	for _, s := range []string{"", "\r\n", "\r\n\r\n", "a\r\n", "\t\r\n", " ~\r\n", ".\r\n", "a\r\n\r\n.\r\nb\r\n"} {
		m.Text = s
		answers(t, m, api.OK)
	}
	for _, s := range []string{"a", "\r", "\n", "a\r", "a\n", "a\n\r", "a\r\nb", "a\r\n\r", "a\r\n\n", "a\r\r\n", "a\n\r\n", "a\rb\r\n", "a\nb\r\n", "\r\r\n", "\n\r\n", "\r\n\n\r\n", "a\x00\r\n", "a\x7f\r\n", "é\r\n", "\x0b\r\n"} {
		m.Text = s
		answers(t, m, api.ErrForm)
	}
	for _, s := range every.Text(7, "a", "\r", "\n", "\r\n") {
		m.Text = s
		if want := textOnly.MatchString(s); (addr.Mail(m, 4, 1024) == api.OK) != want {
			t.Fatalf("Mail, of the text %q: %v", s, !want)
		}
	}
}

func TestMailTextByTheByte(t *testing.T) {
	m := mail()
	for i := range 256 {
		c := string([]byte{byte(i)})
		want := api.ErrForm
		if i == '\t' || i >= 32 && i <= 126 {
			want = api.OK
		}
		for _, s := range []string{c + "\r\n", "a" + c + "\r\n", c + "a\r\n", "a\r\n" + c + "\r\n", "a\r\n\r\n" + c + "b\r\n"} {
			m.Text = s
			answers(t, m, want)
		}
		m.Text = "a\r" + c
		if c != "\n" {
			answers(t, m, api.ErrForm)
		}
	}
}

func TestMailTextByTheLine(t *testing.T) {
	m := mail()
	for _, n := range []int{0, 1, 509, 510, 511, 512, 513, 600} {
		want := api.OK
		if n > api.MaxLine-2 {
			want = api.ErrForm
		}
		for _, s := range []string{long('a', n) + "\r\n", "a\r\n" + long('a', n) + "\r\n", long('a', n) + "\r\na\r\n"} {
			m.Text = s
			answers(t, m, want)
		}
		m.Text = long('a', n)
		if n > 0 {
			answers(t, m, api.ErrForm)
		}
		m.Text = long('a', n) + "\r"
		answers(t, m, api.ErrForm)
	}
	m.Text = strings.Repeat(long('a', 510)+"\r\n", 2)
	answers(t, m, api.OK)
}

// P4.3: as many as may be, and one more; of both wrong it is too large.
func TestMailTooLarge(t *testing.T) {
	m := mail()
	m.Text = strings.Repeat(long('a', 62)+"\r\n", 16) // 1024 bytes
	answers(t, m, api.OK)
	m.Text = "a" + m.Text
	answers(t, m, api.ErrTooLarge)
	m.Text = long('a', 1025)
	answers(t, m, api.ErrTooLarge)
	m.Text = long('a', 1024)
	answers(t, m, api.ErrForm)

	five := to("a@b", "c@d", "e@f", "g@h", "i@j")
	m = mail()
	m.Rcpts = five
	answers(t, m, api.ErrTooLarge)
	m.Text = long('a', 1025)
	answers(t, m, api.ErrTooLarge)
	m.Text = "no end"
	m.From, m.Envid = "none", "a b"
	answers(t, m, api.ErrTooLarge)
	m = mail()
	m.Rcpts = to("x", "x", "x", "x", "x")
	answers(t, m, api.ErrTooLarge)
	m.Rcpts = nil
	m.Text = long('\n', 1025)
	answers(t, m, api.ErrTooLarge)
	m.Text = ""
	answers(t, m, api.ErrForm)
}

// P4.3: the numbers are those that are handed in.
func TestMailByTheNumbers(t *testing.T) {
	m := mail()
	for n := range 12 {
		m.Rcpts = nil
		for i := range n {
			m.Rcpts = append(m.Rcpts, api.Rcpt{To: "x@" + string(rune('a'+i))})
		}
		for rcpts := range 12 {
			for most := len(m.Text) - 1; most <= len(m.Text)+1; most++ {
				want := api.OK
				switch {
				case n > rcpts || len(m.Text) > most:
					want = api.ErrTooLarge
				case n == 0:
					want = api.ErrForm
				}
				if e := addr.Mail(m, rcpts, most); e != want {
					t.Errorf("Mail of %d recipients, %d at most, %d bytes, %d at most: %v; want %v", n, rcpts, len(m.Text), most, e, want)
				}
			}
		}
	}
	for _, n := range []int{-1, math.MinInt} {
		if e := addr.Mail(api.Mail{}, n, 0); e != api.ErrTooLarge {
			t.Errorf("Mail of nothing, %d recipients at most: %v", n, e)
		}
		if e := addr.Mail(mail(), 4, n); e != api.ErrTooLarge {
			t.Errorf("Mail, %d bytes at most: %v", n, e)
		}
	}
	if e := addr.Mail(mail(), math.MaxInt, math.MaxInt); e != api.OK {
		t.Errorf("Mail, whatever it has: %v", e)
	}
	if e := addr.Mail(api.Mail{Rcpts: to("x@d.e")}, 1, 0); e != api.OK {
		t.Errorf("Mail without a text, 0 bytes at most: %v", e)
	}
	m = mail()
	m.Text = strings.Repeat("a\r\n", 1365) // a notice's text
	if e := addr.Mail(m, api.MaxRcpts, api.MaxNotice); e != api.OK {
		t.Errorf("Mail of %d bytes, %d at most: %v", len(m.Text), api.MaxNotice, e)
	}
}

func TestMailOfMany(t *testing.T) {
	var l []string
	for i := range 20000 {
		l = append(l, "x"+strings.Repeat("y", i%60)+"@"+strings.Repeat("z", 1+i/60%60)+"."+string(rune('a'+i/3600)))
	}
	m := mail()
	m.Rcpts = to(l...)
	if e := addr.Mail(m, len(l), api.MaxText); e != api.OK {
		t.Errorf("Mail of many: %v", e)
	}
	m.Rcpts = append(m.Rcpts, api.Rcpt{To: strings.Replace(l[7], ".a", ".A", 1)})
	if e := addr.Mail(m, len(l)+1, api.MaxText); e != api.ErrForm {
		t.Errorf("Mail of many, one twice: %v", e)
	}
}

// P4.6.
func TestLess(t *testing.T) {
	for _, rcpts := range [][]string{{"x@d.e"}, {"x@d.e", "y@D.e"}, {"a@b", "c@b", "e@f", `"g"@h`}} {
		for _, text := range []string{"", "a\r\n", "\r\n", "A: b\r\n\r\nc\r\n", long('a', 510) + "\r\n" + long('b', 510) + "\r\n"} {
			for _, from := range []string{"", "a@b.c"} {
				m := api.Mail{From: from, Rcpts: to(rcpts...), Envid: "e-1", Text: text}
				answers(t, m, api.OK)
				lessOf(t, m)
			}
		}
	}
}

// lessOf wants that a mail still may be with one thing less, but not with a recipient twice.
func lessOf(t *testing.T, m api.Mail) {
	t.Helper()
	x := m
	for x.Text != "" {
		x.Text = x.Text[:strings.LastIndex("\r\n"+strings.TrimSuffix(x.Text, "\r\n"), "\r\n")]
		answers(t, x, api.OK)
	}
	x = m
	x.Envid = ""
	answers(t, x, api.OK)
	x = m
	x.From = ""
	answers(t, x, api.OK)
	for i := range len(m.Rcpts) {
		x = m
		x.Rcpts = append(slices.Clone(m.Rcpts), m.Rcpts[i])
		if e := addr.Mail(x, len(x.Rcpts), api.MaxText); e != api.ErrForm {
			t.Errorf("Mail with the recipient %q twice: %v", m.Rcpts[i].To, e)
		}
		x.Rcpts = m.Rcpts[:len(m.Rcpts)-i]
		answers(t, x, api.OK)
	}
}

// P4.3, P4.7: Domains.
func TestDomainsOfAMail(t *testing.T) {
	for _, x := range []struct{ rcpts, want []string }{
		{nil, nil},
		{[]string{"x@d.e"}, []string{"d.e"}},
		{[]string{"x@d.e", "y@d.e"}, []string{"d.e"}},
		{[]string{"x@D.e", "y@d.E"}, []string{"d.e"}},
		{[]string{"x@d.e", "x@d.e"}, []string{"d.e"}},
		{[]string{"x@b", "x@a", "x@c"}, []string{"a", "b", "c"}},
		{[]string{"x@c", "x@B", "x@a", "y@b", "y@C"}, []string{"a", "b", "c"}},
		{[]string{"x@a.b", "x@a-b", "x@a0b", "x@a", "x@aa", "x@Z"}, []string{"a", "a-b", "a.b", "a0b", "aa", "z"}},
		{[]string{"x@9.a", "x@10.a"}, []string{"10.a", "9.a"}},
		{[]string{"x", "", "@b", "x@", "x@b.", "x@1", "<x@b>", ".x@b", "x@b@"}, nil},
		{[]string{"x", "x@d.e", "", "y@c", "<y@b>"}, []string{"c", "d.e"}},
		{[]string{`"x@y"@d.e`, "z@y"}, []string{"d.e", "y"}},
		{[]string{"x@" + wide(), "x@" + wide() + "d"}, []string{wide()}},
	} {
		m := api.Mail{From: "f@from.only", Rcpts: to(x.rcpts...)}
		was := slices.Clone(m.Rcpts)
		got := addr.Domains(m)
		if !slices.Equal(got, x.want) {
			t.Errorf("Domains of %q: %q; want %q", x.rcpts, got, x.want)
		}
		if !slices.Equal(m.Rcpts, was) {
			t.Errorf("Domains changed its mail: %v", m.Rcpts)
		}
		for i := range got {
			got[i] = "changed"
		}
		if again := addr.Domains(m); !slices.Equal(again, x.want) {
			t.Errorf("Domains of %q, once more: %q", x.rcpts, again)
		}
	}
}

// P4.7: just those of the recipients.
func TestJustTheirDomains(t *testing.T) {
	addrs := []string{"x@a", "y@A", "x@b.c", "y@B.C", "z@c", "none", "x@a."}
	for bits := range 1 << len(addrs) {
		var chosen []string
		want := map[string]bool{}
		for i, s := range addrs {
			if bits>>i&1 == 0 {
				continue
			}
			chosen = append(chosen, s)
			if _, d, e := addr.Parse(s); e == api.OK {
				want[d] = true
			}
		}
		got := addr.Domains(api.Mail{Rcpts: to(chosen...)})
		if len(got) != len(want) || !slices.IsSorted(got) || slices.ContainsFunc(got, func(d string) bool { return !want[d] }) {
			t.Fatalf("Domains of %q: %q", chosen, got)
		}
	}
}

// R1: what is handed in stays.
func TestMailStays(t *testing.T) {
	m := mail()
	m.Rcpts = to("z@d.e", "a@D.e", "m@c", "z@d.e")
	was := slices.Clone(m.Rcpts)
	addr.Mail(m, 4, 1024)
	if !slices.Equal(m.Rcpts, was) {
		t.Errorf("Mail changed its recipients: %v", m.Rcpts)
	}
}
