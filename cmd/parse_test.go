package cmd_test

import (
	"slices"
	"strings"
	"testing"

	"mailroom/api"
	"mailroom/cmd"
	"mailroom/every"
)

// reads wants that a line is parsed as that command, whose line it is but for great and small letters.
func reads(t *testing.T, line string, want cmd.Cmd) {
	t.Helper()
	if c, e := cmd.Parse(line); !equal(c, want) || e != api.OK {
		t.Errorf("Parse(%q): %+v, %v; want %+v", line, c, e, want)
	}
	if c, e := plainly(line); !equal(c, want) || e != api.OK {
		t.Errorf("%q, by the chapter's words: %+v, %v; want %+v", line, c, e, want)
	}
	if s, e := cmd.Show(want); !strings.EqualFold(s, line) || len(s) != len(line) || e != api.OK {
		t.Errorf("Show(%+v): %q, %v; it came of %q", want, s, e, line)
	}
}

// refuses wants that no line is one of a command.
func refuses(t *testing.T, e api.Errno, lines ...string) {
	t.Helper()
	for _, s := range lines {
		if c, got := cmd.Parse(s); !equal(c, cmd.Cmd{}) || c.Params != nil || got != e {
			t.Errorf("Parse(%.700q): %+v, %v; want %v", s, c, got, e)
		}
		if _, got := plainly(s); got != e {
			t.Errorf("%.700q, by the chapter's words: %v; want %v", s, got, e)
		}
	}
}

// equal tells whether two commands have the same verb, argument and parameters.
func equal(a, b cmd.Cmd) bool {
	return a.Verb == b.Verb && a.Arg == b.Arg && slices.Equal(a.Params, b.Params)
}

// alike wants that a line is parsed as the chapter's words say, whatever that is.
func alike(t *testing.T, line string) {
	t.Helper()
	c, e := cmd.Parse(line)
	if want, f := plainly(line); !equal(c, want) || e != f {
		t.Errorf("Parse(%q): %+v, %v; by the chapter's words %+v, %v", line, c, e, want, f)
	}
}

// P7.1: the chapter's examples of lines.
func TestExamplesOfLines(t *testing.T) {
	reads(t, "ehlo mx.example", command(cmd.Ehlo, "mx.example"))
	refuses(t, api.ErrForm, "MAIL FROM: <a@b.c>", "DATA ", "RCPT TO:<>")
}

// P7.1: the verb's word, and parameters' names, in great, small and mixed letters.
func TestLetters(t *testing.T) {
	for _, x := range verbs {
		behind, want := "", cmd.Cmd{Verb: x.verb}
		switch x.verb {
		case cmd.Ehlo:
			behind, want = " mx.example", command(x.verb, "mx.example")
		case cmd.MailFrom, cmd.RcptTo:
			behind, want = "<a@B.c> X=y", command(x.verb, "a@B.c", "X=y")
		}
		for bits := range 1 << len(x.word) {
			b := []byte(x.word)
			for i := range b {
				if bits>>i&1 == 1 {
					b[i] = strings.ToLower(x.word)[i]
				}
			}
			reads(t, string(b)+behind, want)
		}
	}
	want := command(cmd.MailFrom, "A@b.C", "REQUIRETLS", "ENVID=xYz", "A1B2=Size")
	reads(t, "MAIL FROM:<A@b.C> REQUIRETLS ENVID=xYz A1B2=Size", want)
	reads(t, "mail from:<A@b.C> requiretls envid=xYz a1b2=Size", want)
	reads(t, "Mail From:<A@b.C> RequireTLS eNVID=xYz A1b2=Size", want)
	for bits := range 1 << 10 {
		b := []byte("REQUIRETLS")
		for i := range b {
			if bits>>i&1 == 1 {
				b[i] += 'a' - 'A'
			}
		}
		reads(t, "MAIL FROM:<> "+string(b)+"=Requiretls", command(cmd.MailFrom, "", "REQUIRETLS=Requiretls"))
	}
	// Letters that only fold into those of a word are none of it; nor is a name of great letters one.
	refuses(t, api.ErrForm, "ſTARTTLS", "STARTTLſ", "startTLſ", "EHLO Mx.example", "EHLO MX.EXAMPLE", "EHLO mx.example.", "MAIL FROM:<> ſIZE=1", "MAIL FROM:<> \u212a", "MAIL FROM:<> A\u212a=1", "MAIL FROM:<> SıZE=1", "QUİT", "QUıT", "MAİL FROM:<>", "ＤＡＴＡ")
}

// P7.1: each byte at each place of lines, put in the place of what stands there, or ahead of it.
func TestEachByte(t *testing.T) {
	lines := []string{"EHLO mx.a1", "STARTTLS", "MAIL FROM:<>", "MAIL FROM:<a@b.c> S=1 R", `RCPT TO:<"a >"@b.c> N=V`, "DATA", "QUIT"}
	for _, line := range lines {
		if _, e := cmd.Parse(line); e != api.OK {
			t.Errorf("%q: %v", line, e)
		}
		for i := range len(line) + 1 {
			for b := range 256 {
				c := string([]byte{byte(b)})
				alike(t, line[:i]+c+line[i:])
				if i < len(line) {
					alike(t, line[:i]+c+line[i+1:])
				}
			}
			alike(t, line[:i])
			alike(t, line[i:])
		}
	}
}

// P7.1: blanks and tabs where there is to be none, or another number of them.
func TestBlanks(t *testing.T) {
	refuses(t, api.ErrForm,
		"", " ", "  ", "\t", "\r\n",
		" QUIT", "QUIT ", "QUIT\t", "\tQUIT", "QUIT\r\n", "QUIT\n", "QUIT\r",
		" DATA", "DATA\t", "DATA  ", "D ATA", " STARTTLS", "STARTTLS ", "START TLS",
		" EHLO a", "EHLO a ", "EHLO  a", "EHLO\ta", "EHLO a\t", "EHLO \ta", "EHLO ", "EHLO", "EHLO  ", "EHLO a b", "EHLO a\r\n", "EHLOa", "EHLO:a", "EHLO <a>",
		" MAIL FROM:<>", "MAIL FROM:<> ", "MAIL  FROM:<>", "MAIL\tFROM:<>", "MAILFROM:<>", "MAIL FROM :<>", "MAIL FROM: <>", "MAIL FROM:\t<>", "MAIL FROM:  <>", "MAIL FROM:<>\t", "MAIL FROM:< >", "MAIL FROM:<> \r\n",
		" RCPT TO:<a@b.c>", "RCPT TO:<a@b.c> ", "RCPT  TO:<a@b.c>", "RCPT TO: <a@b.c>", "RCPT TO:\t<a@b.c>", "RCPT TO :<a@b.c>", "RCPT TO:< a@b.c>", "RCPT TO:<a@b.c >", "RCPTTO:<a@b.c>",
		"MAIL FROM:<>  A", "MAIL FROM:<>\tA", "MAIL FROM:<> \tA", "MAIL FROM:<> A ", "MAIL FROM:<> A  ", "MAIL FROM:<> A  B", "MAIL FROM:<> A\tB", "MAIL FROM:<> A B\t", "MAIL FROM:<> A=1 ", "MAIL FROM:<> A=1  B", "MAIL FROM:<> A= 1", "MAIL FROM:<> A =1", "MAIL FROM:<>A", "MAIL FROM:<>A=1", "MAIL FROM:<>=1",
	)
}

// P7.1: words behind verbs that stand alone, and words that are no verb's.
func TestWords(t *testing.T) {
	for _, s := range []string{"STARTTLS", "DATA", "QUIT"} {
		for _, behind := range []string{"x", " x", " now", ":", ":<>", "=", "=1", " A=1", " SIZE=1", " <>", "<>", " mx.example", " a@b.c", s, " " + s, ".", "\x00", "0"} {
			refuses(t, api.ErrForm, s+behind, strings.ToLower(s+behind))
		}
		reads(t, s, cmd.Cmd{Verb: verbOf(s)})
	}
	refuses(t, api.ErrForm,
		"HELO a", "NOOP", "RSET", "VRFY a", "LHLO a", "BDAT 1", "X", "1", "=", "<>", "a@b.c", "<a@b.c>", "QUI", "DAT", "STARTTL", "STARTTLSS", "START", "TLS",
		"MAIL", "MAIL FROM", "MAIL FROM:", "FROM:<>", "MAIL:<>", "MAIL TO:<>", "MAIL FROM<>", "MAIL FROM=<>", "MAIL FROM::<>", "RCPT", "RCPT TO", "RCPT TO:", "RCPT FROM:<a@b.c>", "RCPT:<a@b.c>", "TO:<a@b.c>", "RCPT TO<a@b.c>",
		"MAIL RCPT", "MAIL FROM:RCPT TO:<a@b.c>", "DATA QUIT", "DATAQUIT", "EHLO a\r\nQUIT", "QUIT\r\nQUIT",
	)
}

// verbOf tells the verb of a word.
func verbOf(word string) uint8 {
	for _, x := range verbs {
		if x.word == word {
			return x.verb
		}
	}
	return 0
}

// P7.1: paths that are none.
func TestNoPaths(t *testing.T) {
	for _, s := range []string{
		"", "<", ">", "><", "<<>>", "<>>", "<<>", "<<a@b.c>>", "<a@b.c", "a@b.c>", "a@b.c", "(a@b.c)", "\"a@b.c\"", "<a>", "<a@>", "<@b.c>", "<@>", "<a@b.c.>", "<a b@c.d>", "<a@b c>", "<a@b@c>", "<.a@b.c>", "<a..b@b.c>", "<a@1.2>",
		"<a@b.c>>", "<a@b.c>,<d@e.f>", "<a@b.c><d@e.f>", "<a@b.c,d@e.f>", "<@x.y:a@b.c>", "<a@b.c>x", "x<a@b.c>", "Name <a@b.c>", "<\"a@b.c>", "<a\"@b.c>", "<\"a\"b@b.c>", "<a>b@c.d>", "<postmaster>", "<\x00>", "<ü@b.c>", "<>=", "<=>",
	} {
		refuses(t, api.ErrForm, "MAIL FROM:"+s, "RCPT TO:"+s, "MAIL FROM:"+s+" A=1", "RCPT TO:"+s+" A=1")
	}
	reads(t, "MAIL FROM:<>", command(cmd.MailFrom, ""))
	refuses(t, api.ErrForm, "RCPT TO:<>", "rcpt to:<>", "RCPT TO:<> A=1", "RCPT TO:<> NOTIFY=NEVER")
	reads(t, "RCPT TO:<a@b.c>", command(cmd.RcptTo, "a@b.c"))
}

// quoted are addresses whose local part is quoted, with what else parts a line in it.
var quoted = []string{
	`""@b.c`, `" "@b.c`, `"a b"@b.c`, `"<"@b.c`, `">"@b.c`, `"<>"@b.c`, `"> "@b.c`, `"> A=1"@b.c`, `"a@b.c> A=1"@b.c`, `"=a="@b.c`, `"a> SIZE=1 <b"@b.c`, `"\""@b.c`, `"\">"@b.c`, `"\\"@b.c`, `"\\>"@b.c`, `"\> \""@b.c`, `"\"@b.c> A=\""@b.c`, `"@"@b.c`, `"@b.c>"@b.c`,
	`"MAIL FROM:<>"@b.c`, `"\<a@b.c\>"@B.C`,
}

// P7.1: addresses whose local part is quoted.
func TestQuoted(t *testing.T) {
	for _, a := range quoted {
		for _, v := range []uint8{cmd.MailFrom, cmd.RcptTo} {
			for _, texts := range [][]string{nil, {"A"}, {"A=1", "B"}, {"A=>"}, {"A=<>"}, {`A="`}, {`A="@b.c>`, "B=>"}, {`A=\"`, `B="@b.c>`}} {
				c := command(v, a, texts...)
				is(t, c, lineOf(c))
				reads(t, lineOf(c), c)
			}
		}
	}
	// An equals sign may be in an atom, too.
	reads(t, "MAIL FROM:<a=b@c.d> A=b", command(cmd.MailFrom, "a=b@c.d", "A=b"))
	reads(t, "MAIL FROM:<=@c.d> A=>", command(cmd.MailFrom, "=@c.d", "A=>"))
	refuses(t, api.ErrForm, `MAIL FROM:<"a"@b.c"> A`, `MAIL FROM:<"a" @b.c>`, `MAIL FROM:<"a>@b.c>`, `MAIL FROM:<"a\"@b.c>`, `MAIL FROM:<a b@b.c>`, `MAIL FROM:<"a> A=1"`, `MAIL FROM:<"a"@b.c> A="x y"`, `MAIL FROM:<"a"@b.c A=1>`)
}

// P7.1: parameters that may not be in a line.
func TestNoParams(t *testing.T) {
	for _, head := range []string{"MAIL FROM:<>", "MAIL FROM:<a@b.c>", "RCPT TO:<a@b.c>", "MAIL FROM:<> X", "RCPT TO:<a@b.c> X=y"} {
		for _, s := range []string{
			"=", "=1", "A=", "a=", "A= B", "A==", "A==1", "A=1=", "A=1=2", "1A", "1", "-A", "A-B", "A_B=1", "A.B", "A:1", "A,B", "A;B", "<>", "ä", "A=ä", "A\x00", "A=\x00", "A=\x7f", "A=1\x80", "A=1\t", "\"A\"", "8BITMIME",
			strings.Repeat("A", 33), strings.Repeat("a", 33) + "=1",
		} {
			refuses(t, api.ErrForm, head+" "+s, head+" "+s+" Z", head+" Z "+s)
		}
		c, _ := cmd.Parse(head)
		c.Params = append(c.Params, cmd.Param{Name: strings.Repeat("A", 32), Value: "=1"[1:]})
		reads(t, head+" "+strings.Repeat("a", 32)+"=1", c)
	}
}

// P7.1: all short rows of what lines are put together of.
func TestShortRows(t *testing.T) {
	for _, head := range []string{"MAIL FROM:", "rcpt to:"} {
		for _, s := range every.Text(5, "<", ">", "a@b.c", `"`, " ", "=", "A", "@b", `\`) {
			alike(t, head+s)
		}
		for _, s := range every.Text(6, " ", "=", "A", "b", "1", ">") {
			alike(t, head+"<a@b.c>"+s)
		}
	}
	for _, s := range every.Text(5, "EHLO", " ", "a", ".", "-", "1", "DATA") {
		alike(t, s)
	}
}

// P7.6 on lines: with quotes, blanks and angle brackets in whatever row no line has two paths that could be its own.
func TestOnePath(t *testing.T) {
	for _, s := range every.Text(6, `"`, ">", " A", "@b", "<", `\`) {
		alike(t, `MAIL FROM:<"a`+s+`"@b.c>`)
		alike(t, `MAIL FROM:<"a`+s+`"@b.c> A=1`)
	}
}
