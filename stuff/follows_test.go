package stuff_test

import (
	"strings"
	"testing"

	"mailroom/api"
	"mailroom/every"
	"mailroom/stuff"
)

// texts are all those of up to n pieces, each of which ends by CR LF, or is empty.
func texts(n int, pieces ...string) []string {
	out := []string{""}
	for _, s := range every.Text(n, pieces...) {
		if strings.HasSuffix(s, "\r\n") {
			out = append(out, s)
		}
	}
	return out
}

// sentOf is what is sent of a text that may be.
func sentOf(t *testing.T, text string) string {
	t.Helper()
	s, e := stuff.Stuff(text)
	if e != api.OK {
		t.Fatalf("Stuff(%q): %v", text, e)
	}
	return s
}

// P8.3: what was sent is the text, whatever is behind.
func TestThereAndBack(t *testing.T) {
	rests := append(every.Text(3, "a", ".", "\r", "\n"), ".\r\n", ".\r\n.\r\n", ".a\r\n.\r\n", "..\r\n.\r\n", strings.Repeat("x", 5000))
	for _, text := range texts(6, "a", ".", "\r\n", "\r", "\n") {
		sent := sentOf(t, text)
		for _, behind := range append(rests, sent, text) {
			got, rest, e := stuff.Unstuff(sent + behind)
			if got != text || rest != behind || e != api.OK {
				t.Fatalf("%q, sent, and %q: %q, %q, %v", text, behind, got, rest, e)
			}
		}
	}
}

// P8.3: what is read, sent, and the rest behind it, is what was read.
func TestBackAndThere(t *testing.T) {
	read := 0
	for _, s := range every.Text(6, "a", ".", "\r\n", "\r", "\n", ".\r\n") {
		text, rest, e := stuff.Unstuff(s)
		if e != api.OK {
			continue
		}
		read++
		if again := sentOf(t, text) + rest; again != s {
			t.Fatalf("%q: read as %q, and %q; sent again %q", s, text, rest, again)
		}
	}
	if read == 0 {
		t.Error("nothing was read")
	}
}

// P8.4.
func TestHowLong(t *testing.T) {
	for _, text := range texts(8, "a", ".", "\r\n", "\n") {
		if n, want := len(sentOf(t, text)), len(text)+stuff.Dots(text)+3; n != want {
			t.Fatalf("%q: %d bytes are sent; want %d", text, n, want)
		}
	}
}

// P8.5, and Unstuff of what is cut off.
func TestOneEnd(t *testing.T) {
	for _, text := range append(texts(6, "a", ".", "\r\n", "\r", "\n"), ".\r\n..\r\n...\r\na\r\n\r\n.b\r\n") {
		sent := sentOf(t, text)
		if !stuff.Whole(sent) {
			t.Fatalf("%q is not whole", sent)
		}
		for i := range len(sent) {
			if stuff.Whole(sent[:i]) {
				t.Fatalf("%q, of %q, is whole", sent[:i], sent)
			}
			if got, rest, e := stuff.Unstuff(sent[:i]); got != "" || rest != "" || e != api.ErrShort {
				t.Fatalf("Unstuff(%q): %q, %q, %v; want ErrShort", sent[:i], got, rest, e)
			}
		}
	}
}

// P8.6.
func TestParts(t *testing.T) {
	parts := texts(4, "a", ".", "\r\n", "\r", "\n")
	for _, a := range parts {
		for _, b := range parts {
			first, second := sentOf(t, a), sentOf(t, b)
			if both := sentOf(t, a+b); both != first[:len(first)-3]+second {
				t.Fatalf("of %q and %q is sent %q; of each %q, %q", a, b, both, first, second)
			}
		}
	}
}

// Dialogues hand in what was sent behind each other: each Unstuff takes one text off.
func TestOneBehindTheOther(t *testing.T) {
	row := []string{"", ".\r\n", "a\r\n", "", "..\r\n.\r\n", "\r\n", ""}
	s := ""
	for _, text := range row {
		s += sentOf(t, text)
	}
	for _, text := range row {
		got, rest, e := stuff.Unstuff(s)
		if got != text || e != api.OK {
			t.Fatalf("Unstuff(%q): %q, %v; want %q", s, got, e, text)
		}
		s = rest
	}
	if s != "" {
		t.Errorf("%q is left", s)
	}
}

// No line and no text is too long here.
func TestLong(t *testing.T) {
	long := strings.Repeat(".", 1<<20)
	sends(t, long+"\r\n"+long+"\r\n", "."+long+"\r\n."+long+"\r\n.\r\n")
	many := strings.Repeat(".\r\na\r\n", 1<<17)
	sends(t, many, strings.Repeat("..\r\na\r\n", 1<<17)+".\r\n")
	if n := stuff.Dots(many); n != 1<<17 {
		t.Errorf("Dots of many lines: %d", n)
	}
	if stuff.Whole(strings.Repeat("..\r\n", 1<<17)) {
		t.Error("whole without a lone dot")
	}
}
