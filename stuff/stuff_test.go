package stuff_test

import (
	"strings"
	"testing"
	"unsafe"

	"mailroom/api"
	"mailroom/every"
	"mailroom/stuff"
)

// bytewise goes over s byte by byte: the lines with their ends, and what is behind them.
func bytewise(s string) (lines []string, rest string) {
	for i := range len(s) {
		rest += s[i : i+1]
		if strings.HasSuffix(rest, "\r\n") {
			lines = append(lines, rest)
			rest = ""
		}
	}
	return lines, rest
}

// stuffed is what is sent of a text, reckoned from the chapter's words alone.
func stuffed(text string) (string, api.Errno) {
	if text != "" && !strings.HasSuffix(text, "\r\n") {
		return "", api.ErrForm
	}
	lines, _ := bytewise(text)
	sent := ""
	for _, l := range lines {
		if l[0] == '.' {
			sent += "."
		}
		sent += l
	}
	return sent + ".\r\n", api.OK
}

// unstuffed is what was sent, reckoned from the chapter's words alone.
func unstuffed(s string) (text, rest string, e api.Errno) {
	lines, _ := bytewise(s)
	at := 0
	for _, l := range lines {
		at += len(l)
		switch {
		case l == ".\r\n":
			return text, s[at:], api.OK
		case l[0] != '.':
			text += l
		case l[1] == '.':
			text += l[1:]
		default:
			return "", "", api.ErrForm
		}
	}
	return "", "", api.ErrShort
}

// sends wants that this is sent of a text, and that it is the text again.
func sends(t *testing.T, text, want string) {
	t.Helper()
	if s, e := stuff.Stuff(text); s != want || e != api.OK {
		t.Errorf("Stuff(%q): %q, %v; want %q", text, s, e, want)
	}
	reads(t, want, text, "", api.OK)
}

// reads wants that s is read as that.
func reads(t *testing.T, s, text, rest string, e api.Errno) {
	t.Helper()
	gotText, gotRest, got := stuff.Unstuff(s)
	if gotText != text || gotRest != rest || got != e {
		t.Errorf("Unstuff(%q): %q, %q, %v; want %q, %q, %v", s, gotText, gotRest, got, text, rest, e)
	}
}

func TestExamplesOfTheChapter(t *testing.T) {
	sends(t, "", ".\r\n")
	sends(t, ".a\r\nb\r\n", "..a\r\nb\r\n.\r\n")
	reads(t, "..a\r\nb\r\n.\r\nx", ".a\r\nb\r\n", "x", api.OK)
	reads(t, ".a\r\n.\r\n", "", "", api.ErrForm)
	reads(t, "a\r\n", "", "", api.ErrShort)
}

// P8.1: lines of each kind.
func TestWhatIsSent(t *testing.T) {
	for _, x := range [][2]string{
		{"\r\n", "\r\n"},
		{"\r\n\r\n", "\r\n\r\n"},
		{"a\r\n", "a\r\n"},
		{"a\r\n\r\nb\r\n", "a\r\n\r\nb\r\n"},
		{".\r\n", "..\r\n"},
		{"..\r\n", "...\r\n"},
		{"...\r\n", "....\r\n"},
		{".\r\n.\r\n", "..\r\n..\r\n"},
		{".\r\na\r\n..b\r\n", "..\r\na\r\n...b\r\n"},
		{"\r\n.\r\n\r\n", "\r\n..\r\n\r\n"},
		{"a.\r\na..\r\n a\r\n .\r\n\t.\r\n", "a.\r\na..\r\n a\r\n .\r\n\t.\r\n"},
		{"a.b\r\n..a.b.\r\n", "a.b\r\n...a.b.\r\n"},
		{"\x00\xff\r\n.\xff\r\n", "\x00\xff\r\n..\xff\r\n"},
	} {
		sends(t, x[0], x[1]+".\r\n")
	}
}

// P8.1: a CR, or an LF, that stands alone ends no line, and is a byte of it.
func TestEndsThatAreNone(t *testing.T) {
	for _, x := range [][2]string{
		{"a\n.b\r\n", "a\n.b\r\n"},
		{"a\r.b\r\n", "a\r.b\r\n"},
		{"a\n.\r\n", "a\n.\r\n"},
		{"a\r.\r\n", "a\r.\r\n"},
		{"\n.\r\n", "\n.\r\n"},
		{"\r.\r\n", "\r.\r\n"},
		{"\n\r.\r\n", "\n\r.\r\n"},
		{".\n\r\n", "..\n\r\n"},
		{".\r\r\n", "..\r\r\n"},
		{".\r.\r\n", "..\r.\r\n"},
		{".\n.\n.\r\n", "..\n.\n.\r\n"},
		{"a\r\r\n.\r\n", "a\r\r\n..\r\n"},
		{"\r\r\n\n.\r\n", "\r\r\n\n.\r\n"},
		{"\r\n\n.\r\n", "\r\n\n.\r\n"},
	} {
		sends(t, x[0], x[1]+".\r\n")
	}
}

// The table of errors.
func TestTextsThatAreNone(t *testing.T) {
	for _, ahead := range []string{"", "\r\n", ".\r\n", "a\r\n.b\r\n"} {
		for _, s := range []string{"a", ".", "..", "\r", "\n", "\n\r", "a\r", "a\n", ".\r", ".\n", "\r\r", "\r\n\r", "\r\n\n", "\x00", " "} {
			if sent, e := stuff.Stuff(ahead + s); sent != "" || e != api.ErrForm {
				t.Errorf("Stuff(%q): %q, %v; want ErrForm", ahead+s, sent, e)
			}
		}
	}
}

// P8.1: what is behind the first lone dot's line is told as it stands.
func TestWhatIsBehind(t *testing.T) {
	for _, sent := range [][2]string{{".\r\n", ""}, {"\r\n.\r\n", "\r\n"}, {"..\r\na\r\n.\r\n", ".\r\na\r\n"}} {
		for _, rest := range []string{"", "x", ".", "..", "\r", "\n", "\r\n", ".\r\n", ".a\r\n", ".a", "..\r\n.\r\n", "a\r\n.\r\nb\r\n.\r\n", "\x00\xff", "QUIT\r\n"} {
			reads(t, sent[0]+rest, sent[1], rest, api.OK)
		}
	}
}

// The table of errors: which of the two is first.
func TestWhatWasNotSent(t *testing.T) {
	for s, e := range map[string]api.Errno{
		"":                          api.ErrShort,
		"a":                         api.ErrShort,
		".":                         api.ErrShort,
		".\r":                       api.ErrShort,
		".\n":                       api.ErrShort,
		"\r\n":                      api.ErrShort,
		"\r\n.":                     api.ErrShort,
		"\r\n.\r":                   api.ErrShort,
		"a\r\n..\r\n":               api.ErrShort,
		"a\n.\r\n":                  api.ErrShort,
		"a\r.\r\n":                  api.ErrShort,
		"a.\r\n":                    api.ErrShort,
		" .\r\n":                    api.ErrShort,
		".a":                        api.ErrShort, // no line: it has no end
		"b\r\n.a\r":                 api.ErrShort,
		".a\r\n":                    api.ErrForm,
		".a\r\nb":                   api.ErrForm,
		".a\r\n.b":                  api.ErrForm,
		".\r\r\n":                   api.ErrForm,
		".\n\r\n":                   api.ErrForm,
		".\n\r\n.\r\n":              api.ErrForm,
		". \r\n.\r\n":               api.ErrForm,
		"..\r\nb\r\n.a.\r\n.\r\n":   api.ErrForm,
		"b\r\n\r\n.a\r\nc\r\n.\r\n": api.ErrForm,
	} {
		reads(t, s, "", "", e)
	}
	reads(t, "b\r\n.\r\n.a\r\n", "b\r\n", ".a\r\n", api.OK) // behind the end it is looked at no more
}

// P8.2.
func TestDots(t *testing.T) {
	for s, n := range map[string]int{
		"":                           0,
		".":                          1,
		"..":                         1,
		"a.":                         0,
		"\r\n":                       0,
		"\r\n.":                      1,
		"\r\na":                      0,
		".\r\n":                      1,
		".\r\n.":                     2,
		".\r\n.\r\n":                 2,
		"..a\r\n\r\nb.\r\n.c\r\n.\r": 3,
		"a\n.b":                      0,
		"a\r.b":                      0,
		"a\r\n\n.":                   0,
		"\n.\r\n\r.":                 0,
		".\n.\n.":                    1,
		"a\r\r\n.":                   1,
	} {
		if got := stuff.Dots(s); got != n {
			t.Errorf("Dots(%q): %d; want %d", s, got, n)
		}
	}
}

// P8.2.
func TestWhole(t *testing.T) {
	for s, is := range map[string]bool{
		"":                      false,
		".":                     false,
		".\r":                   false,
		".\n":                   false,
		"\r\n":                  false,
		".\r\n":                 true,
		".\r\nx":                true,
		"..\r\n":                false,
		"a.\r\n":                false,
		".a\r\n":                false,
		".\r\r\n":               false,
		".\n\r\n":               false,
		"\r\n.\r\n":             true,
		"a\r\n.\r\n":            true,
		"a\r\n.\r":              false,
		"a\n.\r\n":              false,
		"a\r.\r\n":              false,
		"\n.\r\n":               false,
		"a\r\r\n.\r\n":          true,
		"a\r\n\n.\r\n":          false,
		".a\r\n.\r\n":           true, // also where Unstuff refuses what is ahead
		"a\r\n.\r\n.\r\nb\r\n.": true,
	} {
		if got := stuff.Whole(s); got != is {
			t.Errorf("Whole(%q): %v; want %v", s, got, is)
		}
	}
}

// P8.1, P8.2: all short texts, held against a reckoning byte by byte.
func TestAllShortTexts(t *testing.T) {
	texts := every.Text(8, "a", ".", "\r", "\n")
	texts = append(texts, every.Text(6, "a", ".", "\r\n", "\r", "\n")...)
	for _, s := range texts {
		sent, e := stuff.Stuff(s)
		if want, wantE := stuffed(s); sent != want || e != wantE {
			t.Fatalf("Stuff(%q): %q, %v; want %q, %v", s, sent, e, want, wantE)
		}
		text, rest, e := stuff.Unstuff(s)
		if wantText, wantRest, wantE := unstuffed(s); text != wantText || rest != wantRest || e != wantE {
			t.Fatalf("Unstuff(%q): %q, %q, %v; want %q, %q, %v", s, text, rest, e, wantText, wantRest, wantE)
		}
		n := strings.Count("\r\n"+s, "\r\n.")
		if got := stuff.Dots(s); got != n {
			t.Fatalf("Dots(%q): %d; want %d", s, got, n)
		}
		is := strings.Contains("\r\n"+s, "\r\n.\r\n")
		if got := stuff.Whole(s); got != is {
			t.Fatalf("Whole(%q): %v; want %v", s, got, is)
		}
	}
}

// All 256 bytes at a line's beginning: of the first line, and of another one.
func TestAllBytesAtALinesBeginning(t *testing.T) {
	for i := range 256 {
		c := string([]byte{byte(i)})
		dots, more := 0, ""
		if c == "." {
			dots, more = 1, "."
		}
		for _, behind := range []string{"", "a", ".", "..", " ", "\r", "\n"} {
			if c == "\r" && behind == "\n" {
				continue // that is an end
			}
			l := c + behind + "\r\n"
			for _, ahead := range []string{"", "\r\n", "b\r\n", "b.\r\r\n"} {
				sends(t, ahead+l, ahead+more+l+".\r\n")
				sends(t, ahead+l+ahead, ahead+more+l+ahead+".\r\n")
				if n := stuff.Dots(ahead + l); n != dots {
					t.Errorf("Dots(%q): %d; want %d", ahead+l, n, dots)
				}
				if n := stuff.Dots(ahead + c + behind); n != dots {
					t.Errorf("Dots(%q): %d; want %d", ahead+c+behind, n, dots)
				}
			}
		}
	}
}

// All 256 bytes behind a dot at a line's beginning.
func TestAllBytesBehindADot(t *testing.T) {
	for i := range 256 {
		c := string([]byte{byte(i)})
		for _, ahead := range []string{"", "\r\n", "b\r\n..\r\n"} {
			text := strings.Replace(ahead, "..", ".", 1)
			for _, behind := range []string{"\r\n", "a\r\n", ".\r\n", "\n\r\n"} {
				l := "." + c + behind
				switch {
				case c == ".":
					reads(t, ahead+l+".\r\n", text+l[1:], "", api.OK)
					reads(t, ahead+l, "", "", api.ErrShort)
				case strings.HasPrefix(l, ".\r\n"):
					reads(t, ahead+l+".\r\n", text, l[3:]+".\r\n", api.OK)
				default:
					reads(t, ahead+l+".\r\n", "", "", api.ErrForm)
					reads(t, ahead+l, "", "", api.ErrForm)
				}
				reads(t, ahead+".\r\n"+l, text, l, api.OK)
			}
			if c != "\r" {
				reads(t, ahead+"."+c, "", "", api.ErrShort)
			}
		}
	}
}

// R1: what is told shares no memory with what was handed in.
func TestNothingShared(t *testing.T) {
	text, s := strings.Clone("abc\r\nd\r\n"), strings.Clone("abc\r\n.\r\ndef")
	sent, _ := stuff.Stuff(text)
	read, rest, _ := stuff.Unstuff(s)
	for _, told := range []string{sent, read, rest} {
		for _, of := range []string{text, s} {
			if within(told, of) {
				t.Errorf("%q lies within %q", told, of)
			}
		}
	}
	if within(read, rest) || within(rest, read) {
		t.Errorf("%q and %q lie within each other", read, rest)
	}
}

// within tells whether part lies in the memory of whole.
func within(part, whole string) bool {
	p, w := uintptr(unsafe.Pointer(unsafe.StringData(part))), uintptr(unsafe.Pointer(unsafe.StringData(whole)))
	return p >= w && p < w+uintptr(len(whole))
}
