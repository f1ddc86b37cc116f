package line_test

import (
	"math"
	"slices"
	"strings"
	"testing"
	"unsafe"

	"mailroom/api"
	"mailroom/every"
	"mailroom/line"
)

func framer(t *testing.T, most int) *line.Framer {
	t.Helper()
	f, e := line.New(most)
	if e != api.OK || f == nil {
		t.Fatalf("New(%d): %v, %v", most, f, e)
	}
	return f
}

// is holds what a Feed told, and what the framer is behind it, against what is wanted.
func is(t *testing.T, f *line.Framer, feed string, lines []string, e api.Errno, left string) {
	t.Helper()
	l, got := f.Feed(feed)
	if !slices.Equal(l, lines) || got != e {
		t.Errorf("Feed(%q): %q, %v; want %q, %v", feed, l, got, lines, e)
	}
	if f.Left() != left {
		t.Errorf("Feed(%q): Left %q; want %q", feed, f.Left(), left)
	}
	if dead := e == api.ErrTooLarge || e == api.ErrState; f.Dead() != dead {
		t.Errorf("Feed(%q): Dead %v; want %v", feed, f.Dead(), dead)
	}
}

// plainly is what a framer tells of s, reckoned byte by byte from the chapter's words alone.
func plainly(s string, most int) (lines []string, left string, dead bool) {
	for i := range len(s) {
		left += s[i : i+1]
		if strings.HasSuffix(left, "\r\n") {
			lines = append(lines, left[:len(left)-2])
			left = ""
		} else if len(left) == most {
			return lines, "", true
		}
	}
	return lines, left, false
}

func TestExamplesOfTheChapter(t *testing.T) {
	f := framer(t, 8)
	is(t, f, "ab\r\ncd", []string{"ab"}, api.OK, "cd")
	is(t, f, "\n\re\r\nf", []string{"cd\n\re"}, api.OK, "f")
	is(t, f, "ghijklm", nil, api.ErrTooLarge, "")
	if l, rest := line.Cut("a\r\n\nb"); !slices.Equal(l, []string{"a"}) || rest != "\nb" {
		t.Errorf("Cut: %q, %q", l, rest)
	}
}

// P1.1, and the table of errors.
func TestNew(t *testing.T) {
	for _, most := range []int{math.MinInt, -1, 0, 1, 513, 514, math.MaxInt} {
		if f, e := line.New(most); f != nil || e != api.ErrArg {
			t.Errorf("New(%d): %v, %v", most, f, e)
		}
	}
	for _, most := range []int{2, 3, 8, 511, 512} {
		f := framer(t, most)
		if f.Left() != "" || f.Dead() {
			t.Errorf("New(%d): something has come to it", most)
		}
		is(t, f, "", nil, api.OK, "")
	}
}

func TestFeed(t *testing.T) {
	f := framer(t, 16)
	is(t, f, "", nil, api.OK, "")
	is(t, f, "a", nil, api.OK, "a")
	is(t, f, "", nil, api.OK, "a")
	is(t, f, "b\r\n\r\nc\r\n", []string{"ab", "", "c"}, api.OK, "")
	is(t, f, "\x00\xff\r\n", []string{"\x00\xff"}, api.OK, "")
	is(t, f, "a\nb\rc\r\n", []string{"a\nb\rc"}, api.OK, "")
	is(t, f, "\n\r\r\r\n", []string{"\n\r\r"}, api.OK, "")
}

func TestEndThatComesApart(t *testing.T) {
	f := framer(t, 8)
	is(t, f, "ab\r", nil, api.OK, "ab\r")
	is(t, f, "\ncd\r", []string{"ab"}, api.OK, "cd\r")
	is(t, f, "", nil, api.OK, "cd\r")
	is(t, f, "\r", nil, api.OK, "cd\r\r")
	is(t, f, "\n", []string{"cd\r"}, api.OK, "")
	is(t, f, "\n", nil, api.OK, "\n")
	is(t, f, "\r", nil, api.OK, "\n\r")
	is(t, f, "\n\r", []string{"\n"}, api.OK, "\r")
	is(t, f, "\n", []string{""}, api.OK, "")
}

func TestAsManyBytesAsMayBe(t *testing.T) {
	f := framer(t, 8)
	is(t, f, "abcdef\r\n", []string{"abcdef"}, api.OK, "")
	is(t, f, "abcdef\r", nil, api.OK, "abcdef\r")
	is(t, f, "\n", []string{"abcdef"}, api.OK, "")
	is(t, f, "abcdefg", nil, api.OK, "abcdefg")
	is(t, f, "\r", nil, api.ErrTooLarge, "") // its LF would be the ninth byte

	is(t, framer(t, 8), "abcdefg\r\n", nil, api.ErrTooLarge, "")
	is(t, framer(t, 8), "abcdefgh", nil, api.ErrTooLarge, "")
	is(t, framer(t, 8), "abcdefgh\r\n", nil, api.ErrTooLarge, "")

	f = framer(t, 2)
	is(t, f, "\r\n\r", []string{""}, api.OK, "\r")
	is(t, f, "\n", []string{""}, api.OK, "")
	is(t, f, "\r\r", nil, api.ErrTooLarge, "")

	long := strings.Repeat("x", 510)
	f = framer(t, api.MaxLine)
	is(t, f, long+"\r\n"+long+"x", []string{long}, api.OK, long+"x")
	is(t, f, "\r\n", nil, api.ErrTooLarge, "")
}

func TestTooLongBehindLinesThatAreWhole(t *testing.T) {
	f := framer(t, 8)
	is(t, f, "ab", nil, api.OK, "ab")
	is(t, f, "c\r\n\r\nde\r\nabcdefgh\r\nij\r\n", []string{"abc", "", "de"}, api.ErrTooLarge, "")
	is(t, f, "k\r\n", nil, api.ErrState, "")
}

func TestDead(t *testing.T) {
	f := framer(t, 4)
	is(t, f, "abcd", nil, api.ErrTooLarge, "")
	is(t, f, "", nil, api.ErrState, "")
	is(t, f, "\r\n", nil, api.ErrState, "")
	is(t, f.Copy(), "a\r\n", nil, api.ErrState, "")
	f.Reset()
	if f.Dead() || f.Left() != "" {
		t.Error("Reset: dead, or something has come")
	}
	is(t, f, "ab\r\nc", []string{"ab"}, api.OK, "c")
	is(t, f, "de\r\n", nil, api.ErrTooLarge, "") // most stays behind a Reset
}

func TestNil(t *testing.T) {
	var f *line.Framer
	if l, e := f.Feed("a\r\n"); l != nil || e != api.ErrNil {
		t.Errorf("Feed: %q, %v", l, e)
	}
	f.Reset()
	if f.Left() != "" || f.Dead() || f.Copy() != nil {
		t.Error("nil tells something")
	}
}

// R1: a framer that New did not make ends each call, too.
func TestNotMade(t *testing.T) {
	f := new(line.Framer)
	f.Feed("a\r\nb")
	f.Feed("")
	f.Reset()
	if f.Copy().Left() != "" {
		t.Error("something is left")
	}
}

func TestCopyGoesItsOwnWay(t *testing.T) {
	f := framer(t, 8)
	is(t, f, "ab", nil, api.OK, "ab")
	g := f.Copy()
	is(t, f, "c", nil, api.OK, "abc")
	is(t, g, "xy", nil, api.OK, "abxy")
	is(t, f, "d\r\n", []string{"abcd"}, api.OK, "")
	is(t, g, "z\r\n", []string{"abxyz"}, api.OK, "")
	is(t, g, "12345678", nil, api.ErrTooLarge, "") // most goes along
	is(t, f, "e", nil, api.OK, "e")
	h := f.Copy()
	f.Reset()
	is(t, h, "\r\n", []string{"e"}, api.OK, "")
}

// P1.2.
func TestCut(t *testing.T) {
	long := strings.Repeat("x", 3*api.MaxLine)
	for _, x := range []struct {
		s     string
		lines []string
		rest  string
	}{
		{"", nil, ""},
		{"a", nil, "a"},
		{"\r", nil, "\r"},
		{"\n", nil, "\n"},
		{"\n\r", nil, "\n\r"},
		{"\r\n", []string{""}, ""},
		{"\r\r\n\n", []string{"\r"}, "\n"},
		{"a\r\n\r\nb\r\n", []string{"a", "", "b"}, ""},
		{"a\nb\r\nc\rd", []string{"a\nb"}, "c\rd"},
		{long + "\r\n" + long, []string{long}, long},
	} {
		if l, rest := line.Cut(x.s); !slices.Equal(l, x.lines) || rest != x.rest {
			t.Errorf("Cut(%q): %q, %q; want %q, %q", x.s, l, rest, x.lines, x.rest)
		}
	}
}

func TestJoin(t *testing.T) {
	for _, x := range []struct {
		lines []string
		s     string
	}{
		{nil, ""},
		{[]string{}, ""},
		{[]string{""}, "\r\n"},
		{[]string{"a", "", "b\rc\nd"}, "a\r\n\r\nb\rc\nd\r\n"},
		{[]string{"a\r\nb"}, "a\r\nb\r\n"},
	} {
		if s := line.Join(x.lines); s != x.s {
			t.Errorf("Join(%q): %q; want %q", x.lines, s, x.s)
		}
	}
}

// fed hands parts to a framer one behind the other, till it is dead.
func fed(t *testing.T, f *line.Framer, parts ...string) (lines []string) {
	t.Helper()
	for _, p := range parts {
		was := f.Dead()
		l, e := f.Feed(p)
		lines = append(lines, l...)
		if want := errnoOf(was, f.Dead()); e != want {
			t.Errorf("Feed(%q) of %q: %v; want %v", p, parts, e, want)
		}
	}
	return lines
}

func errnoOf(was, is bool) api.Errno {
	switch {
	case was:
		return api.ErrState
	case is:
		return api.ErrTooLarge
	}
	return api.OK
}

// P1.3: at once, in two parts, and byte by byte.
func TestHoweverItComes(t *testing.T) {
	for _, s := range every.Text(7, "a", "\r", "\n") {
		for most := 2; most <= 6; most++ {
			lines, left, dead := plainly(s, most)
			ways := [][]string{{s}, strings.Split(s, "")}
			for i := range len(s) {
				ways = append(ways, []string{s[:i], s[i:]})
			}
			for _, parts := range ways {
				f := framer(t, most)
				l := fed(t, f, parts...)
				if !slices.Equal(l, lines) || f.Left() != left || f.Dead() != dead {
					t.Fatalf("most %d, %q: %q, %q, %v; want %q, %q, %v", most, parts, l, f.Left(), f.Dead(), lines, left, dead)
				}
			}
		}
	}
}

func TestKilledAtTheSameByte(t *testing.T) {
	s := "ab\r\n\r\ncdefghij\r\n"
	for i := range len(s) + 1 {
		f := framer(t, 6)
		fed(t, f, s[:i])
		if f.Dead() != (i >= len("ab\r\n\r\ncdefgh")) {
			t.Errorf("behind %q: Dead %v", s[:i], f.Dead())
		}
	}
}

// P1.4.
func TestThereAndBack(t *testing.T) {
	for _, s := range every.Text(8, "a", "\r", "\n") {
		lines, rest := line.Cut(s)
		if back := line.Join(lines) + rest; back != s {
			t.Fatalf("%q: joined %q", s, back)
		}
		if strings.Contains(rest, "\r\n") {
			t.Fatalf("%q: a line is left in the rest %q", s, rest)
		}
	}
	may := slices.DeleteFunc(every.Text(3, "a", "\r", "\n"), func(l string) bool {
		return strings.Contains(l, "\r\n") || strings.HasSuffix(l, "\r")
	})
	for _, a := range may {
		for _, b := range may {
			want := []string{a, b}
			if lines, rest := line.Cut(line.Join(want)); !slices.Equal(lines, want) || rest != "" {
				t.Fatalf("%q: %q, %q", want, lines, rest)
			}
		}
	}
}

// P1.5: each line that is ended and not longer is told as long as it lives; none that is longer is.
func TestAsLongAsMayBe(t *testing.T) {
	for most := 2; most <= api.MaxLine; most++ {
		f := framer(t, most)
		for n := range most + 1 {
			l, e := f.Feed(strings.Repeat("a", n) + "\r\n")
			if told := len(l) == 1 && len(l[0]) == n; told != (n <= most-2) || told != (e == api.OK) {
				t.Fatalf("most %d: a line of %d bytes: %q, %v", most, n, l, e)
			}
			if e != api.OK {
				f.Reset()
			}
		}
		f.Reset()
		for n := 1; n <= most; n++ {
			f.Feed("a")
			if len(f.Left()) >= most || f.Dead() != (n == most) {
				t.Fatalf("most %d: behind %d bytes: Left %q, Dead %v", most, n, f.Left(), f.Dead())
			}
		}
	}
}

// P1.6.
func TestThrownAway(t *testing.T) {
	texts := every.Text(4, "a", "\r", "\n")
	for _, ahead := range texts {
		f := framer(t, 3)
		f.Feed(ahead)
		for _, s := range texts {
			f.Reset()
			g := framer(t, 3)
			a, ae := f.Feed(s)
			b, be := g.Feed(s)
			if !slices.Equal(a, b) || ae != be || f.Left() != g.Left() || f.Dead() != g.Dead() {
				t.Fatalf("%q, thrown away, %q: %q, %v; a new one: %q, %v", ahead, s, a, ae, b, be)
			}
		}
	}
}

// R1: what is handed in stays; what is told shares no memory with it.
func TestNothingShared(t *testing.T) {
	lines := []string{"a", "b"}
	line.Join(lines)
	if !slices.Equal(lines, []string{"a", "b"}) {
		t.Errorf("Join changed its lines: %q", lines)
	}

	s := strings.Clone("abc\r\ndef")
	f := framer(t, 8)
	l, _ := f.Feed(s)
	cut, rest := line.Cut(s)
	for _, told := range []string{l[0], f.Left(), cut[0], rest} {
		if within(told, s) {
			t.Errorf("%q lies within %q", told, s)
		}
	}
	l[0] = "changed"
	is(t, f, "g\r\n", []string{"defg"}, api.OK, "")
}

// within tells whether part lies in the memory of whole.
func within(part, whole string) bool {
	p, w := uintptr(unsafe.Pointer(unsafe.StringData(part))), uintptr(unsafe.Pointer(unsafe.StringData(whole)))
	return p >= w && p < w+uintptr(len(whole))
}
