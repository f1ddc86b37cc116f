package reply_test

import (
	"slices"
	"strconv"
	"strings"
	"testing"
	"unsafe"

	"mailroom/api"
	"mailroom/every"
	"mailroom/reply"
)

// some are replies that may be, with the status that their last line tells.
func some() []reply.Reply {
	var out []reply.Reply
	texts := []string{"", " ", "a", "-", "2.1.0", "2.1.0 ok", "5.7.10 no", "3.0.0 x", "250 x", "250-x", "\t", "~ a\tb "}
	for _, code := range []int{200, 250, 354, 421, 450, 559} {
		for _, a := range texts {
			out = append(out, reply.Reply{Code: code, Status: statusOf(code, a), Lines: []string{a}})
			for _, b := range texts {
				out = append(out, reply.Reply{Code: code, Status: statusOf(code, b), Lines: []string{a, b}})
				out = append(out, reply.Reply{Code: code, Status: statusOf(code, a), Lines: []string{b, b, a}})
			}
		}
		out = append(out, reply.Reply{Code: code, Lines: many(32)})
	}
	return out
}

// linesOf puts a reply's lines together by the chapter's words alone.
func linesOf(x reply.Reply) []string {
	var out []string
	for i, text := range x.Lines {
		mark := "-"
		if i == len(x.Lines)-1 {
			mark = " "
		}
		out = append(out, strconv.Itoa(x.Code)+mark+text)
	}
	return out
}

// P5.3: what is shown makes that reply.
func TestWhatIsShownIsRead(t *testing.T) {
	r := reply.New()
	for _, x := range some() {
		lines := reply.Show(x)
		if len(lines) != len(x.Lines) {
			t.Fatalf("Show(%+v): %q", x, lines)
		}
		whole(t, r, lines...)
		got, ok := r.Take()
		if !ok || !reply.Same(got, x) || got.Code != x.Code || got.Status != x.Status || !slices.Equal(got.Lines, x.Lines) {
			t.Fatalf("%+v, shown, read: %+v", x, got)
		}
		// Whatever status it had ahead of that, it is the last line's.
		wrong := x
		wrong.Status = "4.4.4"
		if !slices.Equal(reply.Show(wrong), lines) {
			t.Fatalf("Show(%+v): %q", wrong, reply.Show(wrong))
		}
	}
}

// P5.3: what was read is shown.
func TestWhatIsReadIsShown(t *testing.T) {
	for _, x := range some() {
		lines := linesOf(x)
		got := reply.Show(made(t, lines...))
		last := len(lines) - 1
		if len(got) != len(lines) || !slices.Equal(got[:last], lines[:last]) {
			t.Fatalf("%q, read, shown: %q", lines, got)
		}
		if x.Lines[last] == "" {
			lines[last], got[last] = strings.TrimSuffix(lines[last], " "), strings.TrimSuffix(got[last], " ")
		}
		if got[last] != lines[last] {
			t.Fatalf("%q, read, shown: %q", lines, got)
		}
	}
	for _, s := range every.Text(3, "a", "-", " ", "2.0.0", "\t") {
		if got := reply.Show(made(t, "250-"+s, "250 x"+s)); !slices.Equal(got, []string{"250-" + s, "250 x" + s}) {
			t.Fatalf("%q: %q", s, got)
		}
	}
}

// P5.4: a beginning tells none; the last line tells it.
func TestLineByLine(t *testing.T) {
	for _, x := range some() {
		lines := linesOf(x)
		for n := range lines {
			r := reply.New()
			for _, s := range lines[:n] {
				line(t, r, s, false, api.OK)
				nothing(t, r)
			}
			r.Copy().Reset()
			if done, e := r.Copy().Line(lines[n]); done != (n == len(lines)-1) || e != api.OK {
				t.Fatalf("%q behind %q: %v, %v", lines[n], lines[:n], done, e)
			}
		}
	}
}

// P5.4: replies behind one another come as each alone.
func TestOneBehindTheOther(t *testing.T) {
	r := reply.New()
	list := some()
	for i, x := range list {
		for _, y := range []reply.Reply{list[len(list)-1-i], list[0], x} {
			for _, z := range []reply.Reply{x, y} {
				whole(t, r, linesOf(z)...)
				got, ok := r.Take()
				if alone := made(t, linesOf(z)...); !ok || !reply.Same(got, alone) || !reply.Same(got, z) {
					t.Fatalf("%+v behind others: %+v; alone: %+v", z, got, alone)
				}
			}
		}
	}
}

// plainReader tells by the chapter's words alone what a reader does.
type plainReader struct {
	code  int
	lines []string
	last  reply.Reply
	has   bool
	dead  bool
}

func (p *plainReader) line(s string) (done bool, e api.Errno) {
	code, more, text, may := plainly(s)
	switch {
	case p.dead:
		return false, api.ErrState
	case !may || len(p.lines) > 0 && code != p.code:
		p.dead = true
		return false, api.ErrForm
	case len(p.lines) == 32:
		p.dead = true
		return false, api.ErrTooLarge
	}
	p.code, p.lines = code, append(p.lines, text)
	if more {
		return false, api.OK
	}
	p.last, p.has = reply.Reply{Code: code, Status: statusOf(code, text), Lines: p.lines}, true
	p.lines = nil
	return true, api.OK
}

// P5.4, P5.5, P5.6: whatever lines come, one behind the other, and whenever a reply is taken.
func TestWhateverComes(t *testing.T) {
	const most = 5
	pieces := []string{"250-a", "250 b", "250", "251 2.0.0", "451-c", "x", "take", "reset"}
	var try func(r *reply.Reader, p plainReader, ahead []string)
	try = func(r *reply.Reader, p plainReader, ahead []string) {
		if len(ahead) == most {
			return
		}
		for _, s := range pieces {
			n, q := r.Copy(), p
			q.lines = slices.Clone(p.lines)
			switch s {
			case "take":
				x, ok := n.Take()
				want := reply.Reply{}
				if q.has {
					want = q.last
				}
				if ok != q.has || !reply.Same(x, want) {
					t.Fatalf("Take behind %q: %+v, %v; want %+v, %v", ahead, x, ok, want, q.has)
				}
				q.last, q.has = reply.Reply{}, false
			case "reset":
				n.Reset()
				q = plainReader{}
			default:
				done, e := n.Line(s)
				if d, want := q.line(s); done != d || e != want {
					t.Fatalf("Line(%q) behind %q: %v, %v; want %v, %v", s, ahead, done, e, d, want)
				}
			}
			if n.Dead() != q.dead {
				t.Fatalf("%q behind %q: Dead %v; want %v", s, ahead, n.Dead(), q.dead)
			}
			try(n, q, append(slices.Clone(ahead), s))
		}
	}
	try(reply.New(), plainReader{}, nil)
}

// P5.5.
func TestDead(t *testing.T) {
	for _, x := range []struct {
		ahead []string
		kills string
	}{
		{nil, ""}, {nil, "x"}, {nil, "250x"}, {nil, "150 a"}, {nil, "250 \x00"},
		{[]string{"250-a"}, ""}, {[]string{"250-a"}, "251 b"}, {[]string{"250-a"}, "251-b"}, {[]string{"250-a"}, "250b"}, {[]string{"250-a"}, "a"},
	} {
		for _, taken := range []bool{false, true} {
			r := reply.New()
			whole(t, r, "220-one", "220 2.0.0 two")
			if taken {
				take(t, r, 220, "2.0.0", "one", "2.0.0 two")
			}
			for _, s := range x.ahead {
				line(t, r, s, false, api.OK)
			}
			line(t, r, x.kills, false, api.ErrForm)
			for _, s := range []string{"250 b", "250-b", "", x.kills} {
				line(t, r, s, false, api.ErrState)
			}
			if taken {
				nothing(t, r)
			} else {
				take(t, r, 220, "2.0.0", "one", "2.0.0 two")
			}
			r.Reset()
			if r.Dead() {
				t.Errorf("%q, %q: dead behind a Reset", x.ahead, x.kills)
			}
			nothing(t, r)
			whole(t, r, "451-c", "451 d") // none of the lines ahead is there
			take(t, r, 451, "", "c", "d")
		}
	}
}

// R1: what is handed in stays; what is told shares no memory with it, nor with what is told elsewhere.
func TestNothingShared(t *testing.T) {
	s := strings.Clone("250 2.1.0 some text")
	_, _, text, _ := reply.Parse(s)
	r := reply.New()
	whole(t, r, s)
	x, _ := r.Take()
	for _, told := range []string{text, x.Status, x.Lines[0]} {
		if told == "" || lies(told, s) {
			t.Errorf("%q lies within %q, or is nothing", told, s)
		}
	}

	lines := []string{"one", "two", "three"}
	shown := reply.Show(reply.Reply{Code: 250, Lines: lines[:2]})
	shown[0] = "changed"
	reply.Same(reply.Reply{Lines: lines}, reply.Reply{Lines: lines})
	if !slices.Equal(lines, []string{"one", "two", "three"}) {
		t.Errorf("what was handed in: %q", lines)
	}

	whole(t, r, "250-a", "250 b")
	x, _ = r.Take()
	whole(t, r, "450-c", "450 d")
	x.Lines[0], x.Lines = "changed", append(x.Lines, "more")
	line(t, r, "550-e", false, api.OK)
	take(t, r, 450, "", "c", "d")
	line(t, r, "550 f", true, api.OK)
	take(t, r, 550, "", "e", "f")
}

// lies tells whether part lies in the memory of whole.
func lies(part, whole string) bool {
	p, w := uintptr(unsafe.Pointer(unsafe.StringData(part))), uintptr(unsafe.Pointer(unsafe.StringData(whole)))
	return p >= w && p < w+uintptr(len(whole))
}
