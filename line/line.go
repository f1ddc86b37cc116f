// Package line is layer 1: lines out of bytes, however the bytes come. See shared/doc/01-line.md.
package line

import (
	"iter"
	"strings"

	"mailroom/api"
)

// end is what a line ends by.
const end = "\r\n"

// Framer is handed bytes, as they come, and tells the lines that are whole by them.
type Framer struct {
	most int    // bytes that a line may have, its end among them
	have []byte // what has come of a line that is not whole: less than most bytes
	dead bool
}

// New makes a framer for lines of most bytes at most, their ends among them.
func New(most int) (*Framer, api.Errno) {
	if most < len(end) || most > api.MaxLine {
		return nil, api.ErrArg
	}
	return &Framer{most: most}, api.OK
}

// Feed tells the lines that are whole by s, without their ends. A line that gets too long kills the framer; the lines ahead of it are told.
func (f *Framer) Feed(s string) (lines []string, e api.Errno) {
	if f == nil {
		return nil, api.ErrNil
	}
	if f.dead {
		return nil, api.ErrState
	}
	rest := string(f.have) + s
	for l, behind := range cuts(rest, f.most) {
		lines = append(lines, strings.Clone(l))
		rest = behind
	}
	if len(rest) >= f.most {
		f.have, f.dead = nil, true
		return lines, api.ErrTooLarge
	}
	f.keep(rest)
	return lines, api.OK
}

// Left tells the bytes of a line that is not whole; of a dead framer none.
func (f *Framer) Left() string {
	if f == nil {
		return ""
	}
	return string(f.have)
}

// Dead tells whether a line got too long.
func (f *Framer) Dead() bool {
	return f != nil && f.dead
}

// Reset throws away what has come, and wakes a dead framer.
func (f *Framer) Reset() {
	if f != nil {
		f.have, f.dead = nil, false
	}
}

// Copy makes a framer that goes its own way from here on.
func (f *Framer) Copy() *Framer {
	if f == nil {
		return nil
	}
	n := &Framer{most: f.most, dead: f.dead}
	n.keep(string(f.have))
	return n
}

// Cut tells the lines of a text of whatever length, and what stands behind the last one's end.
func Cut(s string) (lines []string, rest string) {
	rest = s
	for l, behind := range cuts(s, len(s)) {
		lines = append(lines, strings.Clone(l))
		rest = behind
	}
	return lines, strings.Clone(rest)
}

// Join puts lines together, each with its end.
func Join(lines []string) string {
	var b strings.Builder
	for _, l := range lines {
		b.WriteString(l)
		b.WriteString(end)
	}
	return b.String()
}

// cuts goes over the lines of s, each with what stands behind its end. It stops ahead of a line that has no end, or none within its first most bytes.
func cuts(s string, most int) iter.Seq2[string, string] {
	return func(yield func(l, behind string) bool) {
		for {
			// No further than most: a framer that dies early must not go through all that came.
			l, _, whole := strings.Cut(s[:min(len(s), most)], end)
			if !whole {
				return
			}
			s = s[len(l)+len(end):]
			if !yield(l, s) {
				return
			}
		}
	}
}

// keep has s stand in memory of its own: what was handed in is not held on to, and a copy shares none with it.
func (f *Framer) keep(s string) {
	f.have = make([]byte, len(s))
	copy(f.have, s)
}
