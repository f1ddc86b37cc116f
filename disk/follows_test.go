package disk_test

import (
	"slices"
	"strconv"
	"testing"

	"mailroom/api"
	"mailroom/disk"
)

// plainDisk does by the chapter's words alone what a disk does: two sectors, the power, and what was told of it.
type plainDisk struct {
	last  [2]string // as they were written last
	ahead [2]string // as they were ahead of the first Write since the last Sync
	dirty [2]bool
	ops   int
	off   bool
	fail  int
}

func (p *plainDisk) operation() api.Errno {
	p.ops++
	if p.fail > 0 {
		p.fail--
		p.off = p.fail == 0
	}
	return api.OK
}

func (p *plainDisk) write(at int, s string) api.Errno {
	if p.off {
		return api.ErrOff
	}
	if at < 0 || at > 1 || len(s) != 128 {
		return api.ErrArg
	}
	if !p.dirty[at] {
		p.ahead[at] = p.last[at]
	}
	p.last[at], p.dirty[at] = s, true
	return p.operation()
}

func (p *plainDisk) sync() api.Errno {
	if p.off {
		return api.ErrOff
	}
	p.dirty = [2]bool{}
	return p.operation()
}

func (p *plainDisk) boot(keep []int) api.Errno {
	if !p.off {
		return api.ErrState
	}
	for at := range 2 {
		if !p.dirty[at] {
			continue
		}
		n := 0
		if len(keep) > 0 {
			n, keep = min(128, max(0, keep[0])), keep[1:]
		}
		p.last[at] = p.last[at][:n] + p.ahead[at][n:]
	}
	p.dirty, p.off, p.fail = [2]bool{}, false, 0
	return api.OK
}

func (p *plainDisk) list() []int {
	var out []int
	for at, is := range p.dirty {
		if is {
			out = append(out, at)
		}
	}
	return out
}

// step is done to both, a disk and a plain one.
type step struct {
	name  string
	disk  func(d *disk.Disk) api.Errno
	plain func(p *plainDisk) api.Errno
}

func writes(at int, s string) step {
	return step{
		"Write " + strconv.Itoa(at) + " " + s[:1] + " " + strconv.Itoa(len(s)),
		func(d *disk.Disk) api.Errno { return d.Write(at, s) },
		func(p *plainDisk) api.Errno { return p.write(at, s) },
	}
}

func failing(n int) step {
	return step{
		"Fail " + strconv.Itoa(n),
		func(d *disk.Disk) api.Errno { d.Fail(n); return api.OK },
		func(p *plainDisk) api.Errno {
			if !p.off { // without power it says nothing of what is behind a Boot
				p.fail = max(n, 0)
			}
			return api.OK
		},
	}
}

func boots(keep ...int) step {
	name := "Boot"
	for _, n := range keep {
		name += " " + strconv.Itoa(n)
	}
	return step{
		name,
		func(d *disk.Disk) api.Errno { return d.Boot(keep) },
		func(p *plainDisk) api.Errno { return p.boot(keep) },
	}
}

func syncs() step {
	return step{"Sync", (*disk.Disk).Sync, (*plainDisk).sync}
}

// alike holds all that a disk tells against the plain one.
func alike(t *testing.T, d *disk.Disk, p *plainDisk, row []string) {
	t.Helper()
	if d.On() == p.off || d.Ops() != p.ops || d.Sectors() != 2 || !slices.Equal(d.Dirty(), p.list()) {
		t.Fatalf("%q: On %v, Ops %d, Sectors %d, Dirty %v; want %v, %d, 2, %v", row, d.On(), d.Ops(), d.Sectors(), d.Dirty(), !p.off, p.ops, p.list())
	}
	for at := range 2 {
		want, wantE := p.last[at], api.OK
		if p.off {
			want, wantE = "", api.ErrOff
		}
		if s, e := d.Read(at); s != want || e != wantE {
			t.Fatalf("%q: Read(%d): %q, %v; want %q, %v", row, at, s, e, want, wantE)
		}
	}
}

// P10.1 to P10.6: whatever is done, one step behind the other, each on a copy of what was ahead of it.
func TestWhateverIsDone(t *testing.T) {
	const most = 5
	steps := []step{
		writes(0, full("a")), writes(0, full("b")), writes(1, full("c")), writes(2, full("d")), writes(1, "e"),
		syncs(), failing(1), failing(2), failing(0), boots(), boots(5), boots(128, 3),
	}
	var try func(d *disk.Disk, p plainDisk, row []string)
	try = func(d *disk.Disk, p plainDisk, row []string) {
		if len(row) == most {
			return
		}
		for _, s := range steps {
			n, q := d.Copy(), p
			now := append(slices.Clone(row), s.name)
			if e, want := s.disk(n), s.plain(&q); e != want {
				t.Fatalf("%q: %v; want %v", now, e, want)
			}
			alike(t, n, &q, now)
			try(n, q, now)
		}
		alike(t, d, &p, row)
	}
	try(made(t, 2), plainDisk{last: [2]string{none, none}}, nil)
}

// walk goes a long way of steps that a number tells, and shows what was done to each.
type walk struct {
	*testing.T
	d      *disk.Disk
	seed   uint32
	synced map[int]string // as it was at the last Sync, or Boot
	last   map[int]string // as it was written last, if it was since then
}

const walkSectors = 7

func (w *walk) next(below int) int {
	w.seed = w.seed*1664525 + 1013904223
	return int(w.seed>>8) % below
}

func (w *walk) text() string {
	b := make([]byte, 128)
	for i := range b {
		b[i] = byte(w.next(256))
	}
	return string(b)
}

func (w *walk) write() {
	at, s := w.next(walkSectors), w.text()
	if w.d.Write(at, s) == api.OK {
		w.last[at] = s
	}
}

func (w *walk) sync() {
	if w.d.Sync() == api.OK {
		for at, s := range w.last {
			w.synced[at] = s
		}
		clear(w.last)
	}
}

// boot holds each byte against what it may be.
func (w *walk) boot() {
	var keep []int
	for range w.next(walkSectors + 2) {
		keep = append(keep, w.next(140)-6)
	}
	if w.d.Boot(keep) != api.OK {
		return
	}
	for at := range walkSectors {
		s := reads(w.T, w.d, at)
		was := w.synced[at]
		last, dirty := w.last[at]
		for i := range 128 {
			if s[i] != was[i] && !(dirty && s[i] == last[i]) {
				w.Fatalf("sector %d, byte %d: %q; it was %q, and %q", at, i, s, was, last)
			}
		}
		w.synced[at] = s
	}
	clear(w.last)
}

// clean holds each sector that is not dirty against what it was.
func (w *walk) clean() {
	dirty := w.d.Dirty()
	for at := range walkSectors {
		if slices.Contains(dirty, at) {
			continue
		}
		if s, e := w.d.Read(at); e == api.OK && s != w.synced[at] {
			w.Fatalf("sector %d: %q; was %q", at, s, w.synced[at])
		}
	}
}

// P10.3, P10.4.
func TestWhatLasts(t *testing.T) {
	for seed := range uint32(40) {
		w := &walk{T: t, d: made(t, walkSectors), seed: seed, synced: map[int]string{}, last: map[int]string{}}
		for at := range walkSectors {
			w.synced[at] = none
		}
		boots := 0
		for range 600 {
			switch w.next(12) {
			case 0:
				w.sync()
			case 1:
				w.d.Fail(w.next(9) - 1)
			case 2, 3:
				if !w.d.On() {
					boots++
				}
				w.boot()
			default:
				w.write()
			}
			w.clean()
		}
		if boots < 5 {
			t.Errorf("of %d: %d boots alone", seed, boots)
		}
	}
}
