package log_test

import (
	"slices"
	"strconv"
	"testing"

	"mailroom/api"
	"mailroom/disk"
	"mailroom/frame"
	"mailroom/log"
)

// plainLog does by the chapter's words alone what a log does.
type plainLog struct {
	d               *disk.Disk
	half, age, next int
	off             bool
}

func (p *plainLog) write(s string) api.Errno {
	sectors, e := frame.Split(p.age, p.next, s)
	many := p.d.Sectors() / 2
	if e != api.OK || len(sectors) > many-p.next {
		return api.ErrFull
	}
	for i, sector := range sectors {
		if p.d.Write(p.half*many+p.next+i, sector) == api.ErrOff {
			p.off = true
			return api.ErrOff
		}
	}
	p.next += len(sectors)
	return api.OK
}

func (p *plainLog) add(s string) api.Errno {
	if p == nil {
		return api.ErrNil
	}
	if p.off {
		return api.ErrState
	}
	return p.write(s)
}

func (p *plainLog) room() int {
	if p == nil {
		return 0
	}
	return p.d.Sectors()/2 - p.next
}

// plainScan reckons, by the chapter's words, what a half has: each place is tried, and each number of sectors from it on.
func plainScan(d *disk.Disk, half int) (int, []string, api.Errno) {
	if !d.On() {
		return 0, nil, api.ErrOff
	}
	many := d.Sectors() / 2
	var sectors []string
	for at := half * many; at < (half+1)*many; at++ {
		s, _ := d.Read(at)
		sectors = append(sectors, s)
	}
	age, place, _, is := frame.Get(sectors[0])
	if !is || place != 0 {
		return 0, nil, api.ErrNone
	}
	var records []string
	for from := 0; from < many; {
		to := from + 1
		for to <= many {
			if s, n, is := frame.Join(sectors[from:to], age, from); is && n == to-from {
				records = append(records, s)
				break
			}
			to++
		}
		if to > many {
			break
		}
		from = to
	}
	if len(records) == 0 {
		return 0, nil, api.ErrNone
	}
	return age, records, api.OK
}

// plainTop reckons the greatest number at a sector's ends.
func plainTop(d *disk.Disk) (int, api.Errno) {
	most := 0
	for at := range d.Sectors() {
		s, e := d.Read(at)
		if e != api.OK {
			return 0, e
		}
		for _, from := range []int{0, 120} {
			n := int(s[from]) + int(s[from+1])<<8 + int(s[from+2])<<16 + int(s[from+3])<<24
			most = max(most, n)
		}
	}
	return most, api.OK
}

// both are a disk with a log, and others, by the chapter's words.
type both struct {
	d *disk.Disk
	l *log.Log
	q *disk.Disk
	p *plainLog
}

// copies makes both anew; what is done to them is not seen.
func (b both) copies() both {
	n := both{d: b.d.Copy(), q: b.q.Copy()}
	n.l = b.l.Over(n.d)
	if b.p != nil {
		p := *b.p
		p.d, n.p = n.q, &p
	}
	return n
}

// step is done to both.
type step struct {
	name string
	do   func(b *both) (got, want api.Errno)
}

// beginning is a log that takes the former one's place, if it is one.
func beginning(half, age int, s string) step {
	return step{"Begin " + strconv.Itoa(half) + " " + strconv.Itoa(age) + " " + strconv.Itoa(len(s)), func(b *both) (got, want api.Errno) {
		l, got := log.Begin(b.d, half, age, s)
		p := &plainLog{d: b.q, half: half, age: age}
		want = p.write(s)
		if got == api.OK {
			b.l = l
		}
		if want == api.OK {
			b.p = p
		}
		return got, want
	}}
}

func adding(s string) step {
	return step{"Add " + strconv.Itoa(len(s)), func(b *both) (got, want api.Errno) { return b.l.Add(s), b.p.add(s) }}
}

// onDisk is done to the disks alone.
func onDisk(name string, do func(d *disk.Disk) api.Errno) step {
	return step{name, func(b *both) (got, want api.Errno) { return do(b.d), do(b.q) }}
}

func failing(n int) step {
	return onDisk("Fail "+strconv.Itoa(n), func(d *disk.Disk) api.Errno { d.Fail(n); return api.OK })
}

func booting(keep ...int) step {
	return onDisk("Boot "+strconv.Itoa(len(keep)), func(d *disk.Disk) api.Errno { return d.Boot(keep) })
}

// alike holds all that can be told of both against each other.
func (b both) alike(t *testing.T, row []string) {
	t.Helper()
	if b.d.On() != b.q.On() || b.d.Ops() != b.q.Ops() || !slices.Equal(b.d.Dirty(), b.q.Dirty()) || b.l.Room() != b.p.room() {
		t.Fatalf("%q: On %v, Ops %d, Dirty %v, Room %d; want %v, %d, %v, %d", row,
			b.d.On(), b.d.Ops(), b.d.Dirty(), b.l.Room(), b.q.On(), b.q.Ops(), b.q.Dirty(), b.p.room())
	}
	for at := range b.d.Sectors() {
		got, _ := b.d.Read(at)
		if want, _ := b.q.Read(at); got != want {
			t.Fatalf("%q: sector %d: %q; want %q", row, at, got, want)
		}
	}
	for half := range 2 {
		age, records, e := log.Scan(b.d, half)
		a, r, want := plainScan(b.q, half)
		if age != a || !slices.Equal(records, r) || e != want {
			t.Fatalf("%q: Scan(%d): %d, %q, %v; want %d, %q, %v", row, half, age, records, e, a, r, want)
		}
	}
	n, e := log.Top(b.d)
	if m, want := plainTop(b.q); n != m || e != want {
		t.Fatalf("%q: Top: %d, %v; want %d, %v", row, n, e, m, want)
	}
}

// P12.1, P12.2, P12.5: whatever is done, one step behind the other, each on a copy of what was ahead of it.
func TestWhateverIsDone(t *testing.T) {
	const most = 4
	steps := []step{
		beginning(0, 1, "a"), beginning(0, 3, full(2)), beginning(1, 2, "b"), beginning(1, 1<<8, full(3)), beginning(1, 5, scant(4)),
		adding(""), adding(scant(2)), adding(full(3)), onDisk("Sync", (*disk.Disk).Sync),
		failing(1), failing(2), booting(), booting(128, 60), booting(128, 128, 128),
	}
	var try func(b both, row []string)
	try = func(b both, row []string) {
		if len(row) == most {
			return
		}
		for _, s := range steps {
			n := b.copies()
			now := append(slices.Clone(row), s.name)
			if got, want := s.do(&n); got != want {
				t.Fatalf("%q: %v; want %v", now, got, want)
			}
			n.alike(t, now)
			try(n, now)
		}
		b.alike(t, row)
	}
	try(both{d: made(t, 7), q: made(t, 7)}, nil)
}

// walk goes a long way of records that a number tells, from half to half, with the power failing on it.
type walk struct {
	*testing.T
	d       *disk.Disk
	l       *log.Log
	seed    uint32
	half    int
	records []string // that were synced
}

func (w *walk) next(below int) int {
	w.seed = w.seed*1664525 + 1013904223
	return int(w.seed>>8) % below
}

// text is one of up to three sectors.
func (w *walk) text() string {
	b := make([]byte, w.next(300))
	for i := range b {
		b[i] = byte(w.next(3) * w.next(200))
	}
	return string(b)
}

// put adds a record, or begins the other half by it, and syncs; it tells the records by then, and whether the power lasted.
func (w *walk) put() ([]string, bool) {
	s := w.text()
	room := w.l.Room()
	e := w.l.Add(s)
	if (e == api.ErrFull) != (frame.Many(len(s)) > room) {
		w.Fatalf("Add of %d bytes, with Room %d: %v", len(s), room, e)
	}
	row := append(slices.Clone(w.records), s)
	if e == api.ErrFull {
		top, _ := log.Top(w.d)
		row = []string{s}
		var n *log.Log
		if n, e = log.Begin(w.d, 1-w.half, top+1, s); e == api.OK {
			w.l, w.half = n, 1-w.half
		}
	}
	return row, e == api.OK && w.d.Sync() == api.OK
}

// boot has the power be there again, and tells the half of the greater age that has records, which it goes on from.
func (w *walk) boot() []string {
	var keep []int
	for range w.next(6) {
		keep = append(keep, w.next(140)-6)
	}
	boots(w.T, w.d, keep...)
	last := 0
	var records []string
	for half := range 2 {
		age, told, e := log.Scan(w.d, half)
		if e == api.OK && age > last {
			last, records, w.half = age, told, half
		}
	}
	return records
}

// begins has the records go on in the other half, each of them a record again.
func (w *walk) begins() {
	top, _ := log.Top(w.d)
	w.half = 1 - w.half
	w.l = begins(w.T, w.d, w.half, top+1, w.records[0])
	for _, s := range w.records[1:] {
		adds(w.T, w.l, s, api.OK)
	}
	syncs(w.T, w.d)
}

// P12.3, P12.4: what was synced is told behind each failure, and at most the one more that was under way.
func TestWhatLasts(t *testing.T) {
	for seed := range uint32(30) {
		w := &walk{T: t, d: made(t, 17), seed: seed, records: []string{"s"}}
		w.l = begins(t, w.d, 0, 1, "s")
		syncs(t, w.d)
		failures := 0
		for range 300 {
			if w.next(6) == 0 {
				w.d.Fail(1 + w.next(8))
			}
			row, lasted := w.put()
			if lasted && w.d.On() {
				w.records = row
				age, told, e := log.Scan(w.d, w.half)
				if top, _ := log.Top(w.d); age != top || e != api.OK || !slices.Equal(told, row) {
					t.Fatalf("of %d: Scan: %d, %q, %v; want %q; Top %d", seed, age, told, e, row, top)
				}
				continue
			}
			failures++
			told := w.boot()
			if !slices.Equal(told, row) && (lasted || !slices.Equal(told, w.records)) {
				t.Fatalf("of %d: %q; want %q, or %q (%v)", seed, told, w.records, row, lasted)
			}
			w.records = told
			w.begins()
		}
		if failures < 10 {
			t.Errorf("of %d: %d failures alone", seed, failures)
		}
	}
}
