package log_test

import (
	"math"
	"slices"
	"strings"
	"testing"

	"mailroom/api"
	"mailroom/disk"
	"mailroom/frame"
	"mailroom/log"
)

// topAge is the greatest age there is.
const topAge = 1<<32 - 1

// none is what a sector has that was never written.
var none = strings.Repeat("\x00", api.Sector)

// long is a text of so many bytes, no two neighbours the same, none 00.
func long(n int) string {
	var b strings.Builder
	for i := range n {
		b.WriteByte(byte('a' + i%23))
	}
	return b.String()
}

// full is the longest text, whose record has so many sectors; a byte more, and it has one more.
func full(sectors int) string {
	return long(112*sectors - 6)
}

// scant is the shortest one.
func scant(sectors int) string {
	return long(max(0, 112*(sectors-1)-5))
}

func made(t *testing.T, sectors int) *disk.Disk {
	t.Helper()
	d, e := disk.New(sectors)
	if e != api.OK {
		t.Fatalf("disk.New(%d): %v", sectors, e)
	}
	return d
}

func writes(t *testing.T, d *disk.Disk, at int, sectors ...string) {
	t.Helper()
	for i, s := range sectors {
		if e := d.Write(at+i, s); e != api.OK {
			t.Fatalf("Write(%d): %v", at+i, e)
		}
	}
}

func syncs(t *testing.T, d *disk.Disk) {
	t.Helper()
	if e := d.Sync(); e != api.OK {
		t.Fatalf("Sync: %v", e)
	}
}

func boots(t *testing.T, d *disk.Disk, keep ...int) {
	t.Helper()
	if e := d.Boot(keep); e != api.OK {
		t.Fatalf("Boot(%v): %v", keep, e)
	}
}

// cuts has the power of a disk fail by a Sync.
func cuts(t *testing.T, d *disk.Disk) *disk.Disk {
	t.Helper()
	d.Fail(1)
	syncs(t, d)
	return d
}

// split is a record's sectors.
func split(t *testing.T, age, place int, s string) []string {
	t.Helper()
	sectors, e := frame.Split(age, place, s)
	if e != api.OK {
		t.Fatalf("Split(%d, %d, %d bytes): %v", age, place, len(s), e)
	}
	return sectors
}

func begins(t *testing.T, d *disk.Disk, half, age int, s string) *log.Log {
	t.Helper()
	l, e := log.Begin(d, half, age, s)
	if l == nil || e != api.OK {
		t.Fatalf("Begin(%d, %d, %d bytes): %v, %v", half, age, len(s), l, e)
	}
	return l
}

// refuses holds a Begin against an error, beside which there is no log.
func refuses(t *testing.T, d *disk.Disk, half, age int, s string, want api.Errno) {
	t.Helper()
	if l, e := log.Begin(d, half, age, s); l != nil || e != want {
		t.Errorf("Begin(%d, %d, %d bytes): %v, %v; want %v", half, age, len(s), l, e, want)
	}
}

func adds(t *testing.T, l *log.Log, s string, want api.Errno) {
	t.Helper()
	if e := l.Add(s); e != want {
		t.Errorf("Add of %d bytes: %v; want %v", len(s), e, want)
	}
}

func room(t *testing.T, l *log.Log, want int) {
	t.Helper()
	if n := l.Room(); n != want {
		t.Errorf("Room: %d; want %d", n, want)
	}
}

func scans(t *testing.T, d *disk.Disk, half, age int, records ...string) {
	t.Helper()
	if a, r, e := log.Scan(d, half); a != age || !slices.Equal(r, records) || e != api.OK {
		t.Errorf("Scan(%d): %d, %q, %v; want %d, %q", half, a, r, e, age, records)
	}
}

// empty holds a Scan against an error.
func empty(t *testing.T, d *disk.Disk, half int, want api.Errno) {
	t.Helper()
	if a, r, e := log.Scan(d, half); a != 0 || len(r) != 0 || e != want {
		t.Errorf("Scan(%d): %d, %q, %v; want %v", half, a, r, e, want)
	}
}

func top(t *testing.T, d *disk.Disk, want int) {
	t.Helper()
	if n, e := log.Top(d); n != want || e != api.OK {
		t.Errorf("Top: %d, %v; want %d", n, e, want)
	}
}

// image is all that a disk has.
func image(t *testing.T, d *disk.Disk) []string {
	t.Helper()
	var out []string
	for at := range d.Sectors() {
		s, e := d.Read(at)
		if e != api.OK {
			t.Fatalf("Read(%d): %v", at, e)
		}
		out = append(out, s)
	}
	return out
}

// still does something by which a disk is to stay as it is, in all that it tells.
func still(t *testing.T, d *disk.Disk, do func()) {
	t.Helper()
	ops, dirty, was := d.Ops(), d.Dirty(), image(t, d)
	do()
	if d.Ops() != ops || !slices.Equal(d.Dirty(), dirty) || !slices.Equal(image(t, d), was) {
		t.Errorf("the disk is another one: Ops %d, Dirty %v; was %d, %v", d.Ops(), d.Dirty(), ops, dirty)
	}
}

func TestExamplesOfTheChapter(t *testing.T) {
	if first, many := log.Half(4, 1); first != 2 || many != 2 {
		t.Errorf("Half(4, 1): %d, %d", first, many)
	}
	d := made(t, 4)
	l := begins(t, d, 1, 1, "s")
	if d.Ops() != 1 {
		t.Errorf("Ops: %d", d.Ops())
	}
	room(t, l, 1)
	adds(t, l, "r", api.OK)
	room(t, l, 0)
	adds(t, l, "", api.ErrFull)
	scans(t, d, 1, 1, "s", "r")
	empty(t, d, 0, api.ErrNone)
	top(t, d, 1)
}

// P12.1.
func TestHalf(t *testing.T) {
	for _, c := range []struct{ sectors, half, first, many int }{
		{math.MinInt, 0, 0, 0}, {math.MinInt, 1, 0, 0}, {-4, 0, 0, 0}, {-4, 1, 0, 0}, {-2, 1, 0, 0}, {-1, 0, 0, 0}, {-1, 1, 0, 0},
		{0, 0, 0, 0}, {0, 1, 0, 0}, {1, 0, 0, 0}, {1, 1, 0, 0}, {2, 0, 0, 1}, {2, 1, 1, 1}, {3, 0, 0, 1}, {3, 1, 1, 1},
		{4, 0, 0, 2}, {4, 1, 2, 2}, {5, 0, 0, 2}, {5, 1, 2, 2}, {1023, 0, 0, 511}, {1023, 1, 511, 511},
		{api.MaxSectors, 0, 0, 512}, {api.MaxSectors, 1, 512, 512}, {1025, 1, 512, 512}, {1 << 20, 1, 1 << 19, 1 << 19},
		{math.MaxInt, 0, 0, math.MaxInt / 2}, {math.MaxInt, 1, math.MaxInt / 2, math.MaxInt / 2},
	} {
		if first, many := log.Half(c.sectors, c.half); first != c.first || many != c.many {
			t.Errorf("Half(%d, %d): %d, %d; want %d, %d", c.sectors, c.half, first, many, c.first, c.many)
		}
	}
	for _, half := range []int{math.MinInt, -2, -1, 2, 3, 4, math.MaxInt} {
		for _, sectors := range []int{math.MinInt, -1, 0, 1, 2, 3, 4, api.MaxSectors, math.MaxInt} {
			if first, many := log.Half(sectors, half); first != 0 || many != 0 {
				t.Errorf("Half(%d, %d): %d, %d", sectors, half, first, many)
			}
		}
	}
}

// P12.1: each sector at its place, all of that half alone; nothing is synced.
func TestWhereSectorsStand(t *testing.T) {
	for _, sectors := range []int{2, 3, 6, 7, 12, 13} {
		for half := range 2 {
			first, many := log.Half(sectors, half)
			for n := 1; n <= many; n++ {
				d := made(t, sectors)
				want := image(t, d)
				l := begins(t, d, half, 7, scant(n))
				row := split(t, 7, 0, scant(n))
				for len(row) < many {
					s := full(1 + len(row)%2)
					if len(row)+frame.Many(len(s)) > many {
						s = "x"
					}
					room(t, l, many-len(row))
					adds(t, l, s, api.OK)
					row = append(row, split(t, 7, len(row), s)...)
				}
				room(t, l, 0)
				copy(want[first:], row)
				if !slices.Equal(image(t, d), want) {
					t.Errorf("of %d, half %d: %q; want %q", sectors, half, image(t, d), want)
				}
				if dirty := d.Dirty(); len(dirty) != many || dirty[0] != first || d.Ops() != many {
					t.Errorf("of %d, half %d: Dirty %v, Ops %d", sectors, half, dirty, d.Ops())
				}
			}
		}
	}
}

// P12.1: records of as many sectors as the half, and of one more.
func TestBeginJustFits(t *testing.T) {
	for _, sectors := range []int{2, 3, 4, 5, 10, 1023, 1024} {
		for half := range 2 {
			first, many := log.Half(sectors, half)
			for _, s := range []string{scant(many), full(many)} {
				d := made(t, sectors)
				l := begins(t, d, half, 1, s)
				room(t, l, 0)
				scans(t, d, half, 1, s)
				empty(t, d, 1-half, api.ErrNone)
				still(t, d, func() { adds(t, l, "", api.ErrFull) })
				if d.Ops() != many || d.Dirty()[0] != first {
					t.Errorf("of %d, half %d: Ops %d, Dirty %v", sectors, half, d.Ops(), d.Dirty())
				}
			}
			for _, s := range []string{scant(many + 1), full(many + 1), long(1 << 20)} {
				d := made(t, sectors)
				still(t, d, func() { refuses(t, d, half, 1, s, api.ErrFull) })
			}
		}
	}
}

// Halves of no sectors: no record may begin there.
func TestHalvesOfNoSectors(t *testing.T) {
	for _, d := range []*disk.Disk{made(t, 1), new(disk.Disk)} {
		for half := range 2 {
			still(t, d, func() { refuses(t, d, half, 1, "", api.ErrFull) })
			empty(t, d, half, api.ErrNone)
		}
		top(t, d, 0)
		cuts(t, d)
		for half := range 2 {
			refuses(t, d, half, 1, "", api.ErrFull)
			empty(t, d, half, api.ErrOff)
		}
		if n, e := log.Top(d); n != 0 || e != api.ErrOff {
			t.Errorf("Top, off: %d, %v", n, e)
		}
	}
	// Also where the one sector is one of a record.
	d := made(t, 1)
	writes(t, d, 0, split(t, 3, 0, "x")...)
	empty(t, d, 0, api.ErrNone)
	empty(t, d, 1, api.ErrNone)
	top(t, d, 3)
}

func TestAges(t *testing.T) {
	for _, age := range []int{1, 2, 255, 256, 1<<16 + 1, 1 << 31, topAge - 1, topAge} {
		d := made(t, 4)
		l := begins(t, d, 0, age, "s")
		adds(t, l, "r", api.OK)
		scans(t, d, 0, age, "s", "r")
		top(t, d, age)
	}
	for _, age := range []int{math.MinInt, -topAge, -1, 0, topAge + 1, topAge + 2, 1 << 40, 1<<40 + 1, math.MaxInt} {
		d := made(t, 4)
		for half := range 2 {
			still(t, d, func() { refuses(t, d, half, age, "s", api.ErrArg) })
		}
	}
}

// The errors of Begin, and which comes first where more than one could be told.
func TestBeginErrorsInTheirOrder(t *testing.T) {
	for _, d := range []*disk.Disk{nil, made(t, 4), cuts(t, made(t, 4))} {
		for _, half := range []int{math.MinInt, -1, 0, 1, 2, math.MaxInt} {
			for _, age := range []int{-1, 0, 1, topAge, topAge + 1} {
				for _, s := range []string{"", full(2), scant(3)} {
					if d.On() {
						syncs(t, d)
					}
					l, e := log.Begin(d, half, age, s)
					want := api.OK
					switch {
					case d == nil:
						want = api.ErrNil
					case half < 0 || half > 1 || age < 1 || age > topAge:
						want = api.ErrArg
					case s == scant(3):
						want = api.ErrFull
					case !d.On():
						want = api.ErrOff
					}
					if e != want || (l == nil) != (e != api.OK) || e != api.OK && len(d.Dirty()) != 0 {
						t.Errorf("Begin(%d, %d, %d bytes): %v, %v; want %v; Dirty %v", half, age, len(s), l, e, want, d.Dirty())
					}
				}
			}
		}
	}
}

// The errors of Add, and which comes first; Room behind each of them.
func TestAddErrorsInTheirOrder(t *testing.T) {
	var gone *log.Log
	for _, s := range []string{"", "x", full(500)} {
		adds(t, gone, s, api.ErrNil)
	}
	room(t, gone, 0)

	d := made(t, 6)
	l := begins(t, d, 0, 1, "")
	cuts(t, d)
	adds(t, l, scant(3), api.ErrFull) // ahead of ErrOff, and it is not off by that
	room(t, l, 2)
	boots(t, d)
	adds(t, l, "x", api.OK)
	room(t, l, 1)
	cuts(t, d)
	adds(t, l, full(1), api.ErrOff)
	room(t, l, 1)
	for range 2 {
		adds(t, l, "", api.ErrState)
		adds(t, l, scant(2), api.ErrState) // ahead of ErrFull
		room(t, l, 1)
		if !d.On() {
			boots(t, d)
		}
	}
	still(t, d, func() { adds(t, l, "", api.ErrState) })
	scans(t, d, 0, 1, "", "x")
}

// P12.5: an Add of as many sectors as are left, and of one more, which writes nothing, and after which there is what was left.
func TestAddJustFits(t *testing.T) {
	for many := 1; many <= 6; many++ {
		for n := 1; n <= many; n++ {
			for half := range 2 {
				d := made(t, 2*many+half)
				l := begins(t, d, half, 9, full(n))
				left := many - n
				room(t, l, left)
				for _, s := range []string{scant(left + 1), full(left + 1), scant(left + 2), long(1 << 18)} {
					still(t, d, func() { adds(t, l, s, api.ErrFull) })
					room(t, l, left)
				}
				scans(t, d, half, 9, full(n))
				if left == 0 {
					continue
				}
				last := []string{scant(left), full(left)}[half]
				adds(t, l, last, api.OK)
				room(t, l, 0)
				scans(t, d, half, 9, full(n), last)
				still(t, d, func() { adds(t, l, "", api.ErrFull) })
				room(t, l, 0)
				scans(t, d, half, 9, full(n), last)
			}
		}
	}
}

// The power fails at each of an Add's sectors; by the last one it is OK still.
func TestAddPowerFails(t *testing.T) {
	for n := 1; n <= 4; n++ {
		for writes := 1; writes <= n; writes++ {
			d := made(t, 12)
			l := begins(t, d, 1, 2, "s")
			syncs(t, d)
			d.Fail(writes)
			if writes < n {
				adds(t, l, full(n), api.ErrOff)
				room(t, l, 5)
				adds(t, l, "", api.ErrState)
				room(t, l, 5)
			} else {
				adds(t, l, full(n), api.OK)
				room(t, l, 5-n)
				adds(t, l, full(5-n+1), api.ErrFull)
				room(t, l, 5-n)
				adds(t, l, "", api.ErrOff)
				room(t, l, 5-n)
				adds(t, l, full(5-n+1), api.ErrState)
				room(t, l, 5-n)
			}
			if d.On() || len(d.Dirty()) != writes || d.Dirty()[0] != 7 {
				t.Errorf("%d of %d: On %v, Dirty %v", writes, n, d.On(), d.Dirty())
			}
		}
	}
}

// The power fails at each of a Begin's sectors.
func TestBeginPowerFails(t *testing.T) {
	for n := 1; n <= 4; n++ {
		for half := range 2 {
			for writes := 1; writes <= n; writes++ {
				d := made(t, 8)
				d.Fail(writes)
				if writes < n {
					refuses(t, d, half, 1, full(n), api.ErrOff)
				} else {
					l := begins(t, d, half, 1, full(n))
					room(t, l, 4-n)
				}
				if d.On() || len(d.Dirty()) != writes || d.Dirty()[0] != 4*half {
					t.Errorf("%d of %d: On %v, Dirty %v", writes, n, d.On(), d.Dirty())
				}
			}
			d := cuts(t, made(t, 8))
			refuses(t, d, half, 1, full(n), api.ErrOff)
			if len(d.Dirty()) != 0 {
				t.Errorf("off: Dirty %v", d.Dirty())
			}
		}
	}
}

// What is handed in stays, and a log holds on to none of it.
func TestWhateverBytes(t *testing.T) {
	var all strings.Builder
	for c := range 256 {
		all.WriteByte(byte(c))
	}
	texts := []string{all.String(), "", none, "\x00", strings.Repeat("\xff", 300), "\r\n.\r\n", frameOf(t)}
	d := made(t, 40)
	l := begins(t, d, 1, 77, texts[0])
	for _, s := range texts[1:] {
		adds(t, l, s, api.OK)
	}
	scans(t, d, 1, 77, texts...)
	_, told, _ := log.Scan(d, 1)
	clear(told)
	_ = append(told[:1], "x")
	scans(t, d, 1, 77, texts...)
}

// frameOf is a text that itself looks like a sector of that log.
func frameOf(t *testing.T) string {
	return strings.Join(split(t, 77, 3, "x"), "")
}

// R1: nil, and a log that Begin did not make.
func TestNil(t *testing.T) {
	var gone *log.Log
	for _, l := range []*log.Log{gone, new(log.Log)} {
		adds(t, l, "", api.ErrNil)
		adds(t, l, long(1<<17), api.ErrNil)
		room(t, l, 0)
		if l.Over(nil) != nil || l.Over(made(t, 4)) != nil || l.Over(cuts(t, made(t, 4))) != nil {
			t.Error("Over tells a log")
		}
	}
	for _, half := range []int{-1, 0, 1, 2} {
		refuses(t, nil, half, 1, "s", api.ErrNil)
		refuses(t, nil, half, 0, long(1<<17), api.ErrNil)
		empty(t, nil, half, api.ErrNil)
	}
	if n, e := log.Top(nil); n != 0 || e != api.ErrNil {
		t.Errorf("Top: %d, %v", n, e)
	}
}
