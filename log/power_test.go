package log_test

import (
	"slices"
	"testing"

	"mailroom/api"
	"mailroom/disk"
	"mailroom/log"
)

// keeps goes over what may be told of so many dirty sectors: each number of each one, with some of the others.
func keeps(many int, do func(keep []int)) {
	var all []int
	for n := range 129 {
		all = append(all, n)
	}
	some := []int{0, 1, 3, 4, 7, 8, 9, 64, 119, 120, 121, 123, 124, 127, 128}
	if many > 2 {
		some = []int{0, 5, 70, 128}
	}
	for at := range many {
		choices := slices.Repeat([][]int{some}, many)
		choices[at] = all
		each(choices, nil, do)
	}
}

// each goes over all rows of one choice each.
func each(choices [][]int, row []int, do func(row []int)) {
	if len(row) == len(choices) {
		do(slices.Clone(row))
		return
	}
	for _, n := range choices[len(row)] {
		each(choices, append(row, n), do)
	}
}

// olds are disks of nine sectors, two halves of four: what stood there ahead of a log of an age that is greater.
func olds(t *testing.T) []*disk.Disk {
	t.Helper()
	never, ones, whole, torn, other := made(t, 9), made(t, 9), made(t, 9), made(t, 9), made(t, 9)
	for half := range 2 {
		l := begins(t, ones, half, 2+half, "o")
		for range 3 {
			adds(t, l, "oo", api.OK)
		}
		begins(t, whole, half, 255+half, full(4))
	}
	for at := range 9 {
		writes(t, torn, at, ends(t, 1<<8+at, 1<<16-at))
		writes(t, other, at, split(t, 1+at%3, (at*3)%7, long(at))...)
	}
	writes(t, ones, 8, split(t, 3, 0, "o")...)
	list := []*disk.Disk{never, ones, whole, torn, other}
	for _, d := range list {
		syncs(t, d)
	}
	return list
}

// next is an age that is greater than all that stand on a disk.
func next(t *testing.T, d *disk.Disk) int {
	t.Helper()
	n, e := log.Top(d)
	if e != api.OK {
		t.Fatalf("Top: %v", e)
	}
	return n + 1
}

// fallen is a disk whose power failed, how it would be by then, how it was when all was synced, and where its log is.
type fallen struct {
	d         *disk.Disk
	was, want []string
	half, age int
	records   []string // that were synced
	more      string   // what was written when it failed
}

// check boots the disk with whatever is kept, and holds what is told against P12.4, and all but the half against P12.6.
func (f fallen) check(t *testing.T, begin bool) {
	t.Helper()
	f.d.Fail(0)
	first, many := log.Half(f.d.Sectors(), f.half)
	keeps(len(f.d.Dirty()), func(keep []int) {
		d := f.d.Copy()
		boots(t, d, keep...)
		got := image(t, d)
		if !slices.Equal(got[:first], f.was[:first]) || !slices.Equal(got[first+many:], f.was[first+many:]) {
			t.Fatalf("keep %v: beside half %d: %q; was %q", keep, f.half, got, f.was)
		}
		records := f.records
		if whole := slices.Equal(got, f.want); whole {
			records = append(slices.Clone(records), f.more)
		}
		age, told, e := log.Scan(d, f.half)
		switch {
		case begin && len(records) == 0:
			if age >= f.age || e != api.OK && e != api.ErrNone {
				t.Fatalf("keep %v: Scan: %d, %q, %v", keep, age, told, e)
			}
		case age != f.age || e != api.OK || !slices.Equal(told, records):
			t.Fatalf("keep %v: Scan: %d, %q, %v; want %d, %q", keep, age, told, e, f.age, records)
		}
		if n, e := log.Top(d); n > f.age || e != api.OK {
			t.Fatalf("keep %v: Top: %d, %v; want %d at most", keep, n, e, f.age)
		}
	})
}

// P12.4: an Add, in the midst of which the power fails, at each operation, and by the Sync behind it.
func TestPowerAtAnAdd(t *testing.T) {
	for _, old := range olds(t) {
		for half := range 2 {
			for n := 1; n <= 3; n++ {
				start := old.Copy()
				l := begins(t, start, half, next(t, start), "s")
				syncs(t, start)
				records := []string{"s"}
				if n == 1 {
					adds(t, l, "r", api.OK)
					syncs(t, start)
					records = append(records, "r")
				}
				f := fallen{was: image(t, start), half: half, age: next(t, start) - 1, records: records, more: full(n)}
				whole := start.Copy()
				adds(t, l.Over(whole), full(n), api.OK)
				f.want = image(t, whole)
				for ops := 1; ops <= n; ops++ {
					f.d = start.Copy()
					f.d.Fail(ops)
					f.failed(t, l.Over(f.d).Add(f.more), ops < n)
					f.check(t, false)
				}
				scans(t, cutBySync(t, whole), half, f.age, append(records, f.more)...)
			}
		}
	}
}

// failed holds what a call answered against whether the power failed in its midst; it is off now.
func (f fallen) failed(t *testing.T, e api.Errno, midst bool) {
	t.Helper()
	want := api.OK
	if midst {
		want = api.ErrOff
	}
	if e != want || f.d.On() {
		t.Fatalf("%v, On %v; want %v, and off", e, f.d.On(), want)
	}
}

// cutBySync is the disk behind a Sync, by which the power failed, and a Boot that keeps nothing.
func cutBySync(t *testing.T, d *disk.Disk) *disk.Disk {
	t.Helper()
	cuts(t, d)
	boots(t, d)
	return d
}

// P12.4: a Begin, in the midst of which the power fails, likewise.
func TestPowerAtABegin(t *testing.T) {
	for _, old := range olds(t) {
		for half := range 2 {
			for n := 1; n <= 3; n++ {
				f := fallen{was: image(t, old), half: half, age: next(t, old), more: full(n)}
				whole := old.Copy()
				begins(t, whole, half, f.age, f.more)
				f.want = image(t, whole)
				for ops := 1; ops <= n; ops++ {
					f.d = old.Copy()
					f.d.Fail(ops)
					_, e := log.Begin(f.d, half, f.age, f.more)
					f.failed(t, e, ops < n)
					f.check(t, true)
				}
				scans(t, cutBySync(t, whole), half, f.age, f.more)
				top(t, whole, f.age)
			}
		}
	}
}

// P12.4: of a Begin over records of a lesser age those that no sector of it was kept of are still told, as they stand.
func TestPowerOverALesserAge(t *testing.T) {
	d := made(t, 8)
	l := begins(t, d, 0, 1, "a")
	adds(t, l, "b", api.OK)
	adds(t, l, full(2), api.OK)
	syncs(t, d)
	for ops, c := range [][]struct {
		keep []int
		age  int
		told []string
	}{
		{},
		{{nil, 1, []string{"a", "b", full(2)}}, {[]int{1}, 0, nil}, {[]int{120}, 0, nil}, {[]int{121}, 0, nil}, {[]int{128}, 0, nil}},
		{{nil, 1, []string{"a", "b", full(2)}}, {[]int{0, 128}, 1, []string{"a"}}, {[]int{0, 60}, 1, []string{"a"}}, {[]int{128, 0}, 0, nil}, {[]int{128, 128}, 0, nil}},
		{{nil, 1, []string{"a", "b", full(2)}}, {[]int{0, 0, 128}, 1, []string{"a", "b"}}, {[]int{128, 0, 128}, 0, nil}, {[]int{128, 128, 128}, 2, []string{full(3)}}},
	} {
		for _, x := range c {
			n := d.Copy()
			n.Fail(ops)
			log.Begin(n, 0, 2, full(3))
			boots(t, n, x.keep...)
			if x.age == 0 {
				empty(t, n, 0, api.ErrNone)
				continue
			}
			scans(t, n, 0, x.age, x.told...)
		}
	}
}

// P12.6: whatever is done to a log, the other half stays, and so does the last sector of an odd number.
func TestTheOtherHalfStays(t *testing.T) {
	for _, sectors := range []int{2, 3, 8, 9, 1023, 1024} {
		for half := range 2 {
			d := made(t, sectors)
			for at := range sectors {
				writes(t, d, at, long(128 + at)[at:])
			}
			syncs(t, d)
			was := image(t, d)
			first, many := log.Half(sectors, half)
			stays := func() {
				t.Helper()
				got := image(t, d)
				if !slices.Equal(got[:first], was[:first]) || !slices.Equal(got[first+many:], was[first+many:]) {
					t.Fatalf("of %d: beside half %d: %q; was %q", sectors, half, got, was)
				}
			}
			for _, n := range []int{many + 1, many, 1, (many + 1) / 2} {
				l, _ := log.Begin(d, half, 1<<30, full(n))
				stays()
				for range 3 {
					l.Add(scant(l.Room() + 1))
					stays()
					l.Add(scant(min(l.Room(), 2)))
					stays()
				}
				for range l.Room() + 1 {
					l.Add("")
				}
				stays()
				d.Fail(many / 2)
				log.Begin(d, half, 1<<30+1, full(many))
				d.Fail(1)
				d.Sync()
				d.Boot([]int{128, 3, 60, 128, 128})
				stays()
			}
		}
	}
}
