package log_test

import (
	"math"
	"slices"
	"testing"

	"mailroom/api"
	"mailroom/disk"
	"mailroom/log"
)

// laid is a disk of two halves of so many sectors, with some that stand one behind the other in one of them.
func laid(t *testing.T, many, half int, sectors ...string) *disk.Disk {
	t.Helper()
	d := made(t, 2*many)
	writes(t, d, half*many, sectors...)
	return d
}

// The errors of Scan, and which comes first where more than one could be told.
func TestScanErrorsInTheirOrder(t *testing.T) {
	has := made(t, 4)
	begins(t, has, 0, 1, "s")
	off := cuts(t, has.Copy())
	for _, c := range []struct {
		d    *disk.Disk
		half int
		want api.Errno
	}{
		{nil, -1, api.ErrNil}, {nil, 0, api.ErrNil}, {nil, 1, api.ErrNil}, {nil, 2, api.ErrNil},
		{has, -1, api.ErrArg}, {has, 2, api.ErrArg}, {has, math.MinInt, api.ErrArg}, {has, math.MaxInt, api.ErrArg},
		{off, -1, api.ErrArg}, {off, 2, api.ErrArg}, {off, math.MinInt, api.ErrArg}, {off, math.MaxInt, api.ErrArg},
		{off, 0, api.ErrOff}, {off, 1, api.ErrOff}, {has, 1, api.ErrNone},
	} {
		empty(t, c.d, c.half, c.want)
	}
	scans(t, has, 0, 1, "s")
	boots(t, off)
	scans(t, off, 0, 1, "s")
	still(t, has, func() { log.Scan(has, 0); log.Scan(has, 1); log.Top(has) })
}

// P12.2: what there is no record of at place 0.
func TestScanNone(t *testing.T) {
	two := split(t, 5, 0, full(2))
	late := split(t, 5, 1, "late")
	cut := []byte(two[0])
	cut[127]++
	for _, sectors := range [][]string{
		{},
		{none, none},
		split(t, 5, 1, "x"),                      // of another place
		split(t, 5, 2, "x"),                      // of the place it would have in the other half
		split(t, 5, 4, "x"),                      // or on the disk
		append(split(t, 5, 1, full(2)), late...), // of another place, and there is more
		two[:1],                                  // not whole
		{two[0], none},
		{two[0], split(t, 4, 1, full(1))[0]}, // the rest is of a lesser age
		{two[0], split(t, 6, 1, full(1))[0]}, // of a greater one
		{two[0], late[0][:1] + none[1:]},
		{two[1], two[0]},
		{none, two[1]},
		append([]string{none}, late...),
		{string(cut), two[1]}, // stamps that are unlike
		{two[0], two[0]},
	} {
		for half := range 2 {
			empty(t, laid(t, 4, half, sectors...), half, api.ErrNone)
			empty(t, laid(t, 4, half, sectors...), 1-half, api.ErrNone)
		}
	}
	scans(t, laid(t, 4, 1, two...), 1, 5, full(2))
}

// P12.2: what stands behind a half's records, of whatever age and place, is none of it.
func TestScanBehind(t *testing.T) {
	records := []string{"s", full(2), ""}
	var row []string
	for _, s := range records {
		row = append(row, split(t, 5, len(row), s)...)
	}
	for n := 1; n <= len(records); n++ {
		at := []int{0, 1, 3, 4}[n]
		whole := split(t, 5, at, full(2))
		for _, behind := range [][]string{
			{},
			{none, none},
			split(t, 4, at, "x"),
			split(t, 1, at, full(2)),
			split(t, 6, at, "x"),
			split(t, topAge, at, full(2)),
			split(t, 5, at+1, "x"),
			split(t, 5, at-1, "x"),
			split(t, 5, 0, "s"),
			split(t, 5, 8+at, "x"),
			append([]string{none}, split(t, 5, at+1, "x")...),
			append(split(t, 4, at, "x"), split(t, 5, at+1, "x")...),
			append(split(t, 6, at, "x"), split(t, 5, at+1, "x")...),
			whole[:1],
			whole[1:],
			{whole[0], split(t, 4, at+1, "x")[0]},
			{whole[0][:127] + "x", whole[1]},
		} {
			for half := range 2 {
				d := laid(t, 8, half, append(slices.Clone(row[:at]), behind...)...)
				scans(t, d, half, 5, records[:n]...)
				empty(t, d, 1-half, api.ErrNone)
			}
		}
	}
}

// P12.2: a record over the half's end is none, whatever stands in the other half.
func TestScanToTheHalfsEnd(t *testing.T) {
	for many := 1; many <= 4; many++ {
		sectors := split(t, 3, 0, full(many+1))
		d := laid(t, many, 0, sectors[:many]...)
		writes(t, d, many, sectors[many])
		empty(t, d, 0, api.ErrNone)
		empty(t, d, 1, api.ErrNone)

		// Nor is one that would be the next place's, if the half did not end.
		d = laid(t, many, 0, split(t, 3, 0, full(many))...)
		writes(t, d, many, split(t, 3, many, "x")...)
		scans(t, d, 0, 3, full(many))
		empty(t, d, 1, api.ErrNone)
	}
	// The last sector of an odd number is of no half.
	d := made(t, 5)
	writes(t, d, 2, split(t, 3, 0, full(3))...)
	empty(t, d, 1, api.ErrNone)
	writes(t, d, 2, split(t, 4, 0, full(2))...)
	writes(t, d, 4, split(t, 4, 2, "x")...)
	scans(t, d, 1, 4, full(2))
	top(t, d, 4)
}

// P12.2: a half that is full, by one record, or by one a sector.
func TestScanFull(t *testing.T) {
	for _, many := range []int{1, 2, 3, 100, 512} {
		for half := range 2 {
			scans(t, laid(t, many, half, split(t, 8, 0, full(many))...), half, 8, full(many))
			var records, row []string
			for i := range many {
				records = append(records, long(i%107))
				row = append(row, split(t, 8, i, records[i])...)
			}
			scans(t, laid(t, many, half, row...), half, 8, records...)
		}
	}
}

// P12.2: both halves, each of its own age.
func TestScanBothHalves(t *testing.T) {
	d := made(t, 9)
	a := begins(t, d, 0, 5, "a")
	b := begins(t, d, 1, 6, "b")
	adds(t, a, "aa", api.OK)
	adds(t, b, full(2), api.OK)
	adds(t, a, "aaa", api.OK)
	scans(t, d, 0, 5, "a", "aa", "aaa")
	scans(t, d, 1, 6, "b", full(2))
	top(t, d, 6)
	begins(t, d, 0, 7, "c")
	scans(t, d, 0, 7, "c")
	scans(t, d, 1, 6, "b", full(2))
	top(t, d, 7)
}

// ends is a sector of whatever ages at its ends.
func ends(t *testing.T, first, last int) string {
	t.Helper()
	a, b := none, none
	if first > 0 {
		a = split(t, first, 0, "x")[0]
	}
	if last > 0 {
		b = split(t, last, 0, "x")[0]
	}
	return a[:64] + b[64:]
}

// P12.2: Top, of the greatest number anywhere on the disk, whatever else there is.
func TestTop(t *testing.T) {
	for _, sectors := range []int{1, 2, 3, 8, 9} {
		top(t, made(t, sectors), 0)
		for at := range sectors {
			for _, age := range []int{5, 256, 1 << 24, topAge} {
				for _, c := range [][2]int{{age, age}, {age, 0}, {0, age}, {age, 4}, {4, age}, {age - 1, age}, {age, age - 1}} {
					d := made(t, sectors)
					for other := range sectors {
						writes(t, d, other, ends(t, other%4, 3-other%3))
					}
					writes(t, d, at, ends(t, c[0], c[1]))
					top(t, d, age)
				}
			}
		}
	}
	// Also where no stamp may be: of no place that is one, or with whatever between.
	d := made(t, 2)
	writes(t, d, 1, "\x07\x00\x00\x00\xff\xff\xff\xff"+full(1)[:104]+none[:16])
	top(t, d, 7)
	writes(t, d, 0, none[:120]+"\x00\x00\x00\x01\xff\xff\xff\xff")
	top(t, d, 1<<24)
	cuts(t, d)
	if n, e := log.Top(d); n != 0 || e != api.ErrOff {
		t.Errorf("Top, off: %d, %v", n, e)
	}
	boots(t, d)
	top(t, d, 1<<24)
}

// pair is a log over a disk, of two halves of 6 sectors, with two records.
func pair(t *testing.T) (*disk.Disk, *log.Log) {
	t.Helper()
	d := made(t, 12)
	l := begins(t, d, 1, 3, "s")
	adds(t, l, "r", api.OK)
	syncs(t, d)
	return d, l
}

// P12.1: Over a copy each goes its own way.
func TestOverACopy(t *testing.T) {
	d, l := pair(t)
	n := d.Copy()
	o := l.Over(n)
	room(t, o, 4)
	still(t, d, func() {
		adds(t, o, full(2), api.OK)
		room(t, o, 2)
		scans(t, n, 1, 3, "s", "r", full(2))
	})
	room(t, l, 4)
	scans(t, d, 1, 3, "s", "r")
	still(t, n, func() {
		adds(t, l, "q", api.OK)
		adds(t, l, full(4), api.ErrFull)
		room(t, l, 3)
	})
	scans(t, d, 1, 3, "s", "r", "q")
	adds(t, o, full(2), api.OK)
	room(t, o, 0)
	scans(t, n, 1, 3, "s", "r", full(2), full(2))
	room(t, l, 3)
}

// P12.1: what goes off over one disk stays on over the other, and what is off stays so.
func TestOverAndThePower(t *testing.T) {
	d, l := pair(t)
	lost := cuts(t, d.Copy())
	o := l.Over(lost)
	room(t, o, 4)
	adds(t, o, full(5), api.ErrFull)
	adds(t, o, "x", api.ErrOff)
	adds(t, o, "x", api.ErrState)
	room(t, o, 4)
	boots(t, lost)
	adds(t, o, "x", api.ErrState)
	adds(t, l, "q", api.OK)
	scans(t, d, 1, 3, "s", "r", "q")
	scans(t, lost, 1, 3, "s", "r")

	// Over the first one's disk it is off still, and so is what comes of it.
	still(t, d, func() {
		for _, p := range []*log.Log{o.Over(d), o.Over(d).Over(d.Copy()), o.Over(lost)} {
			room(t, p, 4)
			adds(t, p, "", api.ErrState)
			adds(t, p, full(5), api.ErrState)
		}
	})
	adds(t, l, "p", api.OK)
	room(t, l, 2)

	// One that is not off goes on over a disk whose power comes back.
	lost = cuts(t, d.Copy())
	o = l.Over(lost)
	boots(t, lost)
	adds(t, o, full(2), api.OK)
	scans(t, lost, 1, 3, "s", "r", "q", "p", full(2))
	scans(t, d, 1, 3, "s", "r", "q", "p")
}

// P12.1: Over a disk that has nothing of it the log goes on at its place, and its age.
func TestOverAnotherDisk(t *testing.T) {
	_, l := pair(t)
	other := made(t, 12)
	o := l.Over(other)
	room(t, o, 4)
	adds(t, o, full(2), api.OK)
	room(t, o, 2)
	want := image(t, made(t, 12))
	copy(want[8:], split(t, 3, 2, full(2)))
	if !slices.Equal(image(t, other), want) {
		t.Errorf("%q; want %q", image(t, other), want)
	}
	empty(t, other, 1, api.ErrNone)
	top(t, other, 3)
	if l.Over(nil) != nil {
		t.Error("Over(nil) tells a log")
	}
	room(t, l, 4)
	adds(t, l, "q", api.OK)
}

// R1, P12.6: over a disk of another number of sectors the log is that one's half.
func TestOverAnotherNumberOfSectors(t *testing.T) {
	for _, sectors := range []int{1, 2, 3, 4, 5, 6, 9, 12, 13, 40, 1024} {
		d, l := pair(t)
		other := made(t, sectors)
		first, many := log.Half(sectors, 1)
		o := l.Over(other)
		left := max(0, many-2)
		room(t, o, left)
		still(t, d, func() {
			still(t, other, func() { adds(t, o, scant(left+1), api.ErrFull) })
			if left > 0 {
				adds(t, o, full(left), api.OK)
			}
		})
		room(t, o, 0)
		room(t, l, 4)
		want := image(t, made(t, sectors))
		if left > 0 {
			copy(want[first+2:], split(t, 3, 2, full(left)))
		}
		if !slices.Equal(image(t, other), want) {
			t.Errorf("of %d: %q; want %q", sectors, image(t, other), want)
		}
		room(t, o.Over(d), max(0, 4-left))
	}
}
