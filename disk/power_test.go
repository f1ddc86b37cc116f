package disk_test

import (
	"math"
	"slices"
	"testing"

	"mailroom/api"
)

// P10.5: so many operations more are done, whichever they are, and then none.
func TestFailBehindSoMany(t *testing.T) {
	for n := 1; n <= 6; n++ {
		for which := range 1 << n { // a bit an operation: a Sync, or a Write
			d := made(t, 2)
			write(t, d, 1, full("x"))
			d.Fail(n)
			last, saved, loose := none, none, false
			for i := range n {
				on(t, d)
				ops(t, d, 1+i)
				if which>>i&1 == 1 {
					sync(t, d)
					saved, loose = last, false
				} else {
					last, loose = full(string([]byte{byte('a' + i)})), true
					write(t, d, 0, last)
				}
			}
			off(t, d)
			ops(t, d, 1+n)
			if got := slices.Contains(d.Dirty(), 0); got != loose {
				t.Fatalf("%d operations, %b: dirty %v; want %v", n, which, got, loose)
			}
			boot(t, d)
			on(t, d)
			has(t, d, saved)
		}
	}
	d := made(t, 1)
	d.Fail(math.MaxInt)
	for range 1000 {
		write(t, d, 0, full("a"))
	}
	on(t, d)
}

// A Fail of a number that is not above 0, also behind another one.
func TestNotByItself(t *testing.T) {
	for _, n := range []int{math.MinInt, -1024, -2, -1, 0} {
		for _, ahead := range []int{0, 1, 2, 100} {
			d := made(t, 1)
			d.Fail(ahead)
			d.Fail(n)
			for range 200 {
				write(t, d, 0, full("a"))
				sync(t, d)
			}
			on(t, d)
			d.Fail(1)
			sync(t, d)
			off(t, d)
		}
	}
}

// The last Fail counts, from where it was told.
func TestFailTwice(t *testing.T) {
	for _, x := range []struct{ first, between, second int }{
		{1, 0, 3}, {3, 0, 1}, {3, 2, 3}, {3, 2, 1}, {5, 4, 5}, {2, 1, 2}, {2, 1, 1}, {0, 3, 2}, {-1, 1, 1},
	} {
		d := made(t, 1)
		d.Fail(x.first)
		for range x.between {
			sync(t, d)
		}
		d.Fail(x.second)
		for range x.second {
			on(t, d)
			sync(t, d)
		}
		off(t, d)
		ops(t, d, x.between+x.second)
	}
}

// Without power a Fail has no power come, and none is in force behind a Boot.
func TestFailWithoutPower(t *testing.T) {
	for _, n := range []int{-1, 0, 1, 2, 5} {
		d := made(t, 2)
		write(t, d, 1, full("a"))
		fails(t, d, 0)
		d.Fail(n)
		off(t, d)
		dirty(t, d, 0, 1)
		boot(t, d, 0, 128)
		has(t, d, none, full("a"))
		for range 10 {
			sync(t, d)
			write(t, d, 0, full("b"))
		}
		on(t, d)
		ops(t, d, 22)
	}
}

// The last one done is done: a Sync has all last, a Write may last.
func TestTheLastOneDone(t *testing.T) {
	d := made(t, 2)
	write(t, d, 0, full("a"))
	write(t, d, 1, full("b"))
	other := d.Copy()

	d.Fail(1)
	sync(t, d)
	off(t, d)
	dirty(t, d)
	ops(t, d, 3)
	boot(t, d, 0, 0)
	has(t, d, full("a"), full("b"))

	other.Fail(1)
	write(t, other, 1, full("c"))
	off(t, other)
	dirty(t, other, 0, 1)
	ops(t, other, 3)
	boot(t, other, 0, 128)
	has(t, other, none, full("c"))
}

// What is refused without power is not there behind it.
func TestNothingIsDoneWithoutPower(t *testing.T) {
	d := made(t, 3)
	write(t, d, 1, full("a"))
	d.Fail(1)
	write(t, d, 0, full("b"))
	for at := -1; at <= 3; at++ {
		if e := d.Write(at, full("!")); e != api.ErrOff {
			t.Errorf("Write(%d): %v", at, e)
		}
	}
	off(t, d)
	dirty(t, d, 0, 1)
	ops(t, d, 2)
	if d.Sectors() != 3 {
		t.Errorf("Sectors: %d", d.Sectors())
	}
	boot(t, d, 128, 128, 128)
	has(t, d, full("b"), full("a"), none)
}

func TestBootWithPower(t *testing.T) {
	d := made(t, 2)
	write(t, d, 0, full("a"))
	d.Fail(2)
	for _, keep := range [][]int{nil, {}, {0}, {5, 5, 5}} {
		if e := d.Boot(keep); e != api.ErrState {
			t.Errorf("Boot(%v): %v", keep, e)
		}
	}
	has(t, d, full("a"), none)
	dirty(t, d, 0)
	ops(t, d, 1)
	sync(t, d)
	on(t, d)
	sync(t, d) // the Fail is still in force
	off(t, d)
	boot(t, d)
	on(t, d) // so a second Boot is one with power
}

func TestBootWithNoneDirty(t *testing.T) {
	for _, keep := range [][]int{nil, {}, {0}, {128}, {-1, 5, 1000}} {
		d := made(t, 2)
		write(t, d, 0, full("a"))
		d.Fail(1)
		sync(t, d)
		boot(t, d, keep...)
		has(t, d, full("a"), none)
		dirty(t, d)
		ops(t, d, 2)
		on(t, d)
	}
}

// All numbers that may be told of a sector, and others.
func TestKept(t *testing.T) {
	numbers := []int{math.MinInt, -129, -128, -1, 129, 255, 256, 257, math.MaxInt}
	for n := range 129 {
		numbers = append(numbers, n)
	}
	a, b, c := full("a"), full("b"), full("c")
	for _, n := range numbers {
		many := max(0, min(128, n))
		d := made(t, 2)
		write(t, d, 0, a)
		sync(t, d)
		write(t, d, 1, b)
		d.Fail(1)
		write(t, d, 0, c)
		boot(t, d, n, n)
		has(t, d, torn(many, c, a), torn(many, b, none))
		dirty(t, d)
		on(t, d)
	}
}

// Of a sector that was written more often: the last one's bytes, and those ahead of the first one.
func TestWrittenTwiceAndTorn(t *testing.T) {
	a, b, c, z := full("a"), full("b"), full("c"), full("z")
	for _, n := range []int{0, 1, 64, 127, 128} {
		for _, synced := range []string{none, z} {
			d := made(t, 1)
			write(t, d, 0, synced)
			sync(t, d)
			write(t, d, 0, a)
			write(t, d, 0, b)
			d.Fail(1)
			write(t, d, 0, c)
			dirty(t, d, 0)
			boot(t, d, n)
			left := torn(n, c, synced)
			has(t, d, left)
			// And once more: what the Boot left is what was ahead.
			write(t, d, 0, a)
			d.Fail(1)
			write(t, d, 0, b)
			boot(t, d, 3)
			has(t, d, torn(3, b, left))
		}
	}
}

// Of as many numbers as there are dirty sectors, of fewer, and of more; by rising places, however they were written.
func TestKeepByRisingPlaces(t *testing.T) {
	a, b := full("a"), full("b")
	for _, x := range []struct {
		keep []int
		want [3]int
	}{
		{nil, [3]int{0, 0, 0}},
		{[]int{}, [3]int{0, 0, 0}},
		{[]int{9}, [3]int{9, 0, 0}},
		{[]int{9, 5}, [3]int{9, 5, 0}},
		{[]int{9, 5, 7}, [3]int{9, 5, 7}},
		{[]int{9, 5, 7, 11}, [3]int{9, 5, 7}},
		{[]int{128, -1, 1, 128, 128, 128, 128, 128}, [3]int{128, 0, 1}},
		{[]int{-5, 500, 127}, [3]int{0, 128, 127}},
	} {
		for _, row := range [][]int{{1, 4, 6}, {1, 6, 4}, {4, 1, 6}, {4, 6, 1}, {6, 1, 4}, {6, 4, 1}, {6, 4, 1, 4, 6}} {
			d := made(t, 8)
			for at := range 8 {
				write(t, d, at, a)
			}
			sync(t, d)
			d.Fail(len(row))
			for _, at := range row {
				write(t, d, at, b)
			}
			dirty(t, d, 1, 4, 6)
			keep := slices.Clone(x.keep)
			boot(t, d, keep...)
			has(t, d, a, torn(x.want[0], b, a), a, a, torn(x.want[1], b, a), a, torn(x.want[2], b, a), a)
			if !slices.Equal(keep, x.keep) {
				t.Errorf("keep: %v; was %v", keep, x.keep)
			}
			dirty(t, d)
		}
	}
}

// Behind a Boot no Fail is in force, and operations are counted on.
func TestBehindBoot(t *testing.T) {
	d := made(t, 1)
	d.Fail(2)
	write(t, d, 0, full("a"))
	sync(t, d)
	ops(t, d, 2)
	boot(t, d)
	ops(t, d, 2)
	for i := range 20 {
		write(t, d, 0, full("b"))
		ops(t, d, 3+i)
	}
	on(t, d)
	d.Fail(1)
	sync(t, d)
	off(t, d)
	ops(t, d, 23)
	boot(t, d)
	has(t, d, full("b"))
}

// P10.6: both go their own ways.
func TestCopyGoesItsOwnWay(t *testing.T) {
	a, b, c := full("a"), full("b"), full("c")
	d := made(t, 3)
	write(t, d, 0, a)
	sync(t, d)
	write(t, d, 0, b)
	write(t, d, 1, b)
	n := d.Copy()
	has(t, n, b, b, none)
	dirty(t, n, 0, 1)
	ops(t, n, 4)
	on(t, n)
	if n.Sectors() != 3 {
		t.Errorf("Sectors: %d", n.Sectors())
	}

	write(t, d, 1, c)
	write(t, d, 2, c)
	has(t, n, b, b, none)
	dirty(t, n, 0, 1)
	sync(t, n)
	dirty(t, d, 0, 1, 2)
	write(t, n, 2, a)
	has(t, d, b, c, c)
	ops(t, d, 6)
	ops(t, n, 6)

	d.Fail(1)
	write(t, d, 2, a)
	off(t, d)
	on(t, n)
	boot(t, d, 1, 2, 3)
	has(t, d, torn(1, b, a), torn(2, c, none), torn(3, a, none))
	has(t, n, b, b, a)
}

func TestCopyOfOneWithoutPower(t *testing.T) {
	d := made(t, 2)
	write(t, d, 0, full("a"))
	d.Fail(1)
	write(t, d, 1, full("b"))
	n := d.Copy()
	off(t, n)
	dirty(t, n, 0, 1)
	ops(t, n, 2)
	boot(t, n, 128, 1)
	has(t, n, full("a"), torn(1, full("b"), none))
	off(t, d)
	dirty(t, d, 0, 1)
	boot(t, d, 2, 128)
	has(t, d, torn(2, full("a"), none), full("b"))
	has(t, n, full("a"), torn(1, full("b"), none))
}

func TestCopyOfOneThatIsToFail(t *testing.T) {
	d := made(t, 1)
	d.Fail(3)
	sync(t, d)
	n := d.Copy()
	sync(t, d)
	sync(t, d)
	off(t, d)
	on(t, n)
	write(t, n, 0, full("a"))
	on(t, n)
	m := n.Copy()
	m.Fail(0)
	write(t, n, 0, full("b"))
	off(t, n)
	for range 5 {
		sync(t, m)
	}
	on(t, m)
	has(t, m, full("a"))
	boot(t, n, 4)
	has(t, n, torn(4, full("b"), none))
}
