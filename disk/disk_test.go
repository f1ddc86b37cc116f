package disk_test

import (
	"math"
	"slices"
	"strings"
	"testing"
	"unsafe"

	"mailroom/api"
	"mailroom/disk"
)

// none is what a sector has that was never written.
var none = strings.Repeat("\x00", 128)

func made(t *testing.T, sectors int) *disk.Disk {
	t.Helper()
	d, e := disk.New(sectors)
	if e != api.OK || d == nil {
		t.Fatalf("New(%d): %v, %v", sectors, d, e)
	}
	return d
}

// full is a sector of one byte alone.
func full(c string) string {
	return strings.Repeat(c, 128)
}

// torn is a sector that begins by so many bytes of one, and ends by those of another.
func torn(n int, a, b string) string {
	return a[:n] + b[n:]
}

func write(t *testing.T, d *disk.Disk, at int, s string) {
	t.Helper()
	if e := d.Write(at, s); e != api.OK {
		t.Fatalf("Write(%d, %q): %v", at, s, e)
	}
}

func sync(t *testing.T, d *disk.Disk) {
	t.Helper()
	if e := d.Sync(); e != api.OK {
		t.Fatalf("Sync: %v", e)
	}
}

func boot(t *testing.T, d *disk.Disk, keep ...int) {
	t.Helper()
	if e := d.Boot(keep); e != api.OK {
		t.Fatalf("Boot(%v): %v", keep, e)
	}
}

// fails has the power fail by a Write of a sector, as it is.
func fails(t *testing.T, d *disk.Disk, at int) {
	t.Helper()
	s := reads(t, d, at)
	d.Fail(1)
	write(t, d, at, s)
	off(t, d)
}

func reads(t *testing.T, d *disk.Disk, at int) string {
	t.Helper()
	s, e := d.Read(at)
	if e != api.OK {
		t.Fatalf("Read(%d): %v", at, e)
	}
	return s
}

// has holds the first sectors of a disk against these.
func has(t *testing.T, d *disk.Disk, sectors ...string) {
	t.Helper()
	for at, want := range sectors {
		if s := reads(t, d, at); s != want {
			t.Errorf("sector %d: %q; want %q", at, s, want)
		}
	}
}

func dirty(t *testing.T, d *disk.Disk, want ...int) {
	t.Helper()
	if got := d.Dirty(); !slices.Equal(got, want) {
		t.Errorf("Dirty: %v; want %v", got, want)
	}
}

func ops(t *testing.T, d *disk.Disk, want int) {
	t.Helper()
	if got := d.Ops(); got != want {
		t.Errorf("Ops: %d; want %d", got, want)
	}
}

// off asks of a disk all that it refuses without power.
func off(t *testing.T, d *disk.Disk) {
	t.Helper()
	if d.On() {
		t.Error("the power is on")
	}
	if e := d.Write(0, full("!")); e != api.ErrOff {
		t.Errorf("Write, off: %v", e)
	}
	if s, e := d.Read(0); s != "" || e != api.ErrOff {
		t.Errorf("Read, off: %q, %v", s, e)
	}
	if e := d.Sync(); e != api.ErrOff {
		t.Errorf("Sync, off: %v", e)
	}
}

func on(t *testing.T, d *disk.Disk) {
	t.Helper()
	if !d.On() {
		t.Error("the power is off")
	}
	if e := d.Boot(nil); e != api.ErrState {
		t.Errorf("Boot, on: %v", e)
	}
}

func TestExamplesOfTheChapter(t *testing.T) {
	a, b, c := full("a"), full("b"), full("c")
	d := made(t, 2)
	write(t, d, 0, a)
	sync(t, d)
	write(t, d, 0, b)
	write(t, d, 1, b)
	dirty(t, d, 0, 1)
	ops(t, d, 4)

	one := d.Copy()
	one.Fail(1)
	sync(t, one)
	off(t, one)

	d.Fail(1)
	write(t, d, 0, c)
	off(t, d)
	boot(t, d, 5)
	has(t, d, "ccccc"+a[5:], none)
}

// P10.1, and the table of errors.
func TestNew(t *testing.T) {
	for _, sectors := range []int{math.MinInt, -1024, -2, -1, 0, 1025, 1026, 2048, math.MaxInt} {
		if d, e := disk.New(sectors); d != nil || e != api.ErrArg {
			t.Errorf("New(%d): %v, %v", sectors, d, e)
		}
	}
	for _, sectors := range []int{1, 2, 3, 1023, 1024} {
		d := made(t, sectors)
		if d.Sectors() != sectors {
			t.Errorf("New(%d): Sectors %d", sectors, d.Sectors())
		}
		on(t, d)
		dirty(t, d)
		ops(t, d, 0)
		for at := range sectors {
			if s := reads(t, d, at); s != none {
				t.Errorf("New(%d): sector %d: %q", sectors, at, s)
			}
		}
	}
}

func TestPlaces(t *testing.T) {
	for _, sectors := range []int{1, 2, 1024} {
		d := made(t, sectors)
		for _, at := range []int{math.MinInt, -sectors, -1, sectors, sectors + 1, math.MaxInt} {
			if e := d.Write(at, full("a")); e != api.ErrArg {
				t.Errorf("of %d: Write(%d): %v", sectors, at, e)
			}
			if s, e := d.Read(at); s != "" || e != api.ErrArg {
				t.Errorf("of %d: Read(%d): %q, %v", sectors, at, s, e)
			}
		}
		dirty(t, d)
		ops(t, d, 0)
		for _, at := range []int{0, sectors - 1} {
			write(t, d, at, full("a"))
			if s := reads(t, d, at); s != full("a") {
				t.Errorf("of %d: sector %d: %q", sectors, at, s)
			}
		}
		if d.Sectors() != sectors {
			t.Errorf("of %d: Sectors %d", sectors, d.Sectors())
		}
	}
}

// P10.1: each sector is its own.
func TestEachSector(t *testing.T) {
	d := made(t, 1024)
	mark := func(at int) string { return string([]byte{byte(at), byte(at >> 8)}) + none[2:] }
	for at := range 1024 {
		write(t, d, at, mark(at))
	}
	if n := len(d.Dirty()); n != 1024 {
		t.Errorf("%d dirty sectors", n)
	}
	ops(t, d, 1024)
	for range 2 {
		for at := range 1024 {
			if s := reads(t, d, at); s != mark(at) {
				t.Fatalf("sector %d: %q", at, s)
			}
		}
		sync(t, d)
		dirty(t, d)
	}
}

func TestSizes(t *testing.T) {
	d := made(t, 1)
	for _, n := range []int{0, 1, 127, 129, 130, 256, 1 << 16} {
		if e := d.Write(0, strings.Repeat("a", n)); e != api.ErrArg {
			t.Errorf("Write of %d bytes: %v", n, e)
		}
	}
	has(t, d, none)
	dirty(t, d)
	ops(t, d, 0)
	write(t, d, 0, full("a"))
	has(t, d, full("a"))
}

func TestWhateverBytes(t *testing.T) {
	d := made(t, 1)
	for c := range 256 {
		s := full(string([]byte{byte(c)}))
		write(t, d, 0, s)
		has(t, d, s)
		sync(t, d)
		has(t, d, s)
		s = s[:c/2] + "\r" + s[c/2+1:]
		write(t, d, 0, s)
		has(t, d, s)
	}
}

// P10.1: a sector, as it was written last.
func TestWrittenLast(t *testing.T) {
	a, b, c := full("a"), full("b"), full("c")
	d := made(t, 2)
	has(t, d, none, none)
	write(t, d, 0, a)
	has(t, d, a, none)
	write(t, d, 0, b)
	has(t, d, b, none)
	dirty(t, d, 0)
	sync(t, d)
	has(t, d, b, none)
	dirty(t, d)
	write(t, d, 0, c)
	has(t, d, c, none)
	dirty(t, d, 0)
	write(t, d, 1, a)
	has(t, d, c, a)
	sync(t, d)
	sync(t, d)
	has(t, d, c, a)
	ops(t, d, 7)
}

// A sector that was written as it was is dirty, too.
func TestWrittenAsItWas(t *testing.T) {
	d := made(t, 2)
	write(t, d, 1, none)
	dirty(t, d, 1)
	sync(t, d)
	write(t, d, 0, full("a"))
	sync(t, d)
	write(t, d, 0, full("a"))
	dirty(t, d, 0)
	ops(t, d, 5)
}

// Which error comes first, where two could be told.
func TestErrorsInTheirOrder(t *testing.T) {
	d := made(t, 2)
	var gone *disk.Disk
	lost := d.Copy()
	lost.Fail(1)
	sync(t, lost)
	for _, x := range []struct {
		d          *disk.Disk
		at, long   int
		write, get api.Errno
	}{
		{gone, 0, 128, api.ErrNil, api.ErrNil},
		{gone, -1, 128, api.ErrNil, api.ErrNil},
		{gone, 0, 127, api.ErrNil, api.ErrNil},
		{lost, 0, 128, api.ErrOff, api.ErrOff},
		{lost, -1, 128, api.ErrOff, api.ErrOff},
		{lost, 2, 128, api.ErrOff, api.ErrOff},
		{lost, 0, 0, api.ErrOff, api.ErrOff},
		{lost, 2, 129, api.ErrOff, api.ErrOff},
		{d, -1, 128, api.ErrArg, api.ErrArg},
		{d, 2, 128, api.ErrArg, api.ErrArg},
		{d, -1, 0, api.ErrArg, api.ErrArg},
		{d, 2, 129, api.ErrArg, api.ErrArg},
		{d, 1, 127, api.ErrArg, api.OK},
		{d, 1, 129, api.ErrArg, api.OK},
	} {
		if e := x.d.Write(x.at, strings.Repeat("a", x.long)); e != x.write {
			t.Errorf("Write(%d, of %d bytes): %v; want %v", x.at, x.long, e, x.write)
		}
		s, e := x.d.Read(x.at)
		if e != x.get || e != api.OK && s != "" {
			t.Errorf("Read(%d): %q, %v; want %v", x.at, s, e, x.get)
		}
	}
	has(t, d, none, none)
	ops(t, d, 0)
	ops(t, lost, 1)
	boot(t, lost, 128, 128)
	has(t, lost, none, none)
}

// P10.2: what is refused, and what changes nothing, is no operation.
func TestNoOperations(t *testing.T) {
	d := made(t, 2)
	write(t, d, 1, full("a"))
	d.Fail(2)
	for range 3 {
		d.Write(-1, full("b"))
		d.Write(2, full("b"))
		d.Write(0, "b")
		d.Write(0, full("b")+"b")
		d.Read(0)
		d.Read(1)
		d.Read(2)
		d.Boot([]int{0})
		d.On()
		d.Sectors()
		d.Dirty()
		d.Copy()
	}
	has(t, d, none, full("a"))
	dirty(t, d, 1)
	ops(t, d, 1)
	write(t, d, 0, full("c")) // one of two
	on(t, d)
	ops(t, d, 2)
	dirty(t, d, 0, 1)
	sync(t, d) // the other one
	off(t, d)
	ops(t, d, 3)
	boot(t, d)
	ops(t, d, 3)
	has(t, d, full("c"), full("a"))
}

// P10.2: Dirty rises, however sectors were written, and is its own memory.
func TestDirtyRises(t *testing.T) {
	places := []int{0, 1, 2, 9, 10, 100, 1023}
	for turn := range len(places) {
		row := append(slices.Clone(places[turn:]), places[:turn]...)
		for _, at := range [][]int{row, back(row), append(row, row...), append(back(row), row...)} {
			d := made(t, 1024)
			for _, p := range at {
				write(t, d, p, full("a"))
			}
			dirty(t, d, places...)
			told := d.Dirty()
			for i := range told {
				told[i] = 7
			}
			_ = append(told[:1], 8, 8, 8)
			dirty(t, d, places...)
			sync(t, d)
			dirty(t, d)
			write(t, d, 5, full("b"))
			dirty(t, d, 5)
		}
	}
}

func back(list []int) []int {
	out := slices.Clone(list)
	slices.Reverse(out)
	return out
}

// R1.
func TestNil(t *testing.T) {
	var d *disk.Disk
	d.Fail(1)
	d.Fail(0)
	d.Fail(-1)
	if d.On() || d.Sectors() != 0 || len(d.Dirty()) != 0 || d.Ops() != 0 || d.Copy() != nil {
		t.Error("nil tells something")
	}
	if e := d.Write(0, full("a")); e != api.ErrNil {
		t.Errorf("Write: %v", e)
	}
	if s, e := d.Read(0); s != "" || e != api.ErrNil {
		t.Errorf("Read: %q, %v", s, e)
	}
	if e := d.Sync(); e != api.ErrNil {
		t.Errorf("Sync: %v", e)
	}
	for _, keep := range [][]int{nil, {}, {1}} {
		if e := d.Boot(keep); e != api.ErrNil {
			t.Errorf("Boot(%v): %v", keep, e)
		}
	}
}

// R1: a disk that New did not make ends each call, too; it has no sectors.
func TestNotMade(t *testing.T) {
	d := new(disk.Disk)
	for _, at := range []int{-1, 0, 1} {
		if e := d.Write(at, full("a")); e != api.ErrArg {
			t.Errorf("Write(%d): %v", at, e)
		}
		if s, e := d.Read(at); s != "" || e != api.ErrArg {
			t.Errorf("Read(%d): %q, %v", at, s, e)
		}
	}
	d.Fail(1)
	sync(t, d)
	off(t, d.Copy())
	boot(t, d, 1, 2)
	on(t, d.Copy())
	dirty(t, d)
	if d.Sectors() != 0 {
		t.Errorf("Sectors: %d", d.Sectors())
	}
}

// R1: what is told shares no memory with what was handed in, nor with what is told elsewhere.
func TestNothingShared(t *testing.T) {
	d := made(t, 1)
	s := strings.Clone(full("a"))
	write(t, d, 0, s)
	list := []string{s, reads(t, d, 0), reads(t, d, 0), reads(t, d.Copy(), 0)}
	sync(t, d)
	list = append(list, reads(t, d, 0), reads(t, d.Copy(), 0))
	for i, a := range list {
		for _, b := range list[:i] {
			if unsafe.StringData(a) == unsafe.StringData(b) || a != b {
				t.Errorf("%q and %q are one, or unlike", a, b)
			}
		}
	}
}
