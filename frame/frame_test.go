package frame_test

import (
	"encoding/binary"
	"math"
	"strings"
	"testing"
	"unsafe"

	"mailroom/api"
	"mailroom/frame"
)

const (
	top  = 1<<32 - 1          // the greatest age
	last = api.MaxSectors - 1 // the last place
)

// nul is so many bytes 00.
func nul(n int) string {
	return strings.Repeat("\x00", n)
}

// letters is a text of so many bytes, no two neighbours the same, none 00.
func letters(n int) string {
	var b strings.Builder
	for i := range n {
		b.WriteByte(byte('a' + i%23))
	}
	return b.String()
}

// stamp is what stands at both a sector's ends, also of an age or a place that may not be.
func stamp(age, place int) string {
	return string(binary.LittleEndian.AppendUint32(binary.LittleEndian.AppendUint32(nil, uint32(age)), uint32(place)))
}

// between puts s between two stamps, with 00s behind.
func between(first, s, last string) string {
	return first + s + nul(112-len(s)) + last
}

// whole is a sector, put together by hand.
func whole(age, place int, s string) string {
	return between(stamp(age, place), s, stamp(age, place))
}

// begins is what a record says ahead of its text.
func begins(many, long int) string {
	return string(binary.LittleEndian.AppendUint32(binary.LittleEndian.AppendUint16(nil, uint16(many)), uint32(long)))
}

func puts(t *testing.T, age, place int, s string) string {
	t.Helper()
	sector, e := frame.Put(age, place, s)
	if e != api.OK || sector != whole(age, place, s) {
		t.Fatalf("Put(%d, %d, %q): %q, %v", age, place, s, sector, e)
	}
	return sector
}

func splits(t *testing.T, age, place int, s string) []string {
	t.Helper()
	sectors, e := frame.Split(age, place, s)
	if e != api.OK || len(sectors) != frame.Many(len(s)) {
		t.Fatalf("Split(%d, %d, %d bytes): %d, %v; want %d", age, place, len(s), len(sectors), e, frame.Many(len(s)))
	}
	return sectors
}

// gets holds what a sector has against what is to be told.
func gets(t *testing.T, sector string, age, place int, s string) {
	t.Helper()
	if a, p, x, is := frame.Get(sector); a != age || p != place || x != s || !is {
		t.Errorf("Get(%q): %d, %d, %q, %v; want %d, %d, %q", sector, a, p, x, is, age, place, s)
	}
}

// none holds against a sector that it is none.
func none(t *testing.T, sector string) {
	t.Helper()
	if a, p, x, is := frame.Get(sector); a != 0 || p != 0 || x != "" || is {
		t.Errorf("Get(%q): %d, %d, %q, %v; want none", sector, a, p, x, is)
	}
}

// aged holds a sector's Age.
func aged(t *testing.T, sector string, age int) {
	t.Helper()
	if a := frame.Age(sector); a != age {
		t.Errorf("Age(%q): %d; want %d", sector, a, age)
	}
}

// joins holds the record that sectors begin by against what is to be told.
func joins(t *testing.T, sectors []string, age, place int, s string, n int) {
	t.Helper()
	if x, m, is := frame.Join(sectors, age, place); x != s || m != n || !is {
		t.Errorf("Join(%q, %d, %d): %q, %d, %v; want %q, %d", sectors, age, place, x, m, is, s, n)
	}
}

// loose holds against sectors that they begin by no record of that age and place.
func loose(t *testing.T, sectors []string, age, place int) {
	t.Helper()
	if x, m, is := frame.Join(sectors, age, place); x != "" || m != 0 || is {
		t.Errorf("Join(%q, %d, %d): %q, %d, %v; want none", sectors, age, place, x, m, is)
	}
}

func TestExamples(t *testing.T) {
	for long, many := range map[int]int{0: 1, 106: 1, 107: 2} {
		if n := frame.Many(long); n != many {
			t.Errorf("Many(%d): %d; want %d", long, n, many)
		}
	}
	first := "\x01\x00\x00\x00\x00\x00\x00\x00"
	s, e := frame.Put(1, 0, "ab")
	if s != first+"ab"+nul(110)+first || e != api.OK {
		t.Errorf("Put: %q, %v", s, e)
	}
	text := letters(107)
	sectors, e := frame.Split(1, 5, text)
	if e != api.OK || len(sectors) != 2 {
		t.Fatalf("Split: %q, %v", sectors, e)
	}
	gets(t, sectors[0], 1, 5, "\x02\x00\x6b\x00\x00\x00"+text[:106])
	gets(t, sectors[1], 1, 6, text[106:]+nul(111))
	joins(t, sectors, 1, 5, text, 2)
	loose(t, sectors, 2, 5)
	loose(t, sectors, 1, 6)
}

// TestPut: P11.1, of each edge of ages, places and texts.
func TestPut(t *testing.T) {
	for _, age := range []int{1, 2, 255, 256, 1<<16 - 1, 1 << 16, 1 << 24, 0x04030201, 1 << 31, top - 1, top} {
		for _, place := range []int{0, 1, 255, 256, 0x0201, last - 1, last} {
			for _, s := range []string{"", "a", "\x00", "\xff", letters(111), letters(112), nul(112), strings.Repeat("\xff", 112)} {
				sector := puts(t, age, place, s)
				gets(t, sector, age, place, s+nul(112-len(s)))
				aged(t, sector, age)
			}
		}
	}
}

// TestLeastFirst: the least byte stands first, in the age, the place, and both numbers of a record.
func TestLeastFirst(t *testing.T) {
	at := "\x01\x02\x03\x04\x01\x03\x00\x00"
	if s, e := frame.Put(0x04030201, 0x0301, "x"); s != at+"x"+nul(111)+at || e != api.OK {
		t.Errorf("Put: %q, %v", s, e)
	}
	text := letters(0x01c23)
	sectors := splits(t, 1, 0, text)
	gets(t, sectors[0], 1, 0, "\x41\x00\x23\x1c\x00\x00"+text[:106])
	text = letters(600*112 - 6)
	gets(t, splits(t, 1, 0, text)[0], 1, 0, "\x58\x02\x7a\x06\x01\x00"+text[:106])
}

func TestPutErrors(t *testing.T) {
	for _, c := range []struct {
		age, place, long int
		want             api.Errno
	}{
		{0, 0, 0, api.ErrArg}, {-1, 0, 0, api.ErrArg}, {top + 1, 0, 0, api.ErrArg},
		{math.MinInt, 0, 0, api.ErrArg}, {math.MaxInt, 0, 0, api.ErrArg}, {1 << 40, 0, 1, api.ErrArg}, {1<<40 + 1, 0, 1, api.ErrArg},
		{1, -1, 0, api.ErrArg}, {1, last + 1, 0, api.ErrArg}, {1, math.MinInt, 0, api.ErrArg}, {1, math.MaxInt, 0, api.ErrArg},
		{1, 1 << 32, 0, api.ErrArg}, {0, -1, 0, api.ErrArg},
		{0, 0, 113, api.ErrArg}, {top + 1, 0, 113, api.ErrArg}, {1, -1, 113, api.ErrArg}, {1, last + 1, 113, api.ErrArg},
		{1, 0, 113, api.ErrTooLarge}, {top, last, 113, api.ErrTooLarge}, {1, 0, 128, api.ErrTooLarge}, {1, 0, 1 << 20, api.ErrTooLarge},
	} {
		if s, e := frame.Put(c.age, c.place, letters(c.long)); s != "" || e != c.want {
			t.Errorf("Put(%d, %d, %d bytes): %q, %v; want %v", c.age, c.place, c.long, s, e, c.want)
		}
	}
}

// TestGetLengths: what has another length than a sector is none, and has no age.
func TestGetLengths(t *testing.T) {
	s := whole(7, 3, letters(112))
	for n := range 300 {
		if n == 128 {
			continue
		}
		cut := (s + s + s)[:n]
		none(t, cut)
		aged(t, cut, 0)
		none(t, nul(n))
		aged(t, nul(n), 0)
	}
	gets(t, s, 7, 3, letters(112))
	none(t, s[:127])
	none(t, s+"\x00")
	none(t, s[1:])
	none(t, "x"+s)
	aged(t, s+s, 0)
}

// TestUnlike: of stamps that are unlike in one byte alone, whichever that is, there is no sector.
func TestUnlike(t *testing.T) {
	s := whole(0x01010101, 0x0101, letters(112))
	for at := range 8 {
		for c := range 256 {
			for _, from := range []int{0, 120} {
				b := []byte(s)
				b[from+at] = byte(c)
				if string(b) == s {
					continue
				}
				none(t, string(b))
				changed := int(binary.LittleEndian.Uint32(b[from:]))
				aged(t, string(b), max(changed, 0x01010101))
			}
		}
	}
}

// TestNoStamp: two that are alike make no sector, if they are no stamp.
func TestNoStamp(t *testing.T) {
	for _, c := range []struct{ age, place int }{
		{0, 0}, {0, 1}, {0, last}, {1, last + 1}, {1, 1 << 16}, {1, 1 << 24}, {1, 1 << 31}, {1, 1<<32 - 1}, {top, last + 1}, {top, top}, {0, last + 1},
	} {
		s := whole(c.age, c.place, letters(112))
		none(t, s)
		aged(t, s, c.age)
		loose(t, []string{whole(c.age, c.place, begins(1, 3)+"abc")}, c.age, c.place)
	}
	none(t, nul(128))
	none(t, strings.Repeat("\xff", 128))
	aged(t, nul(128), 0)
	aged(t, strings.Repeat("\xff", 128), top)
	gets(t, whole(1, last, ""), 1, last, nul(112))
	gets(t, whole(top, 0, ""), top, 0, nul(112))
}

// TestAge: of two ages the greater one, first or last, whatever else there is.
func TestAge(t *testing.T) {
	ages := []int{0, 1, 2, 255, 256, 1 << 16, 1<<24 + 1, 1<<31 - 1, 1 << 31, top - 1, top}
	for _, a := range ages {
		for _, b := range ages {
			for _, place := range []int{0, 1, last, last + 1, top} {
				aged(t, between(stamp(a, place), letters(112), stamp(b, 0)), max(a, b))
				aged(t, between(stamp(a, 0), letters(112), stamp(b, place)), max(a, b))
			}
		}
	}
}

func TestMany(t *testing.T) {
	for _, c := range [][2]int{
		{-1, 0}, {-2, 0}, {-6, 0}, {-7, 0}, {-118, 0}, {math.MinInt, 0}, {math.MinInt + 1, 0},
		{0, 1}, {1, 1}, {105, 1}, {106, 1}, {107, 2}, {108, 2}, {218, 2}, {219, 3}, {330, 3}, {331, 4},
		{112*last + 106, api.MaxSectors}, {112*last + 107, api.MaxSectors + 1},
		{1<<31 - 1, 19173962}, {1<<32 - 1, 38347923},
	} {
		if n := frame.Many(c[0]); n != c[1] {
			t.Errorf("Many(%d): %d; want %d", c[0], n, c[1])
		}
	}
	for long := range 5000 {
		n := frame.Many(long)
		if n*112 < long+6 || (n-1)*112 >= long+6 {
			t.Errorf("Many(%d): %d", long, n)
		}
	}
	for less := range 500 {
		long := math.MaxInt - less
		n := uint64(frame.Many(long))
		if n*112 < uint64(long)+6 || (n-1)*112 >= uint64(long)+6 {
			t.Errorf("Many(%d): %d", long, n)
		}
	}
}

// TestSplit: P11.2, of each edge of texts and places.
func TestSplit(t *testing.T) {
	for _, long := range []int{0, 1, 105, 106, 107, 108, 218, 219, 330, 331, 3000} {
		text := letters(long)
		for _, place := range []int{0, 1, 5, api.MaxSectors - frame.Many(long)} {
			sectors := splits(t, 9, place, text)
			rest := begins(len(sectors), long) + text
			rest += nul(112*len(sectors) - len(rest))
			for i, s := range sectors {
				if want := whole(9, place+i, rest[112*i:112*i+112]); s != want {
					t.Errorf("Split(9, %d, %d bytes), %d: %q; want %q", place, long, i, s, want)
				}
			}
		}
	}
}

func TestSplitErrors(t *testing.T) {
	for _, c := range []struct {
		age, place, long int
		want             api.Errno
	}{
		{0, 0, 0, api.ErrArg}, {-1, 0, 0, api.ErrArg}, {top + 1, 0, 0, api.ErrArg}, {math.MinInt, 0, 0, api.ErrArg},
		{1, -1, 0, api.ErrArg}, {1, last + 1, 0, api.ErrArg}, {1, math.MaxInt, 0, api.ErrArg}, {1, math.MinInt, 0, api.ErrArg},
		{0, last, 107, api.ErrArg}, {1, last + 1, 107, api.ErrArg}, {1, -1, 112*last + 107, api.ErrArg}, {0, 0, 112*last + 107, api.ErrArg},
		{1, last, 106, api.OK}, {1, last, 107, api.ErrTooLarge}, {top, last, 107, api.ErrTooLarge},
		{1, last - 1, 218, api.OK}, {1, last - 1, 219, api.ErrTooLarge},
		{1, last - 2, 330, api.OK}, {1, last - 2, 331, api.ErrTooLarge},
		{1, 0, 112*last + 106, api.OK}, {1, 0, 112*last + 107, api.ErrTooLarge}, {1, 1, 112*last + 106, api.ErrTooLarge},
		{1, 1, 112*last + 106 - 112, api.OK}, {1, 0, 1 << 20, api.ErrTooLarge},
	} {
		sectors, e := frame.Split(c.age, c.place, letters(c.long))
		if e != c.want {
			t.Errorf("Split(%d, %d, %d bytes): %v; want %v", c.age, c.place, c.long, e, c.want)
		}
		if e == api.OK != (len(sectors) > 0) {
			t.Errorf("Split(%d, %d, %d bytes): %d sectors, %v", c.age, c.place, c.long, len(sectors), e)
		}
	}
}

// TestJoin: P11.2, of each way in which there is no such record.
func TestJoin(t *testing.T) {
	text := letters(250)
	s := splits(t, 4, 10, text)
	joins(t, s, 4, 10, text, 3)
	joins(t, append(s[:3:3], s...), 4, 10, text, 3)
	joins(t, append(s[:3:3], "", nul(128), "x", whole(5, 13, "y")), 4, 10, text, 3)
	loose(t, nil, 4, 10)
	loose(t, []string{}, 0, 0)
	for _, asked := range [][2]int{{3, 10}, {5, 10}, {4, 9}, {4, 11}, {0, 10}, {-1, 10}, {4, -1}, {4, last + 1}, {4, 12}, {4, math.MaxInt}, {math.MaxInt, 10}, {math.MinInt, math.MinInt}} {
		loose(t, s, asked[0], asked[1])
	}
	for _, rows := range [][]string{
		s[:1], s[:2], s[1:], {s[0], s[2], s[1]}, {s[1], s[0], s[2]}, {s[0], s[1], s[1]}, {s[0], s[0], s[1]}, {s[0], s[0], s[1], s[2]}, {s[0], s[1], s[1], s[2]},
		{s[0], s[2]}, {s[0], "", s[1], s[2]}, {"", s[0], s[1], s[2]}, {s[0], s[1], ""}, {s[0], s[1], nul(128)}, {s[0], s[1], s[2][:127]}, {s[0], s[1], s[2] + "\x00"},
	} {
		loose(t, rows, 4, 10)
	}
}

// TestStand: what a record says of itself is to stand together.
func TestStand(t *testing.T) {
	rest := []string{whole(4, 11, letters(112)), whole(4, 12, letters(112)), whole(4, 13, letters(112))}
	for many := range 6 {
		for long := range 450 {
			room := max(0, min(106, long))
			row := append([]string{whole(4, 10, begins(many, long)+letters(room))}, rest...)
			is := many >= 1 && many <= 4 && long+6 > (many-1)*112 && long+6 <= many*112
			ends := is && (many == 1 || long+6 == many*112)
			if _, n, ok := frame.Join(row, 4, 10); ok != ends || ok && n != many {
				t.Errorf("Join of %d sectors, %d bytes: %d, %v; want %v", many, long, n, ok, ends)
			}
		}
	}
	for _, c := range [][2]int{{0, 0}, {0, 1}, {1<<16 - 1, 1<<32 - 1}, {1, 1<<32 - 1}, {1, 1<<32 - 6}, {1, 1<<32 - 7}, {1<<16 - 1, 112*(1<<16-1) - 6}, {1 << 8, 0}, {1, 1 << 8}, {1, 1 << 24}, {257, 3}, {1 << 8, 112<<8 - 6}} {
		loose(t, append([]string{whole(4, 10, begins(c[0], c[1]))}, rest...), 4, 10)
	}
	joins(t, []string{whole(4, 10, begins(1, 0))}, 4, 10, "", 1)
	joins(t, []string{whole(4, last, begins(1, 3)+"abc")}, 4, last, "abc", 1)
	joins(t, []string{whole(4, 10, begins(1, 3)+nul(3))}, 4, 10, nul(3), 1)
	loose(t, []string{whole(4, last, begins(2, 107)+letters(106)), whole(4, last+1, "x")}, 4, last)
}

// TestBehindText: behind a text there is nothing but 00s.
func TestBehindText(t *testing.T) {
	for _, long := range []int{0, 1, 50, 105, 106, 107, 108, 200, 217, 218, 219} {
		s := splits(t, 4, 10, letters(long))
		end := len(s) - 1
		for at := range 112 {
			b := []byte(s[end])
			b[8+at] ^= 0x80
			changed := append(s[:end:end], string(b))
			if 112*end+at < 6+long {
				if end > 0 || at >= 6 {
					x := []byte(letters(long))
					x[112*end+at-6] ^= 0x80
					joins(t, changed, 4, 10, string(x), len(s))
				}
				continue
			}
			loose(t, changed, 4, 10)
		}
	}
}

// TestOwnMemory: R1: what is told shares no memory with what was handed in, which stays.
func TestOwnMemory(t *testing.T) {
	shares := func(a, b string) bool {
		if a == "" || b == "" {
			return false
		}
		x, y := uintptr(unsafe.Pointer(unsafe.StringData(a))), uintptr(unsafe.Pointer(unsafe.StringData(b)))
		return x < y+uintptr(len(b)) && y < x+uintptr(len(a))
	}
	text := letters(112)
	sector := puts(t, 1, 0, text)
	_, _, s, _ := frame.Get(sector)
	if shares(sector, text) || shares(s, sector) || shares(s, text) {
		t.Error("Put or Get shares memory")
	}
	text = letters(250)
	sectors := splits(t, 1, 0, text)
	before := strings.Join(sectors, "")
	s, _, _ = frame.Join(sectors, 1, 0)
	for i, x := range sectors {
		if shares(x, text) || shares(x, s) || i > 0 && shares(x, sectors[i-1]) {
			t.Errorf("sector %d shares memory", i)
		}
	}
	if strings.Join(sectors, "") != before || text != letters(250) {
		t.Error("what was handed in changed")
	}
}
