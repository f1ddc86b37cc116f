package der_test

import (
	"encoding/binary"
	"math"
	"strings"
	"testing"

	"mailroom/api"
	"mailroom/der"
)

// plainInt is a whole number's value, by the chapter's words: the fewest bytes within which it is.
func plainInt(n int) string {
	all := binary.BigEndian.AppendUint64(nil, uint64(n))
	for many := 1; many < 8; many++ {
		if half := 1 << (8*many - 1); n >= -half && n < half {
			return string(all[8-many:])
		}
	}
	return string(all)
}

// plainReadInt reckons bit by bit what a value tells, and whether it is of the fewest bytes.
func plainReadInt(s string) (int, bool) {
	if s == "" || len(s) > 8 {
		return 0, false
	}
	if len(s) > 1 && (s[0] == 0 && s[1] < 128 || s[0] == 255 && s[1] >= 128) {
		return 0, false
	}
	n, at := 0, 1
	for i := len(s) - 1; i >= 0; i-- {
		for bit := range 8 {
			set := s[i]>>bit&1 == 1
			switch {
			case set && i == 0 && bit == 7:
				n -= at // the sign
			case set:
				n += at
			}
			at *= 2
		}
	}
	return n, true
}

// isInt holds a whole number's value, and the number that is read of it.
func isInt(t *testing.T, n int) string {
	t.Helper()
	s := der.Int(n)
	if want := plainInt(n); s != want {
		t.Errorf("Int(%d): %x; want %x", n, s, want)
	}
	if got, e := der.ReadInt(s); got != n || e != api.OK {
		t.Errorf("ReadInt(%x): %d, %v; want %d", s, got, e, n)
	}
	return s
}

// readsNoInt wants that a value tells no whole number.
func readsNoInt(t *testing.T, s string) {
	t.Helper()
	if n, e := der.ReadInt(s); n != 0 || e != api.ErrForm {
		t.Errorf("ReadInt(%.10x): %d, %v; want ErrForm", s, n, e)
	}
}

// readsInt holds what is read of whatever value against a reckoning.
func readsInt(t *testing.T, s string) {
	t.Helper()
	n, is := plainReadInt(s)
	if !is {
		readsNoInt(t, s)
		return
	}
	if got, e := der.ReadInt(s); got != n || e != api.OK {
		t.Errorf("ReadInt(%x): %d, %v; want %d", s, got, e, n)
	}
	if got := der.Int(n); got != s {
		t.Errorf("Int(%d): %x; want %x", n, got, s)
	}
}

// ends are the numbers about each power of two.
func ends() []int {
	var list []int
	for bit := range 64 {
		for off := -2; off <= 2; off++ {
			list = append(list, 1<<bit+off, -1<<bit+off)
		}
	}
	return list
}

// TestIntByHand: P13.2, at either side of each number of bytes.
func TestIntByHand(t *testing.T) {
	for n, want := range map[int]string{
		0: "\x00", 1: "\x01", -1: "\xff", 2: "\x02", -2: "\xfe",
		127: "\x7f", 128: "\x00\x80", -128: "\x80", -129: "\xff\x7f",
		255: "\x00\xff", 256: "\x01\x00", -255: "\xff\x01", -256: "\xff\x00", -257: "\xfe\xff",
		32767: "\x7f\xff", 32768: "\x00\x80\x00", -32768: "\x80\x00", -32769: "\xff\x7f\xff",
		1<<23 - 1: "\x7f\xff\xff", 1 << 23: "\x00\x80\x00\x00", -1 << 23: "\x80\x00\x00", -1<<23 - 1: "\xff\x7f\xff\xff",
		1<<31 - 1: "\x7f\xff\xff\xff", 1 << 31: "\x00\x80\x00\x00\x00", -1 << 31: "\x80\x00\x00\x00", -1<<31 - 1: "\xff\x7f\xff\xff\xff",
		1<<39 - 1: "\x7f\xff\xff\xff\xff", 1 << 39: "\x00\x80\x00\x00\x00\x00", -1 << 39: "\x80\x00\x00\x00\x00", -1<<39 - 1: "\xff\x7f\xff\xff\xff\xff",
		1<<47 - 1: "\x7f\xff\xff\xff\xff\xff", 1 << 47: "\x00\x80\x00\x00\x00\x00\x00", -1 << 47: "\x80\x00\x00\x00\x00\x00", -1<<47 - 1: "\xff\x7f\xff\xff\xff\xff\xff",
		1<<55 - 1: "\x7f\xff\xff\xff\xff\xff\xff", 1 << 55: "\x00\x80\x00\x00\x00\x00\x00\x00", -1 << 55: "\x80\x00\x00\x00\x00\x00\x00", -1<<55 - 1: "\xff\x7f\xff\xff\xff\xff\xff\xff",
		math.MaxInt64: "\x7f\xff\xff\xff\xff\xff\xff\xff", math.MinInt64: "\x80\x00\x00\x00\x00\x00\x00\x00",
	} {
		if s := isInt(t, n); s != want {
			t.Errorf("Int(%d): %x; want %x", n, s, want)
		}
		// One byte more that tells nothing is another form.
		sign := "\x00"
		if n < 0 {
			sign = "\xff"
		}
		readsNoInt(t, sign+want)
		readsNoInt(t, sign+sign+want)
	}
}

// TestInts: P13.5, of all numbers of two bytes, those of three about them, and those about each power of two.
func TestInts(t *testing.T) {
	for n := -1 << 17; n <= 1<<17; n++ {
		isInt(t, n)
	}
	for _, n := range ends() {
		isInt(t, n)
	}
	n := 1
	for range 20000 {
		n = n*6364136223846793005 + 1442695040888963407 // one after the other, over all 64 bits
		isInt(t, n)
		isInt(t, n>>17)
		isInt(t, n>>40)
	}
}

// TestGreaterIsNotShorter: P13.5, of numbers that are not less than 0.
func TestGreaterIsNotShorter(t *testing.T) {
	list := append(ends(), 0, 1, 3, 100, 126, 130, 200, 40000, 65535, 1<<40+12345)
	for _, a := range list {
		for _, b := range list {
			if a >= 0 && b > a && len(der.Int(b)) < len(der.Int(a)) {
				t.Errorf("Int(%d): %x; Int(%d): %x", a, der.Int(a), b, der.Int(b))
			}
		}
	}
}

// TestValuesThatTellNone: of no bytes, of 9 and more, of more bytes than tell it.
func TestValuesThatTellNone(t *testing.T) {
	readsNoInt(t, "")
	for many := 2; many <= 12; many++ {
		readsNoInt(t, strings.Repeat("\x00", many))
		readsNoInt(t, strings.Repeat("\xff", many))
		readsNoInt(t, strings.Repeat("\x00", many-1)+"\x7f")
		readsNoInt(t, strings.Repeat("\xff", many-1)+"\x80")
	}
	for many := 9; many <= 40; many++ {
		for _, first := range []string{"\x00", "\x01", "\x7f", "\x80", "\xfe", "\xff"} {
			for _, next := range []string{"\x00", "\x7f", "\x80", "\xff"} {
				readsNoInt(t, first+strings.Repeat(next, many-1))
			}
		}
	}
	readsNoInt(t, letters(65535))
	readsNoInt(t, letters(1<<20))
}

// TestReadIntOfShortValues: P13.5, of all values of none to two bytes, and those of three by their first.
func TestReadIntOfShortValues(t *testing.T) {
	readsInt(t, "")
	for i := range 256 {
		readsInt(t, string([]byte{byte(i)}))
		for j := range 256 {
			s := string([]byte{byte(i), byte(j)})
			readsInt(t, s)
			for _, first := range []string{"\x00", "\x01", "\x7f", "\x80", "\xfe", "\xff"} {
				readsInt(t, first+s)
			}
		}
	}
}

// TestReadIntOfRows: of all rows, up to nine, of bytes that a number may begin or end by.
func TestReadIntOfRows(t *testing.T) {
	rows := []string{""}
	for many := 1; many <= 9; many++ {
		var next []string
		for _, row := range rows {
			for _, b := range []string{"\x00", "\x7f", "\x80", "\xff"} {
				next = append(next, row+b)
			}
		}
		rows = next
		for _, row := range rows {
			readsInt(t, row)
		}
	}
}
