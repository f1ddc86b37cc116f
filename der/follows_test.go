package der_test

import (
	"slices"
	"strings"
	"testing"
	"unsafe"

	"mailroom/api"
	"mailroom/der"
)

// longest is more than any value has.
const longest = 65536

// lengths are how each length that may be is written, and what some of them begin by.
type lengths struct {
	whole  map[string]int
	begins map[string]bool
}

func allLengths() lengths {
	all := lengths{whole: map[string]int{}, begins: map[string]bool{"": true}}
	for n := range longest {
		s := form(n)
		all.whole[s] = n
		for cut := range len(s) {
			all.begins[s[:cut]] = true
		}
	}
	return all
}

// plainGet reckons, by the chapter's words, what a text begins by: byte by byte, till it can be none any more, or ends.
func (all lengths) plainGet(text string) (der.Item, string, api.Errno) {
	if text == "" {
		return der.Item{}, "", api.ErrShort
	}
	if !isTag(text[0]) {
		return der.Item{}, "", api.ErrForm
	}
	for many := 1; many < len(text); many++ {
		told := text[1 : 1+many]
		if n, is := all.whole[told]; is {
			if left := text[1+many:]; len(left) >= n {
				return der.Item{Tag: text[0], S: left[:n]}, left[n:], api.OK
			}
			return der.Item{}, "", api.ErrShort
		}
		if !all.begins[told] {
			return der.Item{}, "", api.ErrForm
		}
	}
	return der.Item{}, "", api.ErrShort
}

// plainAll reckons what things a text has.
func (all lengths) plainAll(text string) ([]der.Item, api.Errno) {
	var list []der.Item
	for left := text; left != ""; {
		x, rest, e := all.plainGet(left)
		if e != api.OK {
			return nil, e
		}
		if len(list) == 64 {
			return nil, api.ErrTooLarge
		}
		list = append(list, x)
		left = rest
	}
	return list, api.OK
}

// holdsGet holds what a text begins by against the reckoning; what was got, put, is what it begins by.
func (all lengths) holdsGet(t *testing.T, text string) {
	t.Helper()
	y, left, want := all.plainGet(text)
	x, rest, e := der.Get(text)
	if x != y || rest != left || e != want {
		t.Fatalf("Get(%.10x (%d)): %02x %.10x, %d behind, %v; want %02x %.10x, %d, %v", text, len(text), x.Tag, x.S, len(rest), e, y.Tag, y.S, len(left), want)
	}
	if e != api.OK {
		return
	}
	if s, e := der.Put(x); s+rest != text || e != api.OK {
		t.Fatalf("Put of what Get(%.10x) tells: %.10x, %v", text, s, e)
	}
}

// holdsAll holds a text's things against the reckoning.
func (all lengths) holdsAll(t *testing.T, text string) {
	t.Helper()
	want, wrong := all.plainAll(text)
	if got, e := der.All(text); !slices.Equal(got, want) || e != wrong {
		t.Fatalf("All(%.20x (%d)): %d things, %v; want %d, %v", text, len(text), len(got), e, len(want), wrong)
	}
}

// TestGetOfShortTexts: P13.1, P13.3, of all texts of none to two bytes, and of three and four by some tags, and bytes.
func TestGetOfShortTexts(t *testing.T) {
	all := allLengths()
	all.holdsGet(t, "")
	for i := range 256 {
		all.holdsGet(t, string([]byte{byte(i)}))
		for j := range 256 {
			s := string([]byte{byte(i), byte(j)})
			all.holdsGet(t, s)
			for _, tag := range []string{"\x00", "\x04", "\x1e", "\x1f", "\x20", "\xfe", "\xff"} {
				all.holdsGet(t, tag+s)
			}
			for _, begin := range []string{"\x04\x80", "\x04\x81", "\x04\x82", "\x04\x83", "\x04\x84", "\x04\xff", "\x04\x82\x00"} {
				all.holdsGet(t, begin+s)
				all.holdsGet(t, begin+s+letters(300))
			}
		}
	}
}

// TestGetOfAllLengths: all lengths of two bytes, whose value is there, or lacks one byte, or has some behind.
func TestGetOfAllLengths(t *testing.T) {
	value := letters(longest + 3)
	for n := 0; n < longest; n += 1 + n/40 {
		begin := "\x30" + form(n)
		gets(t, begin+value[:n], 0x30, value[:n], "")
		gets(t, begin+value[:n+3], 0x30, value[:n], value[n:n+3])
		if n > 0 {
			getsNone(t, begin+value[:n-1], api.ErrShort)
		}
	}
}

// some are things of many kinds, no two the same.
func some() []der.Item {
	list := []der.Item{{Tag: 4, S: "\x00"}, {Tag: 4, S: "\x04\x00"}, {Tag: 4, S: "\x81"}, {Tag: 0, S: "\x00"}, {Tag: 0, S: "\x00\x00"}, {Tag: 0x30, S: bytesOf(4, "ab") + bytesOf(2, "\x01")}}
	for _, tag := range []byte{0x00, 0x04, 0x1e, 0x20, 0x81, 0x82, 0xfe} {
		for _, long := range []int{0, 1, 2, 126, 127, 128, 129, 254, 255, 256, 257, 511, 512, 32768, 65534, 65535} {
			list = append(list, der.Item{Tag: tag, S: letters(long)})
		}
	}
	return list
}

// TestOneForm: P13.4, of each two things.
func TestOneForm(t *testing.T) {
	list := some()
	for i, x := range list {
		a := puts(t, x.Tag, x.S)
		for j, y := range list {
			b, _ := der.Put(y)
			if i != j && strings.HasPrefix(b, a) {
				t.Errorf("%02x %.10x (%d) begins %02x %.10x (%d)", x.Tag, x.S, len(x.S), y.Tag, y.S, len(y.S))
			}
			if i == j && a != b {
				t.Errorf("%02x %.10x (%d) has two forms", x.Tag, x.S, len(x.S))
			}
		}
	}
}

// TestThereAndBack: P13.3, with each other thing behind, whole, or cut.
func TestThereAndBack(t *testing.T) {
	list := some()
	for _, x := range list {
		a := puts(t, x.Tag, x.S)
		for _, y := range list {
			if len(x.S)+len(y.S) > 1<<16 {
				continue
			}
			b := bytesOf(y.Tag, y.S)
			gets(t, a+b, x.Tag, x.S, b)
			gets(t, a+b[:len(b)/2], x.Tag, x.S, b[:len(b)/2])
		}
	}
}

// TestAllOfRows: P13.1, of all rows, up to four, of things, some of which are cut, or in no form.
func TestAllOfRows(t *testing.T) {
	all := allLengths()
	pieces := []string{"\x04\x00", "\x04\x01a", "\x30\x02\x04\x00", "\x00\x00", "\x04", "\x04\x81", "\x04\x82\x01", "\x04\x03a", "\x04\x81\x7f", "\x04\x80", "\x1f\x00", "\x04\x82\x00"}
	rows := []string{""}
	all.holdsAll(t, "")
	for range 4 {
		var next []string
		for _, row := range rows {
			for _, piece := range pieces {
				next = append(next, row+piece)
			}
		}
		rows = next
		for _, row := range rows {
			all.holdsAll(t, row)
		}
	}
}

// allIs holds a text's things, or the error, against what is to be told.
func allIs(t *testing.T, text string, want []der.Item, wrong api.Errno) {
	t.Helper()
	got, e := der.All(text)
	if !slices.Equal(got, want) || e != wrong {
		t.Errorf("All(%.20x (%d)): %d things, %v; want %d, %v", text, len(text), len(got), e, len(want), wrong)
	}
	if wrong != api.OK && got != nil {
		t.Errorf("All(%.20x (%d)): %v beside %v", text, len(text), got, e)
	}
}

// TestAsManyAsMayBe: 64 things, 65, and 64 with something behind that is none.
func TestAsManyAsMayBe(t *testing.T) {
	var list []der.Item
	text := ""
	for n := range 64 {
		allIs(t, text, list, api.OK)
		x := der.Item{Tag: byte(n & 30), S: letters(n * n)}
		list = append(list, x)
		text += bytesOf(x.Tag, x.S)
	}
	allIs(t, text, list, api.OK)
	for behind, wrong := range map[string]api.Errno{
		"\x04\x00": api.ErrTooLarge, "\x04\x01a": api.ErrTooLarge, "\x00\x00": api.ErrTooLarge,
		bytesOf(4, letters(65535)): api.ErrTooLarge, "\x04\x00\x1f": api.ErrTooLarge, "\x04\x00\x04": api.ErrTooLarge,
		"\x04": api.ErrShort, "\x04\x01": api.ErrShort, "\x04\x81": api.ErrShort, "\x04\x82\x01": api.ErrShort,
		"\x1f": api.ErrForm, "\xff\x00": api.ErrForm, "\x04\x80": api.ErrForm, "\x04\x81\x7f": api.ErrForm, "\x04\x82\x00": api.ErrForm,
	} {
		allIs(t, text+behind, nil, wrong)
		allIs(t, text+"\x04\x00"+behind, nil, api.ErrTooLarge) // the 65th is told ahead of what is behind
	}
	allIs(t, strings.Repeat("\x04\x00", 64), slices.Repeat([]der.Item{{Tag: 4}}, 64), api.OK)
	allIs(t, strings.Repeat("\x04\x00", 65), nil, api.ErrTooLarge)
	allIs(t, strings.Repeat("\x04\x00", 1<<20), nil, api.ErrTooLarge)
}

// TestWhichIsFirst: of two faults that which stands first is told.
func TestWhichIsFirst(t *testing.T) {
	ahead := strings.Repeat("\x04\x01a", 10)
	allIs(t, ahead+"\x1f\x00"+"\x04", nil, api.ErrForm)
	allIs(t, ahead+"\x04\x05\x1f\x00", nil, api.ErrShort)
	allIs(t, ahead+"\x04\x02\x1f\x00", append(slices.Repeat([]der.Item{{Tag: 4, S: "a"}}, 10), der.Item{Tag: 4, S: "\x1f\x00"}), api.OK)
	allIs(t, ahead+"\x04\x80"+strings.Repeat("\x04\x00", 64), nil, api.ErrForm)
	allIs(t, "\x1f"+strings.Repeat("\x04\x00", 65), nil, api.ErrForm)
	allIs(t, strings.Repeat("\x04\x00", 63)+"\x04\x81\x7f", nil, api.ErrForm)
	allIs(t, strings.Repeat("\x04\x00", 63)+"\x04\x7f", nil, api.ErrShort)
}

// TestRowByRow: P13.6, of rows of things that are cut at each of their bytes.
func TestRowByRow(t *testing.T) {
	for many := range 65 {
		var list []der.Item
		text := ""
		ends := []int{0}
		for i := range many {
			x := der.Item{Tag: byte(i<<2) & 0xfe, S: letters((i * 37) % 140)}
			list = append(list, x)
			text += puts(t, x.Tag, x.S)
			ends = append(ends, len(text))
		}
		allIs(t, text, list, api.OK)
		if many > 12 && many < 64 {
			continue
		}
		for cut := range len(text) {
			if ahead := slices.Index(ends, cut); ahead >= 0 {
				allIs(t, text[:cut], list[:ahead], api.OK)
			} else {
				allIs(t, text[:cut], nil, api.ErrShort)
			}
		}
	}
}

// TestGreatThings: P13.6, of as many things as may be, each as long as may be.
func TestGreatThings(t *testing.T) {
	list := slices.Repeat([]der.Item{{Tag: 0x24, S: letters(65535)}}, 64)
	text := strings.Repeat(bytesOf(0x24, letters(65535)), 64)
	allIs(t, text, list, api.OK)
	allIs(t, text[:len(text)-1], nil, api.ErrShort)
	allIs(t, text+"\x24", nil, api.ErrShort)
	allIs(t, text+"\x24\x00", nil, api.ErrTooLarge)
}

// TestThingsInThings: a thing's value is a text of things.
func TestThingsInThings(t *testing.T) {
	text := bytesOf(2, "\x01")
	for range 20 {
		text = bytesOf(0x30, text+bytesOf(1, der.Bool(true)))
	}
	for range 20 {
		x, rest, e := der.Get(text)
		if x.Tag != 0x30 || rest != "" || e != api.OK {
			t.Fatalf("Get(%x): %v, %x, %v", text, x, rest, e)
		}
		list, e := der.All(x.S)
		if len(list) != 2 || list[1] != (der.Item{Tag: 1, S: "\xff"}) || e != api.OK {
			t.Fatalf("All(%x): %v, %v", x.S, list, e)
		}
		text = bytesOf(list[0].Tag, list[0].S)
	}
	gets(t, text, 2, "\x01", "")
}

// shares tells whether two texts stand in one piece of memory.
func shares(a, b string) bool {
	if a == "" || b == "" {
		return false
	}
	x, y := uintptr(unsafe.Pointer(unsafe.StringData(a))), uintptr(unsafe.Pointer(unsafe.StringData(b)))
	return x < y+uintptr(len(b)) && y < x+uintptr(len(a))
}

// TestNothingShared: R1: what is told is new memory.
func TestNothingShared(t *testing.T) {
	value := letters(300)
	text := puts(t, 4, value)
	if shares(text, value) {
		t.Error("Put shares memory")
	}
	text += text
	x, rest, _ := der.Get(text)
	if shares(x.S, text) || shares(rest, text) || shares(x.S, rest) {
		t.Error("Get shares memory")
	}
	list, _ := der.All(text)
	if len(list) != 2 || shares(list[0].S, text) || shares(list[1].S, text) || shares(list[0].S, list[1].S) {
		t.Error("All shares memory")
	}
	again, _ := der.All(text)
	list[0] = der.Item{}
	if again[0] != (der.Item{Tag: 4, S: value}) {
		t.Error("two lists of All are one")
	}
}
