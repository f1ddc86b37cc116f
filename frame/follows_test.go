package frame_test

import (
	"slices"
	"strings"
	"testing"

	"mailroom/api"
	"mailroom/frame"
)

// plainGet reckons, by the chapter's words, what a sector has.
func plainGet(sector string) (age, place int, s string, is bool) {
	if len(sector) != 128 || sector[:8] != sector[120:] {
		return 0, 0, "", false
	}
	for i := 3; i >= 0; i-- {
		age = age*256 + int(sector[i])
		place = place*256 + int(sector[4+i])
	}
	if age == 0 || place > 1023 {
		return 0, 0, "", false
	}
	return age, place, sector[8:120], true
}

// plainJoin reckons, by the chapter's words, what record sectors begin by: each number of them is tried.
func plainJoin(sectors []string, age, place int) (string, int, bool) {
	var all string
	for i, sector := range sectors {
		a, p, s, is := plainGet(sector)
		if !is || a != age || p != place+i {
			return "", 0, false
		}
		all += s
		if int(all[0])+256*int(all[1]) != i+1 {
			continue
		}
		long := int(all[2]) + int(all[3])<<8 + int(all[4])<<16 + int(all[5])<<24
		if long+6 > len(all) || long+6 <= len(all)-112 {
			return "", 0, false
		}
		return all[6 : 6+long], i + 1, all[6+long:] == strings.Repeat("\x00", len(all)-6-long)
	}
	return "", 0, false
}

// TestThereAndBack: P11.3, of texts of all lengths, whatever stands behind.
func TestThereAndBack(t *testing.T) {
	behind := []string{"", "x", nul(128), whole(1, 0, ""), whole(3, 7, letters(112))}
	for long := range 800 {
		for _, text := range []string{letters(long), nul(long), strings.Repeat("\xff", long)} {
			s := splits(t, 3, 6, text)
			joins(t, s, 3, 6, text, len(s))
			joins(t, append(s, behind...), 3, 6, text, len(s))
			for _, b := range behind {
				joins(t, append(s[:len(s):len(s)], b), 3, 6, text, len(s))
			}
		}
	}
	for _, c := range []struct{ age, place, long int }{{1, 0, 112*last + 106}, {top, 0, 112 * last}, {1, last, 106}, {top, last, 0}, {top, 500, 112*523 + 100}, {1 << 31, 256, 5000}} {
		s := splits(t, c.age, c.place, letters(c.long))
		joins(t, s, c.age, c.place, letters(c.long), len(s))
		for i, x := range s {
			if a, p, _, is := frame.Get(x); !is || a != c.age || p != c.place+i || frame.Age(x) != c.age {
				t.Errorf("sector %d of %v: %d, %d, %v", i, c, a, p, is)
			}
		}
	}
}

// TestTorn: P11.4, of each number of bytes, and of stamps that are alike in some of their bytes.
func TestTorn(t *testing.T) {
	ages := []int{1, 2, 255, 256, 257, 511, 512, 1<<16 - 1, 1 << 16, 1<<16 + 255, 1<<24 - 1, 1 << 24, 1<<31 + 1, top - 256, top - 1, top}
	places := []int{0, 1, 255, 256, 257, last}
	var all []string
	for _, age := range ages {
		for _, place := range places {
			all = append(all, puts(t, age, place, letters(112)[:place%113]), puts(t, age, place, strings.Repeat("\xff", 112)))
		}
	}
	for _, a := range all {
		for _, b := range all {
			if a[:8] == b[:8] {
				continue
			}
			for n := range 129 {
				torn(t, a, b, n)
			}
		}
	}
}

// torn holds what begins by so many bytes of one sector, and ends by another one, against both.
func torn(t *testing.T, a, b string, n int) {
	t.Helper()
	s := a[:n] + b[n:]
	age, place, text, is := frame.Get(s)
	if is {
		whose := a
		if n < 64 {
			whose = b
		}
		x, y, z, _ := frame.Get(whose)
		if s != whose || age != x || place != y || text != z {
			t.Errorf("Get of %d bytes of %q, and of %q: %d, %d, %q", n, a, b, age, place, text)
		}
	} else if n == 0 || n == 128 || s == a || s == b {
		t.Errorf("Get of %d bytes of %q, and of %q: none", n, a, b)
	}
	if frame.Age(a) > frame.Age(b) && frame.Age(s) > frame.Age(a) {
		t.Errorf("Age of %d bytes of %q, and of %q: %d", n, a, b, frame.Age(s))
	}
}

// TestTornRecord: a record whose sectors were each torn somewhere is there only if all came to be.
func TestTornRecord(t *testing.T) {
	text := letters(200)
	s := splits(t, 6, 20, text)
	for _, old := range [][]string{{nul(128), nul(128)}, splits(t, 5, 20, letters(190)), splits(t, 3, 19, letters(190)), {"\x06" + nul(127), nul(127) + "\x01"}} {
		for i := range s {
			for n := range 129 {
				row := slices.Clone(s)
				row[i] = s[i][:n] + old[i][n:]
				if x, _, is := frame.Join(row, 6, 20); is != (row[i] == s[i]) || is && x != text {
					t.Errorf("Join with %d bytes of sector %d: %q, %v", n, i, x, is)
				}
			}
		}
	}
}

// TestNotThere: P11.5, of each of a record's sectors.
func TestNotThere(t *testing.T) {
	for _, long := range []int{0, 106, 107, 218, 219, 450} {
		s := splits(t, 5, 8, letters(long))
		joins(t, s, 5, 8, letters(long), len(s))
		for i := range s {
			_, _, has, _ := frame.Get(s[i])
			for _, other := range []string{
				"", "x", nul(128), s[i][:127], s[i] + "x", between(stamp(5, 8+i), has, stamp(5, 9+i)), between(stamp(5, 8+i), has, stamp(4, 8+i)),
				puts(t, 4, 8+i, has), puts(t, 6, 8+i, has), puts(t, 5+256, 8+i, has), puts(t, 5+1<<24, 8+i, has),
				puts(t, 5, 7+i, has), puts(t, 5, 9+i, has), puts(t, 5, 8+i+256, has), puts(t, 5, 0, has), puts(t, 5, last, has),
			} {
				loose(t, slices.Concat(s[:i], []string{other}, s[i+1:]), 5, 8)
				loose(t, slices.Concat(s[:i], []string{other}, s[i:]), 5, 8)
			}
			loose(t, slices.Delete(slices.Clone(s), i, i+1), 5, 8)
			loose(t, slices.Concat(s[:i], s[i+1:], splits(t, 5, 8+len(s), "abc")), 5, 8)
		}
	}
}

// TestBehindOneAnother: P11.6, of rows of records, from each of which on they are told as they stand.
func TestBehindOneAnother(t *testing.T) {
	texts := []string{"", letters(106), letters(107), "\x00", letters(219), letters(1), nul(218), strings.Repeat("\xff", 400), "end"}
	for from := range texts {
		for to := from; to <= len(texts); to++ {
			var row []string
			for _, text := range texts[from:to] {
				row = append(row, splits(t, 2, 100+len(row), text)...)
			}
			place := 100
			for _, text := range texts[from:to] {
				s, n, is := frame.Join(row, 2, place)
				if s != text || n != frame.Many(len(text)) || !is {
					t.Fatalf("Join at %d: %q, %d, %v; want %q", place, s, n, is, text)
				}
				row, place = row[n:], place+n
			}
			loose(t, row, 2, place)
		}
	}
}

// TestRows: P11.2, of all rows of up to four sectors out of some, against the chapter's words.
func TestRows(t *testing.T) {
	one, two, three := splits(t, 2, 0, "a"), splits(t, 2, 0, letters(150)), splits(t, 2, 1, letters(219))
	some := slices.Concat(one, two, three, splits(t, 1, 0, letters(107)), []string{
		"", nul(128), whole(2, 1, nul(112)), whole(2, 2, letters(112)), whole(2, 0, begins(3, 330)+letters(106)), whole(2, 0, begins(2, 200)), whole(2, 0, begins(2, 106)), whole(2, 0, nul(112)),
	})
	var row []string
	var goes func(n int)
	goes = func(n int) {
		for age := 0; age <= 2; age++ {
			for place := 0; place <= 2; place++ {
				s, m, is := plainJoin(row, age, place)
				if !is {
					s, m = "", 0
				}
				if x, k, ok := frame.Join(row, age, place); x != s || k != m || ok != is {
					t.Fatalf("Join(%q, %d, %d): %q, %d, %v; want %q, %d, %v", row, age, place, x, k, ok, s, m, is)
				}
			}
		}
		if n == 0 {
			return
		}
		for _, s := range some {
			row = append(row, s)
			goes(n - 1)
			row = row[:len(row)-1]
		}
	}
	goes(4)
}

// TestAnyBytes: P11.1 and R1, of sectors in each of whose bytes, and each two neighbours, stands whatever.
func TestAnyBytes(t *testing.T) {
	bytes := []byte{0, 1, 2, 3, 4, 5, 7, 8, 0x7f, 0x80, 0xff}
	for _, from := range []string{nul(128), whole(1, 0, "x"), whole(top, last, letters(112)), whole(1<<16, 256, begins(1, 3)+"abc")} {
		for at := range 128 {
			for _, c := range bytes {
				for _, d := range bytes {
					b := []byte(from)
					b[at] = c
					b[(at+120)%128] = d
					s := string(b)
					age, place, text, is := plainGet(s)
					if !is {
						none(t, s)
						continue
					}
					gets(t, s, age, place, text)
				}
			}
		}
	}
	if s, e := frame.Put(1, 0, string(bytes)); e != api.OK || len(s) != 128 {
		t.Errorf("Put: %q, %v", s, e)
	}
}
