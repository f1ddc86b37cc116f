package tlsa_test

import (
	"encoding/hex"
	"regexp"
	"strconv"
	"strings"
	"testing"

	"mailroom/api"
	"mailroom/every"
	"mailroom/tlsa"
)

// textForm is that of a record's text: numbers without a 0 in front, and Data, or a - for none.
var textForm = regexp.MustCompile(`\A(0|[1-9][0-9]{0,2}) (0|[1-9][0-9]{0,2}) (0|[1-9][0-9]{0,2}) (-|(?:[0-9a-f]{2})+)\z`)

// wanted tells by the chapter's words what a text is to be parsed as.
func wanted(s string) (api.TLSA, api.Errno) {
	m := textForm.FindStringSubmatch(s)
	if m == nil {
		return api.TLSA{}, 4
	}
	var n [3]uint8
	for i := range n {
		v, err := strconv.ParseUint(m[i+1], 10, 8)
		if err != nil {
			return api.TLSA{}, 4
		}
		n[i] = uint8(v)
	}
	data, _ := hex.DecodeString(strings.TrimPrefix(m[4], "-"))
	return record(n[0], n[1], n[2], string(data)), 0
}

// parses wants what a text is parsed as, and that it is what the words say; and what is parsed, shown, is the text.
func parses(t *testing.T, s string, want api.TLSA, wantE api.Errno) {
	t.Helper()
	got, e := tlsa.Parse(s)
	if got != want || e != wantE {
		t.Errorf("Parse(%q): %#v, %v; want %#v, %v", s, got, e, want, wantE)
	}
	if r, e := wanted(s); r != want || e != wantE {
		t.Errorf("by the words %q is %#v, %v; not %#v, %v", s, r, e, want, wantE)
	}
	if wantE == 0 && tlsa.Show(got) != s {
		t.Errorf("Show of what %q was parsed as: %q", s, tlsa.Show(got))
	}
}

// parsesAsWords wants what the words say.
func parsesAsWords(t *testing.T, s string) {
	t.Helper()
	r, e := wanted(s)
	parses(t, s, r, e)
}

// shows wants a record's text, and that it is parsed as that record.
func shows(t *testing.T, r api.TLSA, want string) {
	t.Helper()
	if got := tlsa.Show(r); got != want {
		t.Errorf("Show(%#v): %q; want %q", r, got, want)
	}
	parses(t, want, r, 0)
}

// TestShow: P16.2 and P16.7: texts at the ends of numbers, with no Data, and with some.
func TestShow(t *testing.T) {
	shows(t, api.TLSA{}, "0 0 0 -")
	shows(t, record(255, 255, 255, ""), "255 255 255 -")
	shows(t, record(3, 1, 1, "\xab\xab"), "3 1 1 abab")
	shows(t, record(1, 2, 3, "\x00"), "1 2 3 00")
	shows(t, record(9, 10, 99, "\xff"), "9 10 99 ff")
	shows(t, record(100, 101, 254, "-"), "100 101 254 2d")
	shows(t, record(2, 0, 0, "\x01\x23\x45\x67\x89\xab\xcd\xef"), "2 0 0 0123456789abcdef")
	shows(t, record(3, 0, 0, " "), "3 0 0 20")
}

// TestShowOfAllNumbers: P16.2 and P16.7: each number, at each place.
func TestShowOfAllNumbers(t *testing.T) {
	for n := range 256 {
		b, s := uint8(n), strconv.Itoa(n)
		for data, text := range map[string]string{"": "-", "\x00": "00", "\xde\xad": "dead"} {
			shows(t, record(b, 1, 2, data), s+" 1 2 "+text)
			shows(t, record(1, b, 2, data), "1 "+s+" 2 "+text)
			shows(t, record(1, 2, b, data), "1 2 "+s+" "+text)
			shows(t, record(b, b, b, data), s+" "+s+" "+s+" "+text)
		}
	}
}

// TestShowOfData: P16.2 and P16.7: each byte, and each length at which something may change; whether a record is usable does not count.
func TestShowOfData(t *testing.T) {
	for n := range 256 {
		data := string([]byte{byte(n)})
		shows(t, record(3, 1, 0, data), "3 1 0 "+hex.EncodeToString([]byte(data)))
		data = "a" + data + "\x00"
		shows(t, record(3, 1, 0, data), "3 1 0 "+hex.EncodeToString([]byte(data)))
	}
	for _, n := range lengths()[1:] {
		data := strings.Repeat("\xc3\x0f", n)[:n]
		for match := range uint8(3) {
			shows(t, record(2, 1, match, data), "2 1 "+strconv.Itoa(int(match))+" "+hex.EncodeToString([]byte(data)))
		}
	}
}

// TestParse: P16.2: texts that are nearly one.
func TestParse(t *testing.T) {
	for _, s := range []string{
		"", " ", "-", "3", "3 1", "3 1 1", "3 1 1 ", "3 1 1  ", "3 1 -", "3 - 1 1", "- - - -", "   -", "   ", "    ",
		"3 1 1 AB", "3 1 1 aB", "3 1 1 abAB", "3 1 1 ABAB", "3 1 1 0X", "3 1 1 0xab",
		"3  1 1 abab", "3 1  1 abab", "3 1 1  abab", " 3 1 1 abab", "3 1 1 abab ", "3 1 1 ab ab", "3 1 1 - ", " 3 1 1 -", "3 1 1 - -", "3 1 1 -ab", "3 1 1 ab-", "3 1 1 --",
		"03 1 1 abab", "3 01 1 abab", "3 1 01 abab", "00 1 1 -", "3 00 1 -", "3 1 00 -", "003 1 1 -", "0255 1 1 -",
		"3 1 1 a", "3 1 1 aba", "3 1 1 0", "3 1 1 abababa",
		"256 1 1 -", "3 256 1 -", "3 1 256 -", "999 1 1 -", "1000 1 1 -", "65536 1 1 -", "4294967299 1 1 -", "18446744073709551619 1 1 -", "3 18446744073709551617 1 -", "3 1 99999999999999999999999999 -",
		"-1 1 1 -", "3 -1 1 -", "3 1 -1 -", "+3 1 1 -", "-0 1 1 -", "3. 1 1 -", "3e0 1 1 -", "0x3 1 1 -", "a 1 1 -", "3 b 1 -", "3 1 c -", "３ 1 1 -",
		"3\t1\t1\tabab", "3 1 1\tabab", "3,1,1,abab", "3 1 1 abab\n", "3 1 1 abab\x00", "\x003 1 1 abab", "3\u00a01 1 abab", "3 1 1 abab\r\n", "3 1 1 gg", "3 1 1 é", "3 1 1 –",
	} {
		parses(t, s, api.TLSA{}, 4)
	}
}

// TestParseOfAllBytes: P16.2: each byte at each place of some texts, in place of what stands there, and ahead of it.
func TestParseOfAllBytes(t *testing.T) {
	for _, s := range []string{"3 1 1 abab", "255 0 10 -", "0 25 9 00"} {
		for i := range len(s) + 1 {
			for n := range 256 {
				b := string([]byte{byte(n)})
				parsesAsWords(t, s[:i]+b+s[i:])
				if i < len(s) {
					parsesAsWords(t, s[:i]+b+s[i+1:])
				}
			}
			parsesAsWords(t, s[:i])
			parsesAsWords(t, s[i:])
			if i < len(s) {
				parsesAsWords(t, s[:i]+s[i+1:])
			}
		}
	}
}

// TestParseOfShortTexts: P16.2 and P16.7: all texts of up to so many of these signs.
func TestParseOfShortTexts(t *testing.T) {
	for signs, most := range map[string]int{" 02-a": 7, " 2-": 10, " 0f": 10} {
		many := 0
		for n := range most + 1 {
			for l := range every.Row(strings.Split(signs, ""), n) {
				s := strings.Join(l, "")
				parsesAsWords(t, s)
				if _, e := wanted(s); e == 0 {
					many++
				}
			}
		}
		if many == 0 {
			t.Errorf("of %q there was no record's text", signs)
		}
	}
}

// TestParseOfNumbers: P16.2: all numbers up to some above the last one, with a 0 in front, and without.
func TestParseOfNumbers(t *testing.T) {
	for n := range 1100 {
		s := strconv.Itoa(n)
		parsesAsWords(t, s+" 1 1 -")
		parsesAsWords(t, "3 "+s+" 1 -")
		parsesAsWords(t, "3 1 "+s+" -")
		parsesAsWords(t, "3 1 1 "+s)
		parses(t, "0"+s+" 1 1 -", api.TLSA{}, 4)
		parses(t, "3 0"+s+" 1 -", api.TLSA{}, 4)
		parses(t, "3 1 0"+s+" -", api.TLSA{}, 4)
	}
}

// TestParseOfGreatTexts: R1: great inputs come to an end.
func TestParseOfGreatTexts(t *testing.T) {
	const n = 1 << 21
	for _, s := range []string{strings.Repeat(" ", n), strings.Repeat("9", n), strings.Repeat("3 ", n), strings.Repeat("3 1 1 -", n), "3 1 1 " + strings.Repeat("a", n+1), "3 1 1 " + strings.Repeat("g", n), strings.Repeat("0", n) + " 1 1 -", strings.Repeat("-", n)} {
		if r, e := tlsa.Parse(s); r != (api.TLSA{}) || e != 4 {
			t.Errorf("Parse of %d bytes from %q on: %d bytes of Data, %v", len(s), s[:8], len(r.Data), e)
		}
	}
	r, e := tlsa.Parse("3 1 0 " + strings.Repeat("61", n))
	if r != record(3, 1, 0, strings.Repeat("a", n)) || e != 0 {
		t.Error("a text of much Data:", len(r.Data), e)
	}
	if s := tlsa.Show(r); s != "3 1 0 "+strings.Repeat("61", n) {
		t.Error("much Data, shown:", len(s))
	}
}
