package code_test

import (
	"fmt"
	"math"
	"strconv"
	"strings"
	"testing"

	"mailroom/api"
	"mailroom/code"
)

func TestExamplesOfTheChapter(t *testing.T) {
	if s := code.Hex("\x00\xab"); s != "00ab" {
		t.Errorf("Hex: %q", s)
	}
	unread(t, "Unhex", code.Unhex, "0A")
	if a, abc := code.Base64("a"), code.Base64("abc"); a != "YQ==" || abc != "YWJj" {
		t.Errorf("Base64: %q, %q", a, abc)
	}
	unread(t, "Unbase64", code.Unbase64, "YR==")
	if n, e := code.Num("10", 9); n != 0 || e != api.ErrTooLarge {
		t.Errorf("Num 10: %d, %v", n, e)
	}
	if n, e := code.Num("010", 99); n != 0 || e != api.ErrForm {
		t.Errorf("Num 010: %d, %v", n, e)
	}
	if s := code.Show(-5); s != "-5" {
		t.Errorf("Show: %q", s)
	}
}

type reader func(string) (string, api.Errno)

// unread wants that each text is refused, and nothing told beside the error.
func unread(t *testing.T, name string, read reader, texts ...string) {
	t.Helper()
	for _, s := range texts {
		if got, e := read(s); got != "" || e != api.ErrForm {
			t.Errorf("%s(%q): %q, %v; want ErrForm", name, s, got, e)
		}
	}
}

// isRead wants that text is read as s.
func isRead(t *testing.T, name string, read reader, text, s string) {
	t.Helper()
	if got, e := read(text); got != s || e != api.OK {
		t.Errorf("%s(%q): %q, %v; want %q", name, text, got, e, s)
	}
}

// samples are byte strings: all of none to two bytes, and longer ones of all lengths and all values.
func samples() []string {
	out := []string{""}
	for i := range 256 {
		out = append(out, string([]byte{byte(i)}))
		for j := range 256 {
			out = append(out, string([]byte{byte(i), byte(j)}))
		}
	}
	long := ""
	for i := range 600 {
		long += string([]byte{byte(i*i + i>>3)})
		out = append(out, long)
	}
	return append(out, strings.Repeat("\x00", 7), strings.Repeat("\xff", 8), strings.Repeat("\xfb\xf0", 5))
}

// signs are base64's, by the chapter's words: A to Z, a to z, 0 to 9, +, /.
func signs() string {
	s := ""
	for _, ends := range []string{"AZ", "az", "09"} {
		for c := ends[0]; c <= ends[1]; c++ {
			s += string(rune(c))
		}
	}
	return s + "+/"
}

// inBits writes each byte by eight digits 0 or 1.
func inBits(s string) string {
	out := ""
	for i := range len(s) {
		out += fmt.Sprintf("%08b", s[i])
	}
	return out
}

// plainBase64 is reckoned bit by bit: six of them a letter, those that are missing 0, and = up to four.
func plainBase64(s string) string {
	out, left, of := "", inBits(s), signs()
	for left != "" {
		six := (left + "00000")[:6]
		n, _ := strconv.ParseUint(six, 2, 8)
		out += of[n : n+1]
		left = left[min(6, len(left)):]
	}
	for len(out)%4 != 0 {
		out += "="
	}
	return out
}

// P2.1, P2.4, P2.5: what is written is as the words say, as long as it is to be, and is read as it was.
func TestHex(t *testing.T) {
	for _, s := range samples() {
		text := code.Hex(s)
		if want := fmt.Sprintf("%x", s); text != want {
			t.Fatalf("Hex(%q): %q; want %q", s, text, want)
		}
		if len(text) != 2*len(s) {
			t.Fatalf("Hex(%q): %d digits", s, len(text))
		}
		isRead(t, "Unhex", code.Unhex, text, s)
	}
}

func TestBase64(t *testing.T) {
	for _, s := range samples() {
		text := code.Base64(s)
		if want := plainBase64(s); text != want {
			t.Fatalf("Base64(%q): %q; want %q", s, text, want)
		}
		if len(text) != 4*((len(s)+2)/3) {
			t.Fatalf("Base64(%q): %d letters", s, len(text))
		}
		isRead(t, "Unbase64", code.Unbase64, text, s)
	}
}

func TestBase64WordByWord(t *testing.T) {
	for s, text := range map[string]string{
		"": "", "f": "Zg==", "fo": "Zm8=", "foo": "Zm9v", "foob": "Zm9vYg==", "fooba": "Zm9vYmE=", "foobar": "Zm9vYmFy",
		"\x00": "AA==", "\x00\x00": "AAA=", "\x00\x00\x00": "AAAA", "\xff": "/w==", "\xff\xff": "//8=", "\xff\xff\xff": "////", "\xfb\xef\xbe": "++++",
	} {
		if got := code.Base64(s); got != text {
			t.Errorf("Base64(%q): %q; want %q", s, got, text)
		}
		isRead(t, "Unbase64", code.Unbase64, text, s)
	}
}

// P2.1, P2.4: of all texts of two digits those are read that Hex writes.
func TestUnhexOfAllPairs(t *testing.T) {
	const digits = "0123456789abcdef"
	for i := range 256 {
		for j := range 256 {
			text := string([]byte{byte(i), byte(j)})
			upper, lower := strings.IndexByte(digits, byte(i)), strings.IndexByte(digits, byte(j))
			if upper < 0 || lower < 0 {
				unread(t, "Unhex", code.Unhex, text, "00"+text, text+"00")
				continue
			}
			isRead(t, "Unhex", code.Unhex, text, string([]byte{byte(16*upper + lower)}))
		}
	}
}

func TestUnhexOfWhatIsNone(t *testing.T) {
	unread(t, "Unhex", code.Unhex, "0", "a", "000", "g", "0g", "g0", "AB", "aB", "Ab", "0x00", " 00", "00 ", "0 0", "\n", "00\n", "-1", "é", "00\x00", "0\x00")
	for i := range 256 {
		unread(t, "Unhex", code.Unhex, string([]byte{byte(i)}), "ab"+string([]byte{byte(i)}))
	}
}

// P2.1, P2.4: a text with = is canonical, if it is what comes of one byte, or of two; of all other ones none is.
func TestUnbase64OfAllEnds(t *testing.T) {
	written := map[string]string{}
	for i := range 256 {
		one := string([]byte{byte(i)})
		written[plainBase64(one)] = one
		for j := range 256 {
			two := one + string([]byte{byte(j)})
			written[plainBase64(two)] = two
		}
	}
	of := signs() + "="
	read := 0
	for n := range len(of) * len(of) * len(of) {
		text := string([]byte{of[n/len(of)/len(of)], of[n/len(of)%len(of)], of[n%len(of)], '='})
		s, may := written[text]
		if !may {
			unread(t, "Unbase64", code.Unbase64, text)
			continue
		}
		isRead(t, "Unbase64", code.Unbase64, text, s)
		isRead(t, "Unbase64", code.Unbase64, "YWJj"+text, "abc"+s)
		unread(t, "Unbase64", code.Unbase64, text+"YWJj")
		read++
	}
	if read != 256+256*256 {
		t.Errorf("%d texts were read", read)
	}
}

func TestUnbase64OfWhatIsNoLetter(t *testing.T) {
	for i := range 256 {
		c := string([]byte{byte(i)})
		if strings.Contains(signs(), c) {
			isRead(t, "Unbase64", code.Unbase64, c+"A==", plainOne(t, c))
			continue
		}
		unread(t, "Unbase64", code.Unbase64, c+"AAA", "A"+c+"AA", "AA"+c+"A", "A"+c+"==", "AAAAAA"+c+"A", "AAAA"+c+"AA=")
		if c != "=" {
			unread(t, "Unbase64", code.Unbase64, "AAA"+c, "AA"+c+"=", "AA="+c, c)
		}
	}
}

// plainOne is the byte whose upper six bits are the letter's.
func plainOne(t *testing.T, letter string) string {
	t.Helper()
	return string([]byte{byte(strings.Index(signs(), letter) << 2)})
}

func TestUnbase64OfWhatIsNotWhole(t *testing.T) {
	unread(t, "Unbase64", code.Unbase64, "A", "AA", "AAA", "AAAAA", "AA=", "A=", "=", "==", "===", "====", "A===", "AAAA====", "AAAA=", "AAAA==",
		"YQ==YQ==", "YWI=YWI=", "YQ=a", "Y=Q=", "=YWJ", "YQ==\n", "YWJj\r\n", "YW\nJj", "\r\n\r\n", " YQ==", "YWJ-", "YWJ_", "YW==", "YWK=", "YWL=", "YQA=YQ==")
}

// P2.4: what is read, written, is the text.
func TestWhatIsReadWritten(t *testing.T) {
	for _, s := range samples()[60000:] {
		for _, text := range []string{s, code.Hex(s), code.Base64(s), strings.ToUpper(code.Hex(s)), strings.TrimRight(code.Base64(s), "=")} {
			if back, e := code.Unhex(text); e == api.OK && code.Hex(back) != text {
				t.Fatalf("Unhex(%q): %q", text, back)
			}
			if back, e := code.Unbase64(text); e == api.OK && code.Base64(back) != text {
				t.Fatalf("Unbase64(%q): %q", text, back)
			}
		}
	}
}

// P2.6.
func TestParts(t *testing.T) {
	s := "\x00\x01\xfe\xffmailroom\x80\x7f="
	for i := range len(s) + 1 {
		if got := code.Hex(s[:i]) + code.Hex(s[i:]); got != code.Hex(s) {
			t.Errorf("Hex, in parts at %d: %q", i, got)
		}
		same := code.Base64(s[:i])+code.Base64(s[i:]) == code.Base64(s)
		if same != (i%3 == 0 || i == len(s)) {
			t.Errorf("Base64, in parts at %d: %v", i, same)
		}
	}
}

// P2.2.
func TestShow(t *testing.T) {
	for n, text := range map[int]string{
		0: "0", 1: "1", 9: "9", 10: "10", 99: "99", 100: "100", 101: "101", 1000000: "1000000", -1: "-1", -9: "-9", -10: "-10", -100: "-100",
		math.MaxInt32: "2147483647", math.MinInt32: "-2147483648", math.MaxInt64: "9223372036854775807", math.MinInt64: "-9223372036854775808", -math.MaxInt64: "-9223372036854775807",
	} {
		if got := code.Show(n); got != text {
			t.Errorf("Show(%d): %q; want %q", n, got, text)
		}
	}
}

// isNum wants that a text is a number, with whatever most it may have, and with none that is less.
func isNum(t *testing.T, text string, n int) {
	t.Helper()
	for _, most := range []int{n, n + 1, math.MaxInt} {
		if got, e := code.Num(text, max(n, most)); got != n || e != api.OK {
			t.Errorf("Num(%q, %d): %d, %v; want %d", text, max(n, most), got, e, n)
		}
	}
	for _, most := range []int{n - 1, 0, -1, -n, math.MinInt} {
		if most >= n {
			continue
		}
		if got, e := code.Num(text, most); got != 0 || e != api.ErrTooLarge {
			t.Errorf("Num(%q, %d): %d, %v; want ErrTooLarge", text, most, got, e)
		}
	}
}

func TestNum(t *testing.T) {
	for n := range 1200 {
		isNum(t, fmt.Sprint(n), n)
	}
	ten := 1
	for range 18 {
		ten *= 10
		isNum(t, fmt.Sprint(ten-1), ten-1)
		isNum(t, fmt.Sprint(ten), ten)
		isNum(t, fmt.Sprint(ten+1), ten+1)
	}
	isNum(t, "9223372036854775806", math.MaxInt-1)
	isNum(t, "9223372036854775807", math.MaxInt)
}

func TestNumThatNoIntHolds(t *testing.T) {
	for _, text := range []string{"9223372036854775808", "9223372036854775810", "9999999999999999999", "10000000000000000000",
		"18446744073709551615", "18446744073709551616", "18446744073709551617", "36893488147419103232", "1" + strings.Repeat("0", 5000), strings.Repeat("9", 5000)} {
		for _, most := range []int{math.MaxInt, math.MaxInt - 1, 1, 0, -1, math.MinInt} {
			if n, e := code.Num(text, most); n != 0 || e != api.ErrTooLarge {
				t.Errorf("Num(%q, %d): %d, %v; want ErrTooLarge", text, most, n, e)
			}
		}
	}
}

// Wrong form is told ahead of a number too large, whatever most is.
func TestNumOfWhatIsNone(t *testing.T) {
	texts := []string{"", "-", "+", "-1", "-0", "+1", "00", "01", "007", "010", " 1", "1 ", "1\n", "1 0", "1.0", "1e3", "0x1", "1_000", "a", "1a", "a1", "/", ":", "1/", "1:", "\x00", "1\x00", "\xb1", "١",
		"-9223372036854775808", "09223372036854775808", "99999999999999999999x", "x99999999999999999999", "99999999999999999999 ", "0" + strings.Repeat("0", 5000)}
	for i := range 256 {
		if c := byte(i); c < '0' || c > '9' {
			texts = append(texts, string([]byte{c}), string([]byte{'1', c}), string([]byte{c, '1'}), string([]byte{'1', c, '1'}))
		}
	}
	for _, text := range texts {
		for _, most := range []int{math.MaxInt, 99, 9, 1, 0, -1, math.MinInt} {
			if n, e := code.Num(text, most); n != 0 || e != api.ErrForm {
				t.Errorf("Num(%q, %d): %d, %v; want ErrForm", text, most, n, e)
			}
		}
	}
}

// P2.4: numbers, there and back.
func TestNumbersBack(t *testing.T) {
	for _, n := range numbers() {
		text := code.Show(n)
		got, e := code.Num(text, n)
		if got != n || e != api.OK {
			t.Errorf("%d: %q: %d, %v", n, text, got, e)
		}
		if code.Show(got) != text {
			t.Errorf("%q: %q", text, code.Show(got))
		}
	}
}

// numbers are some from 0 on, among them those at which a text gets longer.
func numbers() []int {
	var out []int
	for n := range 120 {
		out = append(out, n)
	}
	for n := 128; n < math.MaxInt/9; n = n * 9 / 2 {
		out = append(out, n-1, n, n+1)
	}
	for n := 1000; n < math.MaxInt/10; n *= 10 {
		out = append(out, n-1, n, n+1)
	}
	return append(out, math.MaxInt-1, math.MaxInt)
}

// P2.7.
func TestNumbersByTheirTexts(t *testing.T) {
	for _, a := range numbers() {
		for _, b := range numbers() {
			x, y := code.Show(a), code.Show(b)
			less := len(x) < len(y) || len(x) == len(y) && x < y
			if less != (a < b) {
				t.Fatalf("%d, %d: %q, %q", a, b, x, y)
			}
		}
	}
}
