package der_test

import (
	"strings"
	"testing"

	"mailroom/api"
	"mailroom/der"
)

// letters is a text of so many bytes, no two neighbours the same.
func letters(n int) string {
	const some = "abcdefghijklmnopqrstuvw"
	return strings.Repeat(some, n/len(some)+1)[:n]
}

// form is how a length is written, by the chapter's words.
func form(n int) string {
	switch {
	case n <= 127:
		return string([]byte{byte(n)})
	case n <= 255:
		return string([]byte{0x81, byte(n)})
	}
	return string([]byte{0x82, byte(n / 256), byte(n % 256)})
}

// bytesOf is a thing's bytes, put together by hand.
func bytesOf(tag byte, s string) string {
	return string([]byte{tag}) + form(len(s)) + s
}

// isTag tells by the chapter's words whether there is such a tag: that it is none by eight of them.
func isTag(tag byte) bool {
	return strings.IndexByte("\x1f\x3f\x5f\x7f\x9f\xbf\xdf\xff", tag) < 0
}

// puts holds a thing's bytes against what they are to be, and tells them.
func puts(t *testing.T, tag byte, s string) string {
	t.Helper()
	got, e := der.Put(der.Item{Tag: tag, S: s})
	if want := bytesOf(tag, s); got != want || e != api.OK {
		t.Errorf("Put(%02x, %d bytes): %.10x (%d), %v; want %.10x (%d)", tag, len(s), got, len(got), e, want, len(want))
	}
	return got
}

// putsNone wants that a thing is refused, and nothing told beside the error.
func putsNone(t *testing.T, tag byte, s string, want api.Errno) {
	t.Helper()
	if got, e := der.Put(der.Item{Tag: tag, S: s}); got != "" || e != want {
		t.Errorf("Put(%02x, %d bytes): %.10x, %v; want %v", tag, len(s), got, e, want)
	}
}

// gets holds what a text begins by against what is to be told.
func gets(t *testing.T, text string, tag byte, s, rest string) {
	t.Helper()
	x, left, e := der.Get(text)
	if x.Tag != tag || x.S != s || left != rest || e != api.OK {
		t.Errorf("Get(%.10x (%d)): %02x, %d bytes, %d behind, %v; want %02x, %d, %d", text, len(text), x.Tag, len(x.S), len(left), e, tag, len(s), len(rest))
	}
}

// getsNone wants that a text begins by no thing, and nothing told beside the error.
func getsNone(t *testing.T, text string, want api.Errno) {
	t.Helper()
	if x, rest, e := der.Get(text); x != (der.Item{}) || rest != "" || e != want {
		t.Errorf("Get(%.10x (%d)): %v, %d behind, %v; want %v", text, len(text), x, len(rest), e, want)
	}
}

// TestExamples: those of the chapter.
func TestExamples(t *testing.T) {
	for _, c := range []struct {
		long  int
		begin string
	}{{2, "\x04\x02"}, {128, "\x04\x81\x80"}, {256, "\x04\x82\x01\x00"}} {
		got, e := der.Put(der.Item{Tag: 4, S: letters(c.long)})
		if got != c.begin+letters(c.long) || e != api.OK {
			t.Errorf("Put of %d bytes: %x, %v", c.long, got, e)
		}
	}
	for text, want := range map[string]api.Errno{
		"\x04\x81\x7f": api.ErrForm, "\x04\x80": api.ErrForm, "\x1f\x00": api.ErrForm,
		"\x04\x03a": api.ErrShort, "\x04": api.ErrShort,
	} {
		getsNone(t, text, want)
	}
	for n, s := range map[int]string{0: "\x00", 127: "\x7f", 128: "\x00\x80", -1: "\xff", -129: "\xff\x7f"} {
		if got := der.Int(n); got != s {
			t.Errorf("Int(%d): %x; want %x", n, got, s)
		}
	}
	readsNoInt(t, "\x00\x7f")
	readsNoInt(t, "")
	if yes, no := der.Bool(true), der.Bool(false); yes != "\xff" || no != "\x00" {
		t.Errorf("Bool: %x, %x", yes, no)
	}
	readsNoBool(t, "\x01")
}

// TestConstants: the chapter's numbers.
func TestConstants(t *testing.T) {
	if der.MaxLong != 65535 || der.MaxItems != 64 {
		t.Errorf("MaxLong %d, MaxItems %d", der.MaxLong, der.MaxItems)
	}
}

// TestTags: P13.1, of all bytes, those that are none, and others.
func TestTags(t *testing.T) {
	for i := range 256 {
		tag := byte(i)
		for _, s := range []string{"", "\x00", letters(127), letters(128), letters(256)} {
			if isTag(tag) {
				gets(t, puts(t, tag, s), tag, s, "")
				gets(t, bytesOf(tag, s)+"\xff", tag, s, "\xff")
				continue
			}
			putsNone(t, tag, s, api.ErrForm)
			getsNone(t, bytesOf(tag, s), api.ErrForm)
		}
		if isTag(tag) {
			getsNone(t, string([]byte{tag}), api.ErrShort)
		} else {
			getsNone(t, string([]byte{tag}), api.ErrForm)
		}
	}
}

// TestNoSuchTag: the eight kinds, each with those next to it.
func TestNoSuchTag(t *testing.T) {
	for kind := range 8 {
		tag := byte(kind<<5 | 31)
		putsNone(t, tag, "", api.ErrForm)
		getsNone(t, bytesOf(tag, ""), api.ErrForm)
		for _, next := range []byte{tag - 1, tag + 1} {
			gets(t, puts(t, next, "x"), next, "x", "")
		}
	}
}

// TestLengths: P13.1, of values of each form, and at its ends.
func TestLengths(t *testing.T) {
	for long := range 1200 {
		gets(t, puts(t, 0x30, letters(long)), 0x30, letters(long), "")
	}
	for _, long := range []int{2047, 2048, 4095, 4096, 32767, 32768, 65279, 65280, 65534, 65535} {
		gets(t, puts(t, 0xfe, letters(long)), 0xfe, letters(long), "")
	}
}

// TestTooLong: a value that is longer than MaxLong; which error is first, where there is no such tag either.
func TestTooLong(t *testing.T) {
	for _, long := range []int{65536, 65537, 65536 + 127, 65536 + 255, 1 << 17, 1 << 24} {
		value := letters(long)
		for i := range 256 {
			want := api.ErrTooLarge
			if !isTag(byte(i)) {
				want = api.ErrForm
			}
			putsNone(t, byte(i), value, want)
		}
	}
	for kind := range 8 {
		putsNone(t, byte(kind<<5|31), letters(der.MaxLong), api.ErrForm)
	}
}

// TestGetOfNothing: no bytes, and a tag alone.
func TestGetOfNothing(t *testing.T) {
	getsNone(t, "", api.ErrShort)
	getsNone(t, "\x00", api.ErrShort)
	getsNone(t, "\x04", api.ErrShort)
	getsNone(t, "\x1f", api.ErrForm)
	getsNone(t, "\xff", api.ErrForm)
}

// TestFormsOfLengths: lengths that are cut, that a lesser form tells, that are in no form at all.
func TestFormsOfLengths(t *testing.T) {
	for text, want := range map[string]api.Errno{
		"\x81":             api.ErrShort,
		"\x81\x00":         api.ErrForm,
		"\x81\x01a":        api.ErrForm,
		"\x81\x7f":         api.ErrForm,
		"\x81\x80":         api.ErrShort,
		"\x81\xff":         api.ErrShort,
		"\x82":             api.ErrShort,
		"\x82\x01":         api.ErrShort,
		"\x82\xff":         api.ErrShort,
		"\x82\x01\x00":     api.ErrShort,
		"\x82\xff\xff":     api.ErrShort,
		"\x82\x00":         api.ErrForm, // whatever comes behind it
		"\x82\x00\x00":     api.ErrForm,
		"\x82\x00\x01a":    api.ErrForm,
		"\x82\x00\x7f":     api.ErrForm,
		"\x82\x00\x80":     api.ErrForm,
		"\x82\x00\xff":     api.ErrForm,
		"\x80":             api.ErrForm,
		"\x80a\x00\x00":    api.ErrForm,
		"\x83":             api.ErrForm,
		"\x83\x01\x00\x00": api.ErrForm,
		"\x84":             api.ErrForm,
		"\x84\x00\x00\x00": api.ErrForm,
		"\xff":             api.ErrForm,
		"\xff\xff\xff\xff": api.ErrForm,
		"\x01":             api.ErrShort,
		"\x7f":             api.ErrShort,
	} {
		getsNone(t, "\x04"+text, want)
		getsNone(t, "\x1f"+text, api.ErrForm)
	}
	for _, text := range []string{"\x81\x7f" + letters(127), "\x81\x00", "\x82\x00\xff" + letters(255), "\x82\x00\x80" + letters(128), "\x82\x00\x7f" + letters(127), "\x82\x00\x00", "\x80", "\x80" + letters(128), "\x83\x00\x01\x00" + letters(256), "\x83\x01\x00\x00" + letters(65536)} {
		getsNone(t, "\x04"+text, api.ErrForm)
		getsNone(t, "\x04"+text+letters(300), api.ErrForm)
	}
}

// TestCutValues: a value that is cut at each of its bytes, or of which nothing is missing.
func TestCutValues(t *testing.T) {
	for _, long := range []int{0, 1, 2, 127, 128, 129, 255, 256, 257, 700} {
		whole := bytesOf(0x30, letters(long))
		for cut := range len(whole) {
			getsNone(t, whole[:cut], api.ErrShort)
		}
		gets(t, whole, 0x30, letters(long), "")
	}
	for _, long := range []int{65279, 65280, 65535} {
		whole := bytesOf(0x30, letters(long))
		for _, missing := range []int{1, 2, 255, 256, 257, 4096, long - 1, long, long + 1, long + 2, long + 3} {
			getsNone(t, whole[:len(whole)-missing], api.ErrShort)
		}
	}
}

// TestBehind: a thing with whatever stands behind it.
func TestBehind(t *testing.T) {
	behind := []string{"", "\x00", "\x04", "\x1f", "\xff", "\x04\x00", "\x04\x80", "\x1f\x00", letters(3), letters(70000)}
	for _, long := range []int{0, 1, 127, 128, 255, 256, 65535} {
		for _, b := range behind {
			gets(t, bytesOf(0x04, letters(long))+b, 0x04, letters(long), b)
		}
	}
}

// TestBool: P13.2, of texts of no byte, of one, and of two.
func TestBool(t *testing.T) {
	for _, b := range []bool{true, false} {
		if got, e := der.ReadBool(der.Bool(b)); got != b || e != api.OK {
			t.Errorf("ReadBool(Bool(%v)): %v, %v", b, got, e)
		}
	}
	readsNoBool(t, "")
	for i := range 256 {
		s := string([]byte{byte(i)})
		if i > 0 && i < 255 {
			readsNoBool(t, s)
		}
		for j := range 256 {
			readsNoBool(t, s+string([]byte{byte(j)}))
		}
	}
	for _, s := range []string{"\x00\x00\x00", "\xff\xff\xff", "true", "false", letters(70000)} {
		readsNoBool(t, s)
	}
}

// readsNoBool wants that a value tells no truth value.
func readsNoBool(t *testing.T, s string) {
	t.Helper()
	if b, e := der.ReadBool(s); b || e != api.ErrForm {
		t.Errorf("ReadBool(%.10x): %v, %v; want ErrForm", s, b, e)
	}
}
