package reply_test

import (
	"math"
	"regexp"
	"slices"
	"strconv"
	"strings"
	"testing"

	"mailroom/api"
	"mailroom/every"
	"mailroom/reply"
)

// The chapter's words, as patterns: a line with its number, what stands behind that, and its text; and a text that begins by a status.
var (
	lineOnly   = regexp.MustCompile(`^([2-5][0-5][0-9])(?:([ -])([\t -~]*))?$`)
	statusOnly = regexp.MustCompile(`^(([245])\.(?:0|[1-9][0-9]{0,2})\.(?:0|[1-9][0-9]{0,2}))(?: |$)`)
)

// plainly tells by the chapter's words alone what line s is.
func plainly(s string) (code int, more bool, text string, is bool) {
	m := lineOnly.FindStringSubmatch(s)
	if m == nil {
		return 0, false, "", false
	}
	code, _ = strconv.Atoi(m[1])
	return code, m[2] == "-", m[3], true
}

// statusOf tells by the chapter's words alone what status a last line's text begins by.
func statusOf(code int, text string) string {
	m := statusOnly.FindStringSubmatch(text)
	if m == nil || m[2] != strconv.Itoa(code)[:1] {
		return ""
	}
	return m[1]
}

// many is n texts, no two the same.
func many(n int) []string {
	var out []string
	for i := range n {
		out = append(out, "text "+strconv.Itoa(i))
	}
	return out
}

// numbers are all that may be a reply's.
func numbers() []int {
	var out []int
	for a := 2; a <= 5; a++ {
		for b := 0; b <= 5; b++ {
			for c := 0; c <= 9; c++ {
				out = append(out, 100*a+10*b+c)
			}
		}
	}
	return out
}

// is holds what Parse tells of s against the chapter's words.
func is(t *testing.T, s string) {
	t.Helper()
	code, more, text, e := reply.Parse(s)
	wantCode, wantMore, wantText, may := plainly(s)
	want := api.OK
	if !may {
		want = api.ErrForm
	}
	if code != wantCode || more != wantMore || text != wantText || e != want {
		t.Errorf("Parse(%q): %d, %v, %q, %v; want %d, %v, %q, %v", s, code, more, text, e, wantCode, wantMore, wantText, want)
	}
	// A reader takes for a line just what Parse does.
	r := reply.New()
	done, e := r.Line(s)
	if done != (may && !wantMore) || e != want || r.Dead() == may {
		t.Errorf("Line(%q): %v, %v; Dead %v", s, done, e, r.Dead())
	}
}

// none wants that no text is a reply's line.
func none(t *testing.T, texts ...string) {
	t.Helper()
	for _, s := range texts {
		if _, _, _, e := reply.Parse(s); e != api.ErrForm {
			t.Errorf("Parse(%q): %v; want ErrForm", s, e)
		}
		is(t, s)
	}
}

// line hands one to a reader, and holds what it answers against what is wanted.
func line(t *testing.T, r *reply.Reader, s string, done bool, e api.Errno) {
	t.Helper()
	if d, got := r.Line(s); d != done || got != e {
		t.Errorf("Line(%q): %v, %v; want %v, %v", s, d, got, done, e)
	}
	if r.Dead() != (e != api.OK) {
		t.Errorf("Line(%q): Dead %v", s, r.Dead())
	}
}

// whole hands a reply's lines to a reader, of which just the last one is to make it whole.
func whole(t *testing.T, r *reply.Reader, lines ...string) {
	t.Helper()
	for i, s := range lines {
		line(t, r, s, i == len(lines)-1, api.OK)
	}
}

// take wants that a reader has this reply, and has it once.
func take(t *testing.T, r *reply.Reader, code int, status string, lines ...string) {
	t.Helper()
	x, ok := r.Take()
	if !ok || x.Code != code || x.Status != status || !slices.Equal(x.Lines, lines) {
		t.Errorf("Take: %v, %v; want %d, %q, %q", x, ok, code, status, lines)
	}
	nothing(t, r)
}

// nothing wants that there is no reply to be taken.
func nothing(t *testing.T, r *reply.Reader) {
	t.Helper()
	if x, ok := r.Take(); ok || x.Code != 0 || x.Status != "" || x.Lines != nil {
		t.Errorf("Take: %v, %v; want nothing", x, ok)
	}
}

// made is the reply that these lines make in a new reader.
func made(t *testing.T, lines ...string) reply.Reply {
	t.Helper()
	r := reply.New()
	whole(t, r, lines...)
	x, ok := r.Take()
	if !ok {
		t.Errorf("%q: no reply", lines)
	}
	return x
}

func TestExamplesOfTheChapter(t *testing.T) {
	r := reply.New()
	whole(t, r, "250-mx.example", "250 2.1.0 hi")
	take(t, r, 250, "2.1.0", "mx.example", "2.1.0 hi")
	whole(t, r, "250")
	take(t, r, 250, "", "")
	none(t, "150 x", "260 x", "25 x", "250x")
	line(t, r, "250-a", false, api.OK)
	line(t, r, "251 b", false, api.ErrForm)
	whole(t, reply.New(), "251 b")
	if x := made(t, "550 5.1.1.2 no"); x.Status != "" {
		t.Errorf("a status of three dots: %q", x.Status)
	}
	if x := made(t, "450 2.0.0 x"); x.Status != "" {
		t.Errorf("a status of another class: %q", x.Status)
	}
}

// P5.1, and the words: a reply's line.
func TestParse(t *testing.T) {
	for _, x := range []struct {
		s    string
		code int
		more bool
		text string
	}{
		{"250", 250, false, ""},
		{"250 ", 250, false, ""},
		{"250-", 250, true, ""},
		{"250 a", 250, false, "a"},
		{"250-a", 250, true, "a"},
		{"250  a ", 250, false, " a "},
		{"250 -a", 250, false, "-a"},
		{"250- a", 250, true, " a"},
		{"250--", 250, true, "-"},
		{"250 251 x", 250, false, "251 x"},
		{"200 x", 200, false, "x"},
		{"209 x", 209, false, "x"},
		{"354 go on", 354, false, "go on"},
		{"421-later", 421, true, "later"},
		{"559 \t~", 559, false, "\t~"},
	} {
		code, more, text, e := reply.Parse(x.s)
		if code != x.code || more != x.more || text != x.text || e != api.OK {
			t.Errorf("Parse(%q): %d, %v, %q, %v", x.s, code, more, text, e)
		}
		is(t, x.s)
	}
	none(t, "", "2", "25", "2 ", "25 ", "25-", "25 0", "2 50", " 250", " 250 a", "-250", "+250", "0250", "2500", "250a", "250\t", "250\ta", "250\r\n", "250 a\r\n", "250 a\r", "250 a\n", "250\x00", "250 é", "250 \x7f", "２５０", "2５0", "abc", "2.5", "0xf", "2e2", "1e2 a")
}

func TestParseOfShortTexts(t *testing.T) {
	found := 0
	for _, s := range every.Text(6, "2", "5", "6", "0", "-", " ", "a") {
		if _, _, _, may := plainly(s); may {
			found++
		}
		is(t, s)
	}
	if found < 1000 {
		t.Errorf("%d lines among the short texts", found)
	}
}

func TestParseOfAllNumbers(t *testing.T) {
	found := 0
	for i := range 1000 {
		number := strconv.Itoa(1000 + i)[1:]
		for _, behind := range []string{"", " ", "-", " a", "-a", "a", "0", "0 a"} {
			is(t, number+behind)
		}
		if _, _, _, e := reply.Parse(number); e == api.OK {
			found++
		}
	}
	if found != 4*6*10 {
		t.Errorf("%d numbers", found)
	}
}

func TestParseByTheByte(t *testing.T) {
	for i := range 256 {
		c := string([]byte{byte(i)})
		for place := range len("354 a") {
			for _, s := range []string{"354 a", "205-a", "550 \t"} {
				is(t, s[:place]+c+s[place+1:])
				is(t, s[:place]+c)
			}
		}
		for _, s := range []string{c, c + c, c + c + c, c + "250", "250" + c, "250 " + c, "250-" + c, "250 a" + c + "b", "250-a" + c, "250 " + strings.Repeat("a", 600) + c} {
			is(t, s)
		}
		may := i == '\t' || i >= 32 && i <= 126
		if _, _, text, e := reply.Parse("250 a" + c); (e == api.OK) != may || may && text != "a"+c {
			t.Errorf("byte %d in a text: %q, %v", i, text, e)
		}
	}
}

// P5.1: what a reader tells.
func TestReader(t *testing.T) {
	r := reply.New()
	if r == nil || r.Dead() {
		t.Fatal("New: nil, or dead")
	}
	nothing(t, r)
	whole(t, r, "220 mx.example ready")
	take(t, r, 220, "", "mx.example ready")
	whole(t, r, "250-mx.example", "250-SIZE", "250-", "250 PIPELINING")
	take(t, r, 250, "", "mx.example", "SIZE", "", "PIPELINING")
	whole(t, r, "354")
	take(t, r, 354, "", "")
	whole(t, r, "221 ")
	take(t, r, 221, "", "")
	whole(t, r, "550-", "550")
	take(t, r, 550, "", "", "")
}

func TestTakeBetweenReplies(t *testing.T) {
	r := reply.New()
	nothing(t, r)
	line(t, r, "250-a", false, api.OK)
	nothing(t, r)
	line(t, r, "250 b", true, api.OK)
	line(t, r, "451-c", false, api.OK) // the one ahead is there, till this one is whole
	take(t, r, 250, "", "a", "b")
	line(t, r, "451 4.0.0 d", true, api.OK)
	take(t, r, 451, "4.0.0", "c", "4.0.0 d")

	whole(t, r, "250 first")
	whole(t, r, "550-second", "550 one")
	take(t, r, 550, "", "second", "one") // the first one is gone

	whole(t, r, "250 first")
	line(t, r, "250-second", false, api.OK)
	line(t, r, "250-second", false, api.OK)
	take(t, r, 250, "", "first")
	line(t, r, "250 second", true, api.OK)
	take(t, r, 250, "", "second", "second", "second")
}

func TestAsManyLinesAsMayBe(t *testing.T) {
	for _, n := range []int{1, 2, 31, 32} {
		r := reply.New()
		texts := many(n)
		for range 2 { // the count begins anew with each reply
			whole(t, r, reply.Show(reply.Reply{Code: 250, Lines: texts})...)
			take(t, r, 250, "", texts...)
		}
	}
	for _, x := range []struct {
		s string
		e api.Errno
	}{
		{"250 x", api.ErrTooLarge}, {"250-x", api.ErrTooLarge}, {"250", api.ErrTooLarge},
		{"251 x", api.ErrForm}, {"250x", api.ErrForm}, {"", api.ErrForm}, // this is looked at first
	} {
		r := reply.New()
		whole(t, r, "220 ahead")
		for range 32 {
			line(t, r, "250-x", false, api.OK)
		}
		line(t, r, x.s, false, x.e)
		line(t, r, "250 x", false, api.ErrState)
		take(t, r, 220, "", "ahead")
	}
}

func TestNil(t *testing.T) {
	var r *reply.Reader
	for _, s := range []string{"250 a", "250-a", "", "x"} {
		if done, e := r.Line(s); done || e != api.ErrNil {
			t.Errorf("Line(%q): %v, %v", s, done, e)
		}
	}
	r.Reset()
	nothing(t, r)
	if r.Dead() || r.Copy() != nil {
		t.Error("nil tells something")
	}
}

// R1: a reader that New did not make ends each call, too.
func TestNotMade(t *testing.T) {
	r := new(reply.Reader)
	nothing(t, r.Copy())
	r.Line("250-a")
	r.Line("250 b")
	r.Take()
	r.Line("x")
	r.Line("250 b")
	r.Copy().Reset()
	r.Reset()
	nothing(t, r)
}

func TestReset(t *testing.T) {
	r := reply.New()
	line(t, r, "250-a", false, api.OK)
	r.Reset()
	whole(t, r, "550 b") // another number: nothing has come
	take(t, r, 550, "", "b")

	for range 32 {
		line(t, r, "250-a", false, api.OK)
	}
	r.Reset()
	whole(t, r, "250-a", "250 b")
	take(t, r, 250, "", "a", "b")

	whole(t, r, "250 a")
	r.Reset()
	nothing(t, r)

	whole(t, r, "250 a")
	line(t, r, "250-b", false, api.OK)
	line(t, r, "x", false, api.ErrForm)
	r.Reset()
	if r.Dead() {
		t.Error("dead behind a Reset")
	}
	nothing(t, r)
	whole(t, r, "451 c")
	take(t, r, 451, "", "c")
}

func TestCopyGoesItsOwnWay(t *testing.T) {
	r := reply.New()
	whole(t, r, "220-a", "220 b")
	for _, s := range []string{"250-c", "250-d", "250-e"} {
		line(t, r, s, false, api.OK)
	}
	n := r.Copy()
	line(t, r, "250-f", false, api.OK)
	line(t, n, "250-g", false, api.OK)
	take(t, r, 220, "", "a", "b")
	line(t, r, "250 h", true, api.OK)
	take(t, n, 220, "", "a", "b")
	line(t, n, "250 i", true, api.OK)
	take(t, n, 250, "", "c", "d", "e", "g", "i")
	take(t, r, 250, "", "c", "d", "e", "f", "h")

	n = r.Copy()
	line(t, n, "x", false, api.ErrForm)
	whole(t, r, "250 a")
	nothing(t, n)
	line(t, n, "250 a", false, api.ErrState)
	dead := n.Copy()
	n.Reset()
	line(t, dead, "250 a", false, api.ErrState)
	whole(t, n, "451 b")
	take(t, r, 250, "", "a")
	take(t, n, 451, "", "b")

	whole(t, r, "250-a", "250 b")
	n, dead = r.Copy(), r.Copy()
	r.Reset()
	line(t, dead, "x", false, api.ErrForm)
	take(t, n, 250, "", "a", "b")
	take(t, dead.Copy(), 250, "", "a", "b")
	take(t, dead, 250, "", "a", "b")
}

func TestCopiesShareNothing(t *testing.T) {
	r := reply.New()
	whole(t, r, "220-a", "220 b")
	n := r.Copy()
	x, _ := r.Take()
	x.Lines[0] = "changed"
	take(t, n, 220, "", "a", "b")
}

// The words: its status.
func TestStatus(t *testing.T) {
	for text, want := range map[string]string{
		"2.0.0": "2.0.0", "2.0.0 ": "2.0.0", "2.0.0 x": "2.0.0", "2.0.0  x": "2.0.0", "2.1.5 ok": "2.1.5", "2.0.10 x": "2.0.10", "2.10.0 x": "2.10.0",
		"2.12.34": "2.12.34", "2.123.456 x": "2.123.456", "2.999.999": "2.999.999", "2.100.0 x": "2.100.0", "2.0.100": "2.0.100",
		"2.1.1234 x": "", "2.1234.1 x": "", "2.1234.1234": "", "2.1000.0": "", "2.0.1000": "",
		"": "", "2": "", "2.": "", "2.1": "", "2.1.": "", "2..": "", "2..1": "", "2.1. x": "", "2..1 x": "", "2. x": "", "2 x": "", ".1.1": "", ".": "", "..": "", "2..1.1": "", "2.1..1": "",
		"2.01.0 x": "", "2.0.01": "", "2.00.0": "", "2.0.00 x": "", "2.000.0": "", "2.001.1": "", "2.1.001": "", "02.1.1": "", "22.1.1 x": "", "2.0 .0": "", "2. 0.0": "",
		"3.0.0 x": "", "4.0.0 x": "", "5.0.0 x": "", "0.0.0": "", "1.0.0 x": "", "6.0.0": "", "9.1.1 x": "",
		"2.1.1.2 no": "", "2.1.1.": "", "2.1.1-x": "", "2.1.1x": "", "2.1.1\tx": "", "2.1.1\t": "", "2.1.1, x": "", "2.1.1:": "", " 2.1.1 x": "", "\t2.1.1": "", "x 2.1.1": "", "(2.1.1)": "", "2,1,1": "", "2.a.1": "", "2.1.a": "", "2.-1.0": "", "2.+1.0": "", "2.1.1 2.1.2": "2.1.1",
	} {
		if x := made(t, "250 "+text); x.Status != want || x.Lines[0] != text {
			t.Errorf("%q: %q; want %q", text, x.Status, want)
		}
		if statusOf(250, text) != want {
			t.Errorf("%q: the words tell %q; want %q", text, statusOf(250, text), want)
		}
	}
}

func TestStatusOfAllClasses(t *testing.T) {
	for _, code := range numbers() {
		for first := range 10 {
			for _, behind := range []string{".1.7", ".1.7 x", ".0.0", ".255.255 x", ".1.7.1", ".1", "1.7 x"} {
				text := strconv.Itoa(first) + behind
				s := strconv.Itoa(code) + " " + text
				if x := made(t, s); x.Status != statusOf(code, text) {
					t.Errorf("%q: %q; want %q", s, x.Status, statusOf(code, text))
				}
			}
		}
		if want := strconv.Itoa(code/100) + ".1.7"; code/100 != 3 && made(t, strconv.Itoa(code)+" "+want).Status != want {
			t.Errorf("%d: no status %s", code, want)
		}
	}
	if x := made(t, "354 3.0.0 go on"); x.Status != "" {
		t.Errorf("a status of the class 3: %q", x.Status)
	}
}

func TestStatusOfShortTexts(t *testing.T) {
	found := 0
	for _, text := range every.Text(7, "2", "0", "4", ".", " ") {
		x := made(t, "250 "+text)
		if x.Status != statusOf(250, text) {
			t.Fatalf("%q: %q; want %q", text, x.Status, statusOf(250, text))
		}
		if x.Status != "" {
			found++
		}
	}
	if found < 100 {
		t.Errorf("%d statuses among the short texts", found)
	}
}

func TestStatusByTheByte(t *testing.T) {
	for i := 32; i <= 126; i++ {
		c := string(byte(i))
		for place := range len("5.1.10 x") {
			text := "5.1.10 x"[:place] + c + "5.1.10 x"[place+1:]
			if x := made(t, "550 "+text); x.Status != statusOf(550, text) {
				t.Errorf("%q: %q; want %q", text, x.Status, statusOf(550, text))
			}
			text = "5.1.10 x"[:place] + c
			if x := made(t, "550 "+text); x.Status != statusOf(550, text) {
				t.Errorf("%q: %q; want %q", text, x.Status, statusOf(550, text))
			}
		}
	}
}

func TestStatusOfTheLastLineAlone(t *testing.T) {
	for _, x := range []struct {
		status string
		lines  []string
	}{
		{"", []string{"250-2.1.0 a", "250 b"}},
		{"", []string{"250-2.1.0 a", "250"}},
		{"2.1.5", []string{"250-2.1.0 a", "250 2.1.5 b"}},
		{"2.1.5", []string{"250-a", "250-2.1.0", "250 2.1.5"}},
		{"", []string{"250-2.1.0 a", "250 5.1.5 b"}},
		{"", []string{"250-2.1.0 a", "250 2.1.05 b"}},
	} {
		if got := made(t, x.lines...); got.Status != x.status {
			t.Errorf("%q: %q; want %q", x.lines, got.Status, x.status)
		}
	}
}

// P5.2, and P5.6: one class.
func TestClass(t *testing.T) {
	for code := -1000; code <= 70000; code++ {
		want := 0
		if code >= 200 && code <= 599 {
			want = code / 100
		}
		if got := reply.Class(code); got != want {
			t.Fatalf("Class(%d): %d; want %d", code, got, want)
		}
	}
	for code, want := range map[int]int{math.MinInt: 0, math.MaxInt: 0, -250: 0, 0: 0, 2: 0, 25: 0, 100: 0, 199: 0, 200: 2, 260: 2, 299: 2, 300: 3, 399: 3, 400: 4, 499: 4, 500: 5, 599: 5, 600: 0, 2500: 0, 1<<32 + 250: 0} {
		if got := reply.Class(code); got != want {
			t.Errorf("Class(%d): %d; want %d", code, got, want)
		}
	}
}

func TestOneClass(t *testing.T) {
	all := numbers()
	for _, a := range all {
		first := strconv.Itoa(a)
		if reply.Class(a) != int(first[0]-'0') {
			t.Errorf("Class(%d): %d", a, reply.Class(a))
		}
		for _, b := range all {
			r := reply.New()
			line(t, r, first+"-a", false, api.OK)
			if b == a {
				line(t, r, first+" b", true, api.OK)
				take(t, r, a, "", "a", "b")
				continue
			}
			line(t, r, strconv.Itoa(b)+" b", false, api.ErrForm)
			nothing(t, r)
		}
	}
	r := reply.New()
	line(t, r, "250-a", false, api.OK)
	line(t, r, "250-b", false, api.OK)
	line(t, r, "251-c", false, api.ErrForm)
}

// P5.2.
func TestShow(t *testing.T) {
	for _, x := range []struct {
		r    reply.Reply
		want []string
	}{
		{reply.Reply{Code: 250, Lines: []string{"a"}}, []string{"250 a"}},
		{reply.Reply{Code: 250, Lines: []string{"a", "b"}}, []string{"250-a", "250 b"}},
		{reply.Reply{Code: 250, Lines: []string{"", "", "b"}}, []string{"250-", "250-", "250 b"}},
		{reply.Reply{Code: 559, Lines: []string{" -\t~", " "}}, []string{"559- -\t~", "559  "}},
		{reply.Reply{Code: 250, Status: "2.1.0", Lines: []string{"2.1.0 a"}}, []string{"250 2.1.0 a"}},
		{reply.Reply{Code: 250, Status: "5.0.0", Lines: []string{"2.1.0 a"}}, []string{"250 2.1.0 a"}}, // it is not looked at
		{reply.Reply{Code: 250, Status: "\r\n", Lines: []string{"a"}}, []string{"250 a"}},
		{reply.Reply{Code: 250, Lines: []string{strings.Repeat("a", 1<<16)}}, []string{"250 " + strings.Repeat("a", 1<<16)}},
	} {
		if got := reply.Show(x.r); !slices.Equal(got, x.want) {
			t.Errorf("Show(%+v): %q; want %q", x.r, got, x.want)
		}
	}
	for _, n := range []int{1, 31, 32, 33, 34, 64, 1000} {
		want := n
		if n > 32 {
			want = 0
		}
		if got := reply.Show(reply.Reply{Code: 250, Lines: many(n)}); len(got) != want {
			t.Errorf("Show of %d lines: %q", n, got)
		}
	}
	for _, x := range []reply.Reply{
		{}, {Code: 250}, {Code: 250, Status: "2.0.0"}, {Code: 250, Lines: []string{}},
		{Code: 250, Lines: []string{"a\r\n"}}, {Code: 250, Lines: []string{"a\r\n250 b"}}, {Code: 250, Lines: []string{"\n"}}, {Code: 250, Lines: []string{"a", "b\rc"}}, {Code: 250, Lines: []string{"a\x00", "b"}}, {Code: 250, Lines: []string{"a", "\x7f", "b"}}, {Code: 250, Lines: []string{"é"}},
	} {
		if got := reply.Show(x); got != nil {
			t.Errorf("Show(%+v): %q", x, got)
		}
	}
}

// A last line without a text may have a blank, or not, but nothing else.
func TestShowOfNoText(t *testing.T) {
	for _, ahead := range [][]string{nil, {"a"}, {"", ""}} {
		got := reply.Show(reply.Reply{Code: 250, Lines: append(slices.Clone(ahead), "")})
		if len(got) != len(ahead)+1 || strings.TrimSuffix(got[len(ahead)], " ") != "250" {
			t.Fatalf("%q, and no text: %q", ahead, got)
		}
		for i, text := range ahead {
			if got[i] != "250-"+text {
				t.Errorf("%q, and no text: %q", ahead, got)
			}
		}
	}
}

func TestShowOfAllNumbers(t *testing.T) {
	may := numbers()
	wrong := []int{math.MinInt, math.MaxInt, 1<<32 + 250, -250, -25, -2}
	for code := -300; code <= 6000; code++ {
		if !slices.Contains(may, code) {
			wrong = append(wrong, code)
		}
	}
	for _, lines := range [][]string{{"a"}, {""}, {"0"}, {"0 a"}, {"50 a"}, {"a", "b"}, {"", ""}, {"0-a", "0 b"}} {
		for _, code := range may {
			if got := reply.Show(reply.Reply{Code: code, Lines: lines}); len(got) != len(lines) {
				t.Errorf("Show of %d, %q: %q", code, lines, got)
			}
		}
		for _, code := range wrong {
			if got := reply.Show(reply.Reply{Code: code, Lines: lines}); got != nil {
				t.Errorf("Show of %d, %q: %q", code, lines, got)
			}
		}
	}
}

func TestShowByTheByte(t *testing.T) {
	for i := range 256 {
		c := string([]byte{byte(i)})
		may := i == '\t' || i >= 32 && i <= 126
		for _, lines := range [][]string{{c}, {"a" + c}, {c + "a", "b"}, {"a", c}, {"a", "b" + c + "c", "d"}} {
			got := reply.Show(reply.Reply{Code: 354, Lines: lines})
			if !may && got != nil || may && len(got) != len(lines) {
				t.Errorf("Show of %q: %q", lines, got)
			}
		}
	}
}

func TestSame(t *testing.T) {
	x := func() reply.Reply {
		return reply.Reply{Code: 250, Status: "2.1.0", Lines: []string{"a", "2.1.0 b"}}
	}
	changed := func(change func(y *reply.Reply)) reply.Reply {
		y := x()
		change(&y)
		return y
	}
	if !reply.Same(x(), x()) {
		t.Error("not the same as itself")
	}
	for i, y := range []reply.Reply{
		{},
		changed(func(y *reply.Reply) { y.Code = 251 }),
		changed(func(y *reply.Reply) { y.Code = 0 }),
		changed(func(y *reply.Reply) { y.Status = "" }),
		changed(func(y *reply.Reply) { y.Status = "2.1.5" }),
		changed(func(y *reply.Reply) { y.Lines = nil }),
		changed(func(y *reply.Reply) { y.Lines[0] = "A" }),
		changed(func(y *reply.Reply) { y.Lines[0] = "" }),
		changed(func(y *reply.Reply) { y.Lines[1] = "2.1.0 b " }),
		changed(func(y *reply.Reply) { y.Lines = y.Lines[:1] }),
		changed(func(y *reply.Reply) { y.Lines = y.Lines[1:] }),
		changed(func(y *reply.Reply) { y.Lines = append(y.Lines, "") }),
		changed(func(y *reply.Reply) { y.Lines = append([]string{""}, y.Lines...) }),
		changed(func(y *reply.Reply) { slices.Reverse(y.Lines) }),
		changed(func(y *reply.Reply) { y.Lines = []string{"a2.1.0 b", ""} }),
	} {
		if reply.Same(x(), y) || reply.Same(y, x()) {
			t.Errorf("%d: the same as %+v", i, y)
		}
		if !reply.Same(y, y) {
			t.Errorf("%+v: not the same as itself", y)
		}
	}
	if !reply.Same(reply.Reply{}, reply.Reply{Lines: []string{}}) || reply.Same(reply.Reply{}, reply.Reply{Lines: []string{""}}) {
		t.Error("no list, a list of nothing, and one of an empty text")
	}
}
