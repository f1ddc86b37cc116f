package head_test

import (
	"regexp"
	"slices"
	"strings"
	"testing"
	"unsafe"

	"mailroom/api"
	"mailroom/every"
	"mailroom/head"
)

// The chapter's words, as a pattern: the line by which a field begins, and those that go on with it.
var fieldOnly = regexp.MustCompile(`(?s)^([!-9;-~]+):(.*?\r\n(?:[ \t].*?\r\n)*)`)

// plainly tells by the chapter's words alone a text's fields, and its body.
func plainly(text string) (fields []head.Field, body string) {
	for rest := text; ; {
		m := fieldOnly.FindStringSubmatch(rest)
		if m == nil {
			break
		}
		value := strings.ReplaceAll(m[2], "\r\n", "")
		fields = append(fields, head.Field{Name: m[1], Value: strings.Trim(value, " \t")})
		rest = rest[len(m[0]):]
	}
	_, body, _ = strings.Cut("\r\n"+text, "\r\n\r\n")
	return fields, body
}

// row is fields: names, each with its value behind it.
func row(pairs ...string) []head.Field {
	var out []head.Field
	for i := 0; i < len(pairs); i += 2 {
		out = append(out, head.Field{Name: pairs[i], Value: pairs[i+1]})
	}
	return out
}

// has wants that a text has just these fields: names, each with its value behind it.
func has(t *testing.T, text string, pairs ...string) {
	t.Helper()
	if got := head.Fields(text); !slices.Equal(got, row(pairs...)) {
		t.Errorf("Fields(%q): %q; want %q", text, got, pairs)
	}
	agrees(t, text)
}

// agrees holds what is told of a text against the chapter's words.
func agrees(t *testing.T, text string) {
	t.Helper()
	fields, body := plainly(text)
	if got := head.Fields(text); !slices.Equal(got, fields) {
		t.Errorf("Fields(%q): %q; want %q", text, got, fields)
	}
	if got := head.Body(text); got != body {
		t.Errorf("Body(%q): %q; want %q", text, got, body)
	}
	hops, words := 0, []string{}
	for _, f := range fields {
		switch strings.ToLower(f.Name) { // a field's name is ASCII
		case "received":
			hops++
		case "tls-required":
			words = append(words, f.Value)
		}
		values := []string{}
		for _, g := range fields {
			if strings.ToUpper(g.Name) == strings.ToUpper(f.Name) {
				values = append(values, g.Value)
			}
		}
		if got := head.Get(text, f.Name); !slices.Equal(got, values) {
			t.Errorf("Get(%q, %q): %q; want %q", text, f.Name, got, values)
		}
	}
	if got := head.Hops(text); got != hops {
		t.Errorf("Hops(%q): %d; want %d", text, got, hops)
	}
	plain := len(words) == 1 && len(words[0]) == 2 && strings.ToLower(words[0]) == "no"
	if got := head.Plain(text); got != plain {
		t.Errorf("Plain(%q): %v; want %v", text, got, plain)
	}
}

func TestExamplesOfTheChapter(t *testing.T) {
	text := "A: b\r\n c\r\nReceived:x\r\n\r\nD: e\r\n"
	has(t, text, "A", "b c", "Received", "x")
	if n := head.Hops(text); n != 1 {
		t.Errorf("Hops: %d", n)
	}
	if s := head.Body(text); s != "D: e\r\n" {
		t.Errorf("Body: %q", s)
	}
	if !head.Plain("tls-required: NO\r\n") || head.Plain("TLS-Required: No\r\nTLS-Required: No\r\n") {
		t.Error("Plain")
	}
	has(t, "A: b\r\nno field\r\nC: d\r\n", "A", "b")
	has(t, " x\r\nA: b\r\n")
	shows(t, "A", "b", "A: b", api.OK)
	shows(t, "A ", "b", "", api.ErrForm)
}

// P9.1: the fields, in their row.
func TestFields(t *testing.T) {
	has(t, "")
	has(t, "A: b\r\n", "A", "b")
	has(t, "B: 1\r\nA: 2\r\nB: 3\r\nb: 3\r\n", "B", "1", "A", "2", "B", "3", "b", "3")
	has(t, "\r\nA: b\r\n")
	has(t, "\r\n\r\nA: b\r\n")
	has(t, "A: b\r\n\r\nC: d\r\n", "A", "b")
	has(t, "A: b\r\n\r\n\r\nC: d\r\n", "A", "b")
	has(t, "A: b\r\n\r\n c\r\n", "A", "b") // that goes on with nothing: it is the body
	has(t, "a-b.c_d!~\"'(),;<>@[]\\{}|: x\r\n", "a-b.c_d!~\"'(),;<>@[]\\{}|", "x")
	long := strings.Repeat("n", 3*api.MaxLine)
	has(t, long+": "+long+"\r\n "+long+"\r\n", long, long+" "+long)
}

// What stands behind the last line's end is no line of the head.
func TestBehindTheLastLinesEnd(t *testing.T) {
	has(t, "A: b")
	has(t, "A: b\r")
	has(t, "A: b\n")
	has(t, "A: b\r\nC: d", "A", "b")
	has(t, "A: b\r\nC: d\r", "A", "b")
	has(t, "A: b\r\n c", "A", "b")
	has(t, "A: b\r\nx", "A", "b")
	has(t, "A: b\r\n\r", "A", "b")
	has(t, "A: b\r\n\r\nC: d", "A", "b")
	has(t, "A: b\r\n\r\nx", "A", "b")
	for text, body := range map[string]string{
		"A: b\r\nC: d":                "",
		"A: b\r\nx":                   "",
		"A: b\r\n\r":                  "",
		"A: b\r\n\r\nC: d":            "C: d",
		"A: b\r\n\r\nx":               "x",
		"A: b\r\n\r\n\r":              "\r",
		"A: b\r\n\r\nC: d\r\nE: f":    "C: d\r\nE: f",
		"A: b\r\n\r\nC: d\r\n\r\ne\n": "C: d\r\n\r\ne\n",
	} {
		if s := head.Body(text); s != body {
			t.Errorf("Body(%q): %q; want %q", text, s, body)
		}
	}
}

func TestNamesOfFields(t *testing.T) {
	has(t, ": b\r\nC: d\r\n")
	has(t, ":\r\nC: d\r\n")
	has(t, "A: b\r\n: c\r\nD: e\r\n", "A", "b")
	has(t, "A:b\r\n", "A", "b")
	has(t, "A : b\r\nC: d\r\n")
	has(t, "A\t: b\r\nC: d\r\n")
	has(t, "A B: c\r\nD: e\r\n")
	has(t, "A: b\r\nC : d\r\nE: f\r\n", "A", "b")
	has(t, "A: b\r\nC\t: d\r\nE: f\r\n", "A", "b")
	has(t, "A:: b\r\n", "A", ": b")
	has(t, "A: b: c\r\n", "A", "b: c")
	has(t, "A:b:c:\r\n", "A", "b:c:")
	has(t, "A\r\nB: c\r\n")
	has(t, "é: b\r\nC: d\r\n")
}

func TestAllBytesOfNames(t *testing.T) {
	for i := range 256 {
		c := string([]byte{byte(i)})
		may := i >= 33 && i <= 126 && c != ":"
		for _, n := range []string{c, c + "b", "a" + c, "a" + c + "b"} {
			text := "X: y\r\n" + n + ": v\r\nZ: z\r\n"
			switch {
			case may:
				has(t, text, "X", "y", n, "v", "Z", "z")
				shows(t, n, "v", n+": v", api.OK)
				continue
			case c != ":" && c != " " && c != "\t":
				has(t, text, "X", "y")
			case c != ":" && strings.HasPrefix(n, c): // it goes on with the field ahead
				has(t, text, "X", "y"+n+": v", "Z", "z")
				has(t, n+": v\r\nZ: z\r\n")
			case c != ":":
				has(t, text, "X", "y")
			case n[0] == ':':
				has(t, text, "X", "y")
			default: // the name ends there
				has(t, text, "X", "y", "a", strings.TrimPrefix(n, "a:")+": v", "Z", "z")
			}
			shows(t, n, "v", "", api.ErrForm)
		}
	}
}

func TestValues(t *testing.T) {
	for line, value := range map[string]string{
		"A:":                  "",
		"A: ":                 "",
		"A:\t":                "",
		"A: \t \t":            "",
		"A:b":                 "b",
		"A: b":                "b",
		"A:\tb":               "b",
		"A:   b":              "b",
		"A: b ":               "b",
		"A:b\t":               "b",
		"A: \tb\t \t":         "b",
		"A: b  c\t\td ":       "b  c\t\td",
		"A:\x00b":             "\x00b",
		"A: \nb\n ":           "\nb\n",
		"A:\xa0b\xc2\xa0\x0b": "\xa0b\xc2\xa0\x0b", // no other blank is off
	} {
		has(t, line+"\r\n", "A", value)
		has(t, "X: y\r\n"+line+"\r\nZ: z\r\n\r\n", "X", "y", "A", value, "Z", "z")
	}
	for i := range 256 {
		c := string([]byte{byte(i)})
		has(t, "A: b"+c+"c\r\nZ: z\r\n", "A", "b"+c+"c", "Z", "z")
		want := strings.Trim(c, " \t")
		has(t, "A: "+c+"\t\r\nZ: z\r\n", "A", want, "Z", "z")
	}
}

func TestLinesThatGoOn(t *testing.T) {
	has(t, "A: b\r\n c\r\n", "A", "b c")
	has(t, "A: b\r\n\tc\r\n", "A", "b\tc")
	has(t, "A: b\r\n c\r\n\td\r\n  e\r\nF: g\r\n", "A", "b c\td  e", "F", "g")
	has(t, "A:\r\n b\r\n", "A", "b")
	has(t, "A: \r\n\t\r\n \r\n b\r\n", "A", "b")
	has(t, "A: b\r\n \r\n c\r\n", "A", "b  c") // a line of blanks alone is not empty
	has(t, "A: b \r\n\t\r\n", "A", "b")
	has(t, "A:\r\n \r\n", "A", "")
	has(t, "A: b\r\n C: d\r\nE: f\r\n", "A", "b C: d", "E", "f")
	has(t, "A: b\r\n :\r\n", "A", "b :")
	has(t, " \r\nA: b\r\n")
	has(t, "\t\r\nA: b\r\n")
	has(t, " A: b\r\nC: d\r\n")
	has(t, "A: b\r\n\r\n c\r\n", "A", "b")
	for i := range 256 {
		c := string([]byte{byte(i)})
		text := "A: b\r\n" + c + "c\r\nD: e\r\n"
		if c == " " || c == "\t" {
			has(t, text, "A", "b"+c+"c", "D", "e")
		} else {
			has(t, text, "A", "b")
		}
	}
}

func TestLineThatIsOfNoField(t *testing.T) {
	for _, l := range []string{"x", "no field", "A", "\r", "\n", "\n\r", "\x00: a", "-", "a b: c", ":", ": a"} {
		has(t, l+"\r\nC: d\r\n")
		has(t, "A: b\r\n"+l+"\r\nC: d\r\n", "A", "b")
		has(t, "A: b\r\n"+l+"\r\n c\r\nC: d\r\n", "A", "b")
		has(t, "A: b\r\n c\r\n"+l+"\r\nC: d\r\n\r\ne", "A", "b c")
	}
}

func TestLoneCRsAndLFs(t *testing.T) {
	has(t, "A: b\nC: d\r\n", "A", "b\nC: d")
	has(t, "A: b\rC: d\r\n", "A", "b\rC: d")
	has(t, "A: b\r\r\nC: d\r\n", "A", "b\r", "C", "d")
	has(t, "A: b\n\n\r\rc\r\n", "A", "b\n\n\r\rc")
	has(t, "A: b\r\n\nC: d\r\nE: f\r\n", "A", "b")
	has(t, "A: b\r\n\rC: d\r\nE: f\r\n", "A", "b")
	has(t, "A: b\r\n\r\r\nC: d\r\n", "A", "b")
	has(t, "A\n: b\r\n")
	has(t, "A: b\n\nC: d\r\n\r\nE: f\r\n", "A", "b\n\nC: d")
	if s := head.Body("A: b\n\nC: d\r\rE\r\n\r\n\n\r"); s != "\n\r" {
		t.Errorf("Body: %q", s)
	}
}

// P9.1, P9.2: all short texts.
func TestAllShortTexts(t *testing.T) {
	some := 0
	texts := every.Text(7, "a", ":", " ", "\r\n", "\r")
	texts = append(texts, every.Text(7, "A: b", "A", "\t", "\r\n", "\n")...)
	for _, s := range append(texts, every.Text(6, "Received:", "TLS-Required: ", "no", "N", "O", "\r\n", "\r\n ")...) {
		agrees(t, s)
		some += len(head.Fields(s))
		if t.Failed() {
			t.FailNow()
		}
	}
	if some < 1000 {
		t.Errorf("just %d fields", some)
	}
}

func TestGet(t *testing.T) {
	text := "Ab-1: x\r\nC: y\r\naB-1: x\r\nAB-1:\r\n\tz \r\nAb: u\r\nAb-12: v\r\n\r\nab-1: w\r\n"
	for _, x := range []struct {
		name   string
		values []string
	}{
		{"Ab-1", []string{"x", "x", "z"}},
		{"ab-1", []string{"x", "x", "z"}},
		{"AB-1", []string{"x", "x", "z"}},
		{"C", []string{"y"}},
		{"c", []string{"y"}},
		{"ab", []string{"u"}},
		{"AB-12", []string{"v"}},
		{"", nil},
		{"D", nil},
		{"b", nil},
		{"Ab-1:", nil},
		{"Ab-1 ", nil},
		{" Ab-1", nil},
		{"Ab\r1", nil}, // 32 less than -, which is no letter
		{"ab-123", nil},
		{strings.Repeat("x", 5000), nil},
	} {
		if got := head.Get(text, x.name); !slices.Equal(got, x.values) {
			t.Errorf("Get(%q): %q; want %q", x.name, got, x.values)
		}
	}
	if got := head.Get("", ""); got != nil {
		t.Errorf("Get of nothing: %q", got)
	}
	if got := head.Get(": b\r\n", ""); got != nil {
		t.Errorf("Get of a name of nothing: %q", got)
	}
	if got := head.Get("k: b\r\ns: c\r\n", "\u212a"); got != nil { // K, but not of ASCII
		t.Errorf("Get of a letter outside ASCII: %q", got)
	}
}

// P9.1.
func TestBody(t *testing.T) {
	for text, body := range map[string]string{
		"":                           "",
		"x":                          "",
		"\r\n":                       "",
		"x\r\n":                      "",
		"x\r\ny\r\n":                 "",
		" \r\n":                      "",
		"\r\nx":                      "x",
		"\r\nx\r\n":                  "x\r\n",
		"\r\n\r\n":                   "\r\n",
		"\r\n\r\n\r\n":               "\r\n\r\n",
		"x\r\n\r\n":                  "",
		"x\r\n\r\ny":                 "y",
		"x\r\n \r\n\r\ny\r\n\r\nz":   "y\r\n\r\nz",
		"no field\r\n\r\nA: b\r\n c": "A: b\r\n c",
		"A: b\r\n\r\n\r\nC: d\r\n":   "\r\nC: d\r\n",
		"A: b\r\n\r\n\x00\xff\r\n\r": "\x00\xff\r\n\r",
		"a\n\nb\r\r\n":               "",
		"a\n\r\n\r\n\r":              "\r",
		"a\r\r\n\r\n\n":              "\n",
	} {
		if got := head.Body(text); got != body {
			t.Errorf("Body(%q): %q; want %q", text, got, body)
		}
		agrees(t, text)
	}
}

// P9.2, P9.6.
func TestPlain(t *testing.T) {
	for text, is := range map[string]bool{
		"":                                   false,
		"A: No\r\n":                          false,
		"TLS-Required: No\r\n":               true,
		"TLS-Required: NO\r\n":               true,
		"TLS-Required: nO\r\n":               true,
		"TLS-Required: no\r\n":               true,
		"TLS-Required:No\r\n":                true,
		"TLS-Required:\t No \t\r\n":          true,
		"tls-REQUIRED: No\r\n":               true,
		"TLS-Required:\r\n No\r\n":           true,
		"TLS-Required: No\r\n\t\r\n \r\n":    true,
		"A: b\r\nTLS-Required: No\r\nC: d":   true,
		"TLS-Required: No\r\nx\r\n":          true,
		"TLS-Required:\r\n":                  false,
		"TLS-Required: \t\r\n":               false,
		"TLS-Required: Yes\r\n":              false,
		"TLS-Required: N\r\n":                false,
		"TLS-Required: Nope\r\n":             false,
		"TLS-Required: No.\r\n":              false,
		"TLS-Required: No No\r\n":            false,
		"TLS-Required: N\r\n o\r\n":          false,
		"TLS-Required: No\r\n x\r\n":         false,
		"TLS-Required: No\r\r\n":             false,
		"TLS-Required: .o\r\n":               false,
		"TLS-Required: \"No\"\r\n":           false,
		"TLS-Required : No\r\n":              false,
		"TLS-Require: No\r\n":                false,
		"TLS-Required-: No\r\n":              false,
		"TLS\rRequired: No\r\n":              false,
		"TLS-Required: No":                   false,
		"TLS-Required\r\n: No\r\n":           false,
		"x\r\nTLS-Required: No\r\n":          false,
		"\r\nTLS-Required: No\r\n":           false,
		"A: b\r\n\r\nTLS-Required: No\r\n":   false,
		"A: b\r\n TLS-Required: No\r\n":      false,
		"TLS-Required: \xce\x9do\r\n":        false,
		"TL\u017f-Required: No\r\n":          false,
		"T: a\r\nLS-Required: No\r\n":        false,
		"X-TLS-Required: No\r\n":             false,
		"TLS-Required:: No\r\n":              false,
		"TLS-Required: N\u00ba\r\n":          false,
		"TLS-Required: No\r\nA: tls-x: no\n": true,
	} {
		if got := head.Plain(text); got != is {
			t.Errorf("Plain(%q): %v; want %v", text, got, is)
		}
		agrees(t, text)
	}
}

// P9.2.
func TestHops(t *testing.T) {
	for text, n := range map[string]int{
		"":                                       0,
		"A: b\r\n":                               0,
		"A: Received: x\r\n":                     0,
		"Received: x\r\n":                        1,
		"Received:\r\n":                          1,
		"received: x\r\n":                        1,
		"RECEIVED: x\r\nreCEIved: y\r\n":         2,
		"Received: x\r\n Received: y\r\n":        1,
		"Received: x\r\nReceived":                1,
		"Received: x\r\nReceived: y":             1,
		"Received: x\r\nA: b\r\nReceived: x\r\n": 2,
		"Received: x\r\nz\r\nReceived: x\r\n":    1,
		"Received: x\r\n\r\nReceived: x\r\n":     1,
		"\r\nReceived: x\r\n":                    0,
		"Received : x\r\n":                       0,
		"Received-: x\r\nReceive: d\r\n":         0,
		"X-Received: x\r\n":                      0,
	} {
		if got := head.Hops(text); got != n {
			t.Errorf("Hops(%q): %d; want %d", text, got, n)
		}
		agrees(t, text)
	}
	for _, n := range []int{19, 20, 21, 1000} {
		if got := head.Hops(strings.Repeat("Received: x\r\n y\r\n", n)); got != n {
			t.Errorf("Hops of %d: %d", n, got)
		}
	}
}

// shows holds what Show answers of a field against what is wanted.
func shows(t *testing.T, name, value, want string, e api.Errno) {
	t.Helper()
	if s, got := head.Show(head.Field{Name: name, Value: value}); s != want || got != e {
		t.Errorf("Show(%q, %q): %q, %v; want %q, %v", name, value, s, got, want, e)
	}
}

// P9.2, and the table of errors. Names are gone over in TestAllBytesOfNames.
func TestShow(t *testing.T) {
	shows(t, "A", "", "A: ", api.OK)
	shows(t, "~!", "a: b\t c", "~!: a: b\t c", api.OK)
	long := strings.Repeat("x", 3*api.MaxLine)
	shows(t, long, long, long+": "+long, api.OK)
	for _, n := range []string{"", " ", "A ", " A", "A\t", "A:", ":", "A B", "A\r\n", "A\x00", "A\x7f", "\xff", "é"} {
		shows(t, n, "b", "", api.ErrForm)
		shows(t, n, "", "", api.ErrForm)
		shows(t, n, "b ", "", api.ErrForm)
	}
	for _, v := range []string{" ", "\t", " b", "\tb", "b ", "b\t", "b\r\n", "b\r\n c", "\r", "\n", "b\x00c", "b\x7f", "é", "\xa0"} {
		shows(t, "A", v, "", api.ErrForm)
	}
	for i := range 256 {
		c := string([]byte{byte(i)})
		blank := c == " " || c == "\t"
		for _, v := range []string{c, c + "b", "b" + c, "b" + c + "c"} {
			if i > 32 && i <= 126 || blank && v == "b"+c+"c" {
				shows(t, "A", v, "A: "+v, api.OK)
			} else {
				shows(t, "A", v, "", api.ErrForm)
			}
		}
	}
}

// P9.1.
func TestLike(t *testing.T) {
	for _, x := range []struct {
		a, b string
		is   bool
	}{
		{"", "", true},
		{"a", "A", true},
		{"Received", "rECEIVED", true},
		{"a-1", "A-1", true},
		{"", "a", false},
		{"a", "aa", false},
		{"ab", "a", false},
		{"ab", "ba", false},
		{"a", "a ", false},
		{"a\x00", "a", false},
		{"k", "\u212a", false},
		{"\u00e9", "\u00c9", false},
		{"s", "\u017f", false},
		{"\xff", "\xfe", false},
		{"\xff", "\ufffd", false},
	} {
		for _, got := range []bool{head.Like(x.a, x.b), head.Like(x.b, x.a)} {
			if got != x.is {
				t.Errorf("Like(%q, %q): %v", x.a, x.b, got)
			}
		}
	}
	letters := "abcdefghijklmnopqrstuvwxyz"
	for i := range 256 {
		for k := range 256 {
			a, b := string([]byte{byte(i)}), string([]byte{byte(k)})
			is := i == k || max(i, k)-min(i, k) == 32 && strings.Contains(letters, string([]byte{byte(max(i, k))}))
			for _, around := range []string{"", "x", "Y-"} {
				if got := head.Like(around+a+around, around+b+around); got != is {
					t.Fatalf("Like(%q, %q): %v", around+a+around, around+b+around, got)
				}
			}
		}
	}
}

// R1: what is told shares no memory with what was handed in, and what is written over is told anew.
func TestNothingShared(t *testing.T) {
	text := strings.Clone("Abc: def\r\nGhi: jkl\r\n mno\r\n\r\npqr")
	fields, values, body := head.Fields(text), head.Get(text, "abc"), head.Body(text)
	for _, told := range []string{fields[0].Name, fields[0].Value, fields[1].Name, fields[1].Value, values[0], body} {
		if told == "" || within(told, text) {
			t.Errorf("%q lies within %q, or is nothing", told, text)
		}
	}
	fields[0], values[0] = head.Field{}, "changed"
	has(t, text, "Abc", "def", "Ghi", "jkl mno")
	if got := head.Get(text, "abc"); !slices.Equal(got, []string{"def"}) {
		t.Errorf("Get behind a change: %q", got)
	}

	f := head.Field{Name: strings.Clone("Abc"), Value: strings.Clone("def")}
	s, _ := head.Show(f)
	if within(s, f.Name) || within(s, f.Value) {
		t.Errorf("%q lies within %q", s, f)
	}
}

// within tells whether part lies in the memory of whole.
func within(part, whole string) bool {
	p, w := uintptr(unsafe.Pointer(unsafe.StringData(part))), uintptr(unsafe.Pointer(unsafe.StringData(whole)))
	return p >= w && p < w+uintptr(len(whole))
}
