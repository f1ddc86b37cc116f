package caps_test

import (
	"math"
	"math/big"
	"regexp"
	"slices"
	"strconv"
	"strings"
	"testing"

	"mailroom/caps"
	"mailroom/reply"
)

// limit is the greatest number of a SIZE that counts.
const limit = 1 << 40

// words are the keywords, and what each sets.
var words = []struct {
	word string
	sets caps.Caps
}{
	{"PIPELINING", caps.Caps{Pipelining: true}},
	{"SIZE", caps.Caps{Size: true}},
	{"STARTTLS", caps.Caps{StartTLS: true}},
	{"REQUIRETLS", caps.Caps{RequireTLS: true}},
	{"DSN", caps.Caps{Dsn: true}},
	{"8BITMIME", caps.Caps{EightBit: true}},
}

// everything is what a peer can that can all.
var everything = caps.Caps{StartTLS: true, Pipelining: true, RequireTLS: true, Dsn: true, EightBit: true, Size: true}

// sized is a SIZE with a number, or 0.
func sized(n int) caps.Caps {
	return caps.Caps{Size: true, Most: n}
}

// sizeOnly is the chapter's words on a SIZE with a number.
var sizeOnly = regexp.MustCompile(`^[Ss][Ii][Zz][Ee] (0|[1-9][0-9]*)$`)

// plainly tells by the chapter's words alone what the texts behind a first one say.
func plainly(texts ...string) caps.Caps {
	var c caps.Caps
	for _, s := range texts {
		if m := sizeOnly.FindStringSubmatch(s); m != nil {
			n, _ := new(big.Int).SetString(m[1], 10)
			c.Size = true
			if c.Most == 0 && n.Cmp(big.NewInt(limit)) <= 0 {
				c.Most = int(n.Int64())
			}
		}
		for _, x := range words {
			if isASCII(s) && strings.EqualFold(s, x.word) {
				c = either(c, x.sets)
			}
		}
	}
	return c
}

// isASCII tells whether s has bytes of ASCII alone: of these EqualFold holds no other letter for the same than the great one for the small one.
func isASCII(s string) bool {
	return !strings.ContainsFunc(s, func(r rune) bool { return r > 127 })
}

// either tells by the chapter's words alone what a and b say together.
func either(a, b caps.Caps) caps.Caps {
	a.StartTLS = a.StartTLS || b.StartTLS
	a.Pipelining = a.Pipelining || b.Pipelining
	a.RequireTLS = a.RequireTLS || b.RequireTLS
	a.Dsn = a.Dsn || b.Dsn
	a.EightBit = a.EightBit || b.EightBit
	a.Size = a.Size || b.Size
	if a.Most == 0 {
		a.Most = b.Most
	}
	return a
}

// of is what a reply to EHLO says that has these texts behind its first one.
func of(texts ...string) caps.Caps {
	return caps.Of(reply.Reply{Code: 250, Lines: append([]string{"mx.example"}, texts...)})
}

// says wants that these texts say that.
func says(t *testing.T, want caps.Caps, texts ...string) {
	t.Helper()
	if got := of(texts...); got != want {
		t.Errorf("%.90q says %+v; want %+v", texts, got, want)
	}
	if plain := plainly(texts...); plain != want {
		t.Errorf("%.90q says by the chapter's words %+v; want %+v", texts, plain, want)
	}
}

// nothing wants of each text that it says nothing.
func nothing(t *testing.T, texts ...string) {
	t.Helper()
	for _, s := range texts {
		says(t, caps.Caps{}, s)
	}
}

// writings are all that come of a word of great letters by great and small ones: a bit for each byte says which.
func writings(word string) []string {
	var out []string
	for bits := range 1 << len(word) {
		b := []byte(word)
		for i := range b {
			if bits>>i&1 == 1 {
				b[i] = strings.ToLower(word)[i]
			}
		}
		out = append(out, string(b))
	}
	return out
}

// The chapter's examples.
func TestExamples(t *testing.T) {
	says(t, caps.Caps{StartTLS: true, Size: true, Most: 1000}, "SIZE 1000", "starttls", "X-ODD 1")
	nothing(t, "STARTTLS now", "SIZE 01", "SIZE  5", "START")
	says(t, sized(0), "SIZE")
}

// P6.1: a reply without lines, with one, with many.
func TestHowManyLines(t *testing.T) {
	for _, x := range []reply.Reply{{}, {Code: 250}, {Code: 250, Lines: []string{}}, {Code: 250, Lines: []string{""}}, {Code: 250, Lines: []string{"mx.example"}}} {
		if got := caps.Of(x); got != (caps.Caps{}) {
			t.Errorf("%+v says %+v", x, got)
		}
	}
	var texts []string
	for _, x := range words {
		texts = append(texts, x.word)
	}
	says(t, everything, texts...)
	// The last of as many lines as a reply may have counts, and of more.
	for _, n := range []int{1, 30, 31, 32, 5000} {
		texts := slices.Repeat([]string{"X-ODD"}, n)
		says(t, caps.Caps{}, texts...)
		for _, x := range words {
			texts[n-1] = x.word
			says(t, x.sets, texts...)
			texts[0], texts[n-1] = texts[n-1], texts[0]
			says(t, x.sets, texts...)
			texts[0] = "X-ODD"
		}
	}
}

// P6.1: replies as they come from a reader, also with statuses, and lines without a text.
func TestReplyAsItComes(t *testing.T) {
	for _, x := range []struct {
		lines []string
		want  caps.Caps
	}{
		{[]string{"250 mx.example"}, caps.Caps{}},
		{[]string{"250-mx.example hi", "250-PIPELINING", "250-SIZE 35882577", "250-AUTH PLAIN", "250-8bitmime", "250 2.0.0 DSN"}, caps.Caps{Pipelining: true, EightBit: true, Size: true, Most: 35882577}},
		{[]string{"250-x", "250-", "250 Dsn"}, caps.Caps{Dsn: true}},
		{[]string{"250-x", "250-StartTLS", "250"}, caps.Caps{StartTLS: true}},
	} {
		r := reply.New()
		for _, s := range x.lines {
			r.Line(s)
		}
		said, ok := r.Take()
		if got := caps.Of(said); !ok || got != x.want {
			t.Errorf("%q says %+v; want %+v", x.lines, got, x.want)
		}
	}
}

// P6.1: each keyword alone, in all its writings.
func TestKeywords(t *testing.T) {
	for _, x := range words {
		says(t, x.sets, x.word)
		says(t, x.sets, strings.ToLower(x.word))
		for _, s := range writings(x.word) {
			says(t, x.sets, s)
		}
	}
}

// P6.1: what is nearly a keyword says nothing.
func TestNearlyKeywords(t *testing.T) {
	nothing(t, "", " ", "\t", "0", "5", "1000", "X", "=", "AUTH PLAIN", "SMTPUTF8", "CHUNKING", "HELP", "STARTTLSDSN", "DSN SIZE", "DSN,SIZE", "SIZEDSN")
	for _, x := range words {
		for _, w := range []string{x.word, strings.ToLower(x.word), x.word[:1] + strings.ToLower(x.word[1:])} {
			nothing(t, w+" ", " "+w, "  "+w, w+"  ", w+"\t", "\t"+w, w+" now", w+" "+w, w+w, w+".", w+"=", w+"=5", w+"-", w+"\x00", w+"\r", w+"\n", w+"\r\n", "250 "+w, "250-"+w, "2.0.0 "+w, "\ufeff"+w, w+"\u00a0")
			for _, more := range []string{"A", "s", "X", "0", "8"} {
				nothing(t, w+more, more+w)
			}
			for i := range len(w) {
				nothing(t, w[:i]+w[i+1:], w[:i], w[i+1:], w[:i]+w[i:i+1]+w[i:])
			}
		}
		if x.word != "SIZE" {
			nothing(t, x.word+" 5", x.word+" 0", x.word+" 1000")
		}
	}
}

// P6.1: each byte at each place of a keyword, and of a SIZE with a number.
func TestEachByte(t *testing.T) {
	for _, x := range words {
		for i := range len(x.word) {
			for c := range 256 {
				s := x.word[:i] + string([]byte{byte(c)}) + x.word[i+1:]
				if s == x.word || s == x.word[:i]+strings.ToLower(x.word[i:i+1])+x.word[i+1:] {
					says(t, x.sets, s)
				} else {
					nothing(t, s)
				}
			}
		}
	}
	for _, w := range []string{"SIZE 5", "SIZE 10", "SIZE 1099511627776"} {
		for i := range len(w) {
			for c := range 256 {
				s := w[:i] + string([]byte{byte(c)}) + w[i+1:]
				says(t, plainly(s), s)
			}
		}
	}
	for c := range 256 {
		b := string([]byte{byte(c)})
		nothing(t, b, b+b)
		for _, x := range words {
			nothing(t, x.word+b, b+x.word, x.word+b+x.word)
		}
		if c < '0' || c > '9' {
			nothing(t, "SIZE "+b, "SIZE 5"+b, "SIZE 5"+b+"5", "SIZE "+b+"5", "SIZE"+b, "SIZE"+b+b+"5", b+"SIZE 5")
		}
	}
}

// P6.1: a letter that folds to one of ASCII only outside of it is no letter of a keyword.
func TestFoldedElsewhere(t *testing.T) {
	nothing(t, "ſize", "ſIZE", "ſize 5", "SıZE", "SİZE", "sıze 5", "ſtarttls", "STARTTLſ", "ſTARTTLS", "dſn", "DſN", "requiretlſ", "PIPELİNİNG", "pıpelınıng", "8bıtmıme", "8BİTMİME", "８BITMIME", "ＳＩＺＥ", "SIZE ５", "SIZE ٥", "K")
}

// P6.1: the numbers of a SIZE.
func TestSizes(t *testing.T) {
	for _, s := range []string{"SIZE ", "size ", "Size ", "sIZe "} {
		for _, n := range []int{1, 2, 9, 10, 99, 100, 1000, 1 << 20, math.MaxInt32, 1 << 32, limit - 1, limit} {
			says(t, sized(n), s+strconv.Itoa(n))
			nothing(t, s+"0"+strconv.Itoa(n), s+"00"+strconv.Itoa(n), s+"-"+strconv.Itoa(n), s+"+"+strconv.Itoa(n), s+" "+strconv.Itoa(n), s+"\t"+strconv.Itoa(n))
			nothing(t, s+strconv.Itoa(n)+" ", s+strconv.Itoa(n)+"\t", s+strconv.Itoa(n)+" 5", s+strconv.Itoa(n)+"K", s+strconv.Itoa(n)+".0", s+strconv.Itoa(n)+",000", s+strconv.Itoa(n)+"\r")
			nothing(t, strings.TrimSuffix(s, " ")+strconv.Itoa(n), strings.TrimSuffix(s, " ")+"="+strconv.Itoa(n), strings.TrimSuffix(s, " ")+"\t"+strconv.Itoa(n), " "+s+strconv.Itoa(n))
		}
		// There was a SIZE, but none that counts.
		for _, n := range []string{
			"0", "1099511627777", "1099511627786", "2199023255552", "9999999999999", "10995116277760",
			"9223372036854775807", "9223372036854775808", "18446744073709551615", "18446744073709551616", "18446744073709551617",
			"1" + strings.Repeat("0", 40), strings.Repeat("9", 4000), "340282366920938463463374607431768211457",
		} {
			says(t, sized(0), s+n)
		}
		nothing(t, s, s+" ", s+"00", s+"-0", s+"+0", s+"-1", s+"0x5", s+"1e3", s+"5_0", s+"1_000", s+"five", s+"*", s+"0 0", s+"\"5\"", s+"0"+strings.Repeat("9", 40))
	}
}

// P6.1: of several SIZEs the first number that counts is told.
func TestSeveralSizes(t *testing.T) {
	says(t, sized(5), "SIZE 5", "SIZE 6")
	says(t, sized(6), "SIZE 6", "SIZE 5")
	says(t, sized(5), "SIZE", "SIZE 5")
	says(t, sized(5), "SIZE 5", "SIZE")
	says(t, sized(5), "SIZE 0", "SIZE 5", "SIZE 7")
	says(t, sized(5), "SIZE 1099511627777", "SIZE 5")
	says(t, sized(5), "SIZE 05", "SIZE 5", "SIZE 7")
	says(t, sized(7), "SIZE -5", "SIZE 7")
	says(t, sized(limit), "SIZE 18446744073709551617", "SIZE 1099511627776", "SIZE 1")
	says(t, sized(0), "SIZE", "SIZE 0", "SIZE 1099511627777", "SIZE x")
	says(t, sized(0), "SIZE 01", "SIZE 0", "SIZE 02")

	texts := []string{"SIZE", "size 0", "SIZE 1", "Size 2", "SIZE 1099511627776", "SIZE 1099511627777", "SIZE 9223372036854775808", "SIZE 01", "SIZE ", "DSN"}
	for _, a := range texts {
		for _, b := range texts {
			says(t, plainly(a, b), a, b)
			for _, c := range texts {
				says(t, plainly(a, b, c), a, b, c)
				says(t, plainly(a, b, c, a), a, b, c, a)
			}
		}
	}
}

// flags are all that a peer can, with Most 0.
func flags() []caps.Caps {
	out := []caps.Caps{{}}
	for _, x := range words {
		for _, c := range slices.Clone(out) {
			out = append(out, either(c, x.sets))
		}
	}
	return out
}

// mosts are numbers that Most may have, whether they count or not.
var mosts = []int{math.MinInt, -limit, -1, 0, 1, 2, 1000, limit - 1, limit, limit + 1, math.MaxInt - 1, math.MaxInt}

// counts tells whether a number of a SIZE does.
func counts(n int) bool {
	return n >= 1 && n <= limit
}

// P6.2: Texts, of each flag alone.
func TestTextsOfEach(t *testing.T) {
	if got := caps.Texts("mx.example", caps.Caps{}); !slices.Equal(got, []string{"mx.example"}) {
		t.Errorf("nothing: %q", got)
	}
	for _, x := range words {
		if got := caps.Texts("mx.example", x.sets); !slices.Equal(got, []string{"mx.example", x.word}) {
			t.Errorf("%+v: %q", x.sets, got)
		}
	}
}

// P6.2: Texts, of all flags, and whatever Most.
func TestTexts(t *testing.T) {
	c := everything
	c.Most = 1000
	if got := caps.Texts("h", c); !slices.Equal(got, []string{"h", "PIPELINING", "SIZE 1000", "STARTTLS", "REQUIRETLS", "DSN", "8BITMIME"}) {
		t.Errorf("all: %q", got)
	}
	all := flags()
	if len(all) != 64 || slices.Index(all, everything) < 0 {
		t.Fatalf("%d rows of flags", len(all))
	}
	for _, c := range all {
		for _, n := range mosts {
			c.Most = n
			size := "SIZE"
			if counts(n) {
				size += " " + strconv.Itoa(n)
			}
			want := []string{"h"}
			for i, is := range []bool{c.Pipelining, c.Size, c.StartTLS, c.RequireTLS, c.Dsn, c.EightBit} {
				switch {
				case is && i == 1:
					want = append(want, size)
				case is:
					want = append(want, words[i].word)
				}
			}
			if got := caps.Texts("h", c); !slices.Equal(got, want) {
				t.Errorf("%+v: %q; want %q", c, got, want)
			}
		}
	}
}

// P6.2: any text stands for a host, as it is.
func TestTextsOfWhateverHost(t *testing.T) {
	for _, host := range []string{"", " ", "mx.example", "Mx.Example.", "mx.example hi", "STARTTLS", "SIZE 5", "a\r\nb", "\x00", "\xff", "ſ", "..", strings.Repeat("a", 5000)} {
		for _, c := range []caps.Caps{{}, everything, sized(5)} {
			got := caps.Texts(host, c)
			if len(got) == 0 || got[0] != host || !slices.Equal(got[1:], caps.Texts("h", c)[1:]) {
				t.Errorf("%.40q: %.90q", host, got)
			}
			if back := caps.Of(reply.Reply{Code: 250, Lines: got}); back != c {
				t.Errorf("%.40q, %+v: %+v", host, c, back)
			}
		}
	}
}

// P6.2: Union, of each pair of flags, and of whatever Most.
func TestUnion(t *testing.T) {
	all := flags()
	for i, a := range all {
		for j, b := range all {
			a.Most, b.Most = mosts[(i+j)%len(mosts)], mosts[(i*7+j/3)%len(mosts)]
			if got := caps.Union(a, b); got != either(a, b) {
				t.Errorf("Union(%+v, %+v): %+v", a, b, got)
			}
		}
	}
	for _, a := range mosts {
		for _, b := range mosts {
			for _, x := range []caps.Caps{{}, {Size: true}} {
				for _, y := range []caps.Caps{{}, {Size: true}} {
					x.Most, y.Most = a, b
					if got := caps.Union(x, y); got != either(x, y) {
						t.Errorf("Union(%+v, %+v): %+v", x, y, got)
					}
				}
			}
		}
	}
	for i, x := range words {
		for j, y := range words {
			want := []bool{false, false, false, false, false, false}
			want[i], want[j] = true, true
			c := caps.Union(x.sets, y.sets)
			if got := []bool{c.Pipelining, c.Size, c.StartTLS, c.RequireTLS, c.Dsn, c.EightBit}; !slices.Equal(got, want) || c.Most != 0 {
				t.Errorf("%s, %s: %+v", x.word, y.word, c)
			}
		}
	}
}
