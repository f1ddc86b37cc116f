package caps_test

import (
	"math"
	"slices"
	"strings"
	"testing"
	"unsafe"

	"mailroom/caps"
	"mailroom/reply"
)

// pieces are texts of each kind: keywords, SIZEs with whatever number, and such as say nothing.
var pieces = []string{
	"STARTTLS", "pipelining", "RequireTLS", "DSN", "8bitmime", "SIZE", "size 0", "SIZE 1", "Size 1000", "SIZE 1099511627776",
	"SIZE 1099511627777", "SIZE 18446744073709551617", "", "X-ODD 1", "STARTTLS now", " DSN", "SIZE 01", "SIZE  5", "8BITMIMES", "ſize 5",
}

// P6.3: what is said by a reply of Texts is what was put in.
func TestBack(t *testing.T) {
	for _, c := range flags() {
		for _, n := range mosts {
			c.Most = n
			want := c
			if !c.Size || !counts(n) {
				want.Most = 0
			}
			texts := caps.Texts("mx.example", c)
			if got := caps.Of(reply.Reply{Code: 250, Lines: texts}); got != want {
				t.Errorf("%+v, by %q: %+v; want %+v", c, texts, got, want)
			}
			// It is so, too, where they come over a line.
			r := reply.New()
			for _, s := range reply.Show(reply.Reply{Code: 250, Lines: texts}) {
				r.Line(s)
			}
			if x, ok := r.Take(); !ok || caps.Of(x) != want {
				t.Errorf("%+v, by a reader, of %q: %+v; want %+v", c, texts, caps.Of(x), want)
			}
		}
	}
}

// P6.3: and what was said once is said again by the texts of it.
func TestBackOfWhatWasSaid(t *testing.T) {
	for _, a := range pieces {
		for _, b := range pieces {
			for _, c := range pieces {
				said := of(a, b, c)
				if again := of(caps.Texts("h", said)[1:]...); again != said {
					t.Errorf("%q say %+v, and by its texts %+v", []string{a, b, c}, said, again)
				}
			}
		}
	}
}

// P6.4: what lines say, and more lines behind, is the Union.
func TestMoreLines(t *testing.T) {
	var rows [][]string
	for _, a := range pieces {
		rows = append(rows, []string{a})
		for _, b := range pieces {
			rows = append(rows, []string{a, b})
		}
	}
	rows = append(rows, nil, pieces, slices.Repeat(pieces, 3))
	for _, a := range rows {
		for _, b := range rows {
			together := of(slices.Concat(a, b)...)
			if want := caps.Union(of(a...), of(b...)); together != want {
				t.Fatalf("%q, and %q: %+v; want %+v", a, b, together, want)
			}
			if want := plainly(slices.Concat(a, b)...); together != want {
				t.Fatalf("%q, and %q: %+v; by the chapter's words %+v", a, b, together, want)
			}
		}
	}
}

// P6.4: a Union is with nothing what it was, with itself, too, and it is the same however three are put together.
func TestUnions(t *testing.T) {
	var list []caps.Caps
	for i, c := range flags() {
		c.Most = mosts[i%len(mosts)]
		list = append(list, c)
	}
	for _, a := range list {
		for _, same := range []caps.Caps{{}, a} {
			if caps.Union(a, same) != a || caps.Union(same, a) != a {
				t.Errorf("%+v, and %+v: %+v, %+v", a, same, caps.Union(a, same), caps.Union(same, a))
			}
		}
		for _, b := range list {
			for _, c := range list[:13] {
				if left, right := caps.Union(caps.Union(a, b), c), caps.Union(a, caps.Union(b, c)); left != right {
					t.Fatalf("%+v, %+v, %+v: %+v, %+v", a, b, c, left, right)
				}
			}
		}
	}
}

// P6.5: great letters, or small ones, make no difference.
func TestGreatAndSmall(t *testing.T) {
	great, small := func(s string) string { return mapped(s, 'a', 'z', 'A') }, func(s string) string { return mapped(s, 'A', 'Z', 'a') }
	for _, a := range pieces {
		for _, b := range pieces {
			want := of(a, b)
			for _, x := range [][]string{{great(a), great(b)}, {small(a), small(b)}, {great(a), small(b)}, {small(a), b}} {
				if got := of(x...); got != want {
					t.Errorf("%q say %+v; %q %+v", []string{a, b}, want, x, got)
				}
			}
		}
	}
}

// mapped puts for each byte of s from a to b the one that stands as far behind to.
func mapped(s string, a, b, to byte) string {
	out := []byte(s)
	for i, c := range out {
		if c >= a && c <= b {
			out[i] = c - a + to
		}
	}
	return string(out)
}

// P6.5: nor does a text that says nothing, wherever it stands.
func TestOtherTexts(t *testing.T) {
	var says, silent []string
	for _, s := range pieces {
		if plainly(s) == (caps.Caps{}) {
			silent = append(silent, s)
		} else {
			says = append(says, s)
		}
	}
	if len(says) != 12 || len(silent) != 8 {
		t.Fatalf("%q, %q", says, silent)
	}
	for _, a := range says {
		for _, b := range says {
			want := of(a, b)
			for _, s := range silent {
				for _, x := range [][]string{{s, a, b}, {a, s, b}, {a, b, s}, {s, a, s, s, b, s}} {
					if got := of(x...); got != want {
						t.Errorf("%q say %+v; %q %+v", []string{a, b}, want, x, got)
					}
				}
			}
		}
	}
}

// P6.6: a reply with another number than 250 says nothing.
func TestOtherNumbers(t *testing.T) {
	lines := append([]string{"mx.example"}, pieces...)
	if got := caps.Of(reply.Reply{Code: 250, Status: "5.0.0", Lines: lines}); got != plainly(pieces...) || got.Most != 1 {
		t.Errorf("250: %+v", got)
	}
	numbers := []int{math.MinInt, -250, math.MaxInt, 2500, 25000, 250 + 256, 250 + 1<<16, 250 + 1<<32}
	for n := -1; n < 1000; n++ {
		numbers = append(numbers, n)
	}
	for _, n := range numbers {
		if got := caps.Of(reply.Reply{Code: n, Status: "2.5.0", Lines: lines}); n != 250 && got != (caps.Caps{}) {
			t.Errorf("%d says %+v", n, got)
		}
	}
}

// P6.6: nor does the first line say anything, or change what the others do.
func TestFirstLine(t *testing.T) {
	for _, first := range append(writings("SIZE"), pieces...) {
		if got := caps.Of(reply.Reply{Code: 250, Lines: []string{first}}); got != (caps.Caps{}) {
			t.Errorf("%q as a first line says %+v", first, got)
		}
		for _, s := range pieces {
			if got := caps.Of(reply.Reply{Code: 250, Lines: []string{first, s}}); got != plainly(s) {
				t.Errorf("%q behind %q says %+v", s, first, got)
			}
		}
	}
}

// R1: what is handed in stays, a call tells the same whenever it is made, and what is told shares no memory with what is handed in, or told elsewhere.
func TestNothingShared(t *testing.T) {
	lines := append([]string{"mx.example"}, pieces...)
	ahead := slices.Clone(lines)
	first := caps.Of(reply.Reply{Code: 250, Lines: lines[:2:3]})
	if again := caps.Of(reply.Reply{Code: 250, Lines: lines[:2:3]}); again != first || !slices.Equal(lines, ahead) {
		t.Errorf("%+v, and again %+v; what was handed in: %q", first, again, lines)
	}

	host := strings.Clone("mx.example")
	a, b := caps.Texts(host, everything), caps.Texts(host, everything)
	if unsafe.StringData(a[0]) == unsafe.StringData(host) || unsafe.StringData(a[0]) == unsafe.StringData(b[0]) {
		t.Error("the host's bytes are shared")
	}
	for i := range a {
		a[i] = "changed"
	}
	a = append(a, "more")
	if c := caps.Texts(host, everything); !slices.Equal(b, c) || len(b) != 7 || host != "mx.example" {
		t.Errorf("%q, %q, %q", host, b, c)
	}
}
