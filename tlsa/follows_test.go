package tlsa_test

import (
	"math"
	"slices"
	"strings"
	"testing"
	"unsafe"

	"mailroom/api"
	"mailroom/cert"
	"mailroom/every"
	"mailroom/tlsa"
	"mailroom/trust"
)

// TestThePeersOwn: P16.4: of Usage 3 a chain is matched just as its first certificate alone is, for whatever host, at whatever time.
func TestThePeersOwn(t *testing.T) {
	list := links(t)
	for n := 1; n <= 2; n++ {
		for chain := range every.Row(list, n) {
			bytes := bytesOf(chain)
			for _, r := range asked(list) {
				if r.Usage != 3 {
					continue
				}
				want := tlsa.Matches(r, bytes[:1], host, 1)
				for _, h := range []string{host, "", "y.com"} {
					for _, now := range []int{math.MinInt, 0, 1, 2, maxClock} {
						if tlsa.Matches(r, bytes, h, now) != want || tlsa.Matches(r, bytes[:1], h, now) != want || tlsa.Matches(r, slices.Concat(bytes, bytes, bytes), h, now) != want {
							t.Fatalf("%q, %x, %q, %d: not %v", tlsa.Show(r), bytes, h, now, want)
						}
					}
				}
			}
		}
	}
}

// TestOfOthers: P16.5: of Usage 2 no chain of one alone is matched; one that is, is so with more behind; the first one is the host's.
func TestOfOthers(t *testing.T) {
	list := links(t)
	var records []api.TLSA
	for _, r := range asked(list) {
		if r.Usage == 2 {
			records = append(records, r)
		}
	}
	more := [][]string{{""}, {list[1].s}, {list[9].s, list[20].s}, {"x", list[4].s}, bytesOf(certificates(t, row(3)...)), slices.Repeat([]string{list[30].s}, 5)}
	many := 0
	for n := 1; n <= 2; n++ {
		for chain := range every.Row(list, n) {
			bytes := bytesOf(chain)
			for _, r := range records {
				for _, h := range []string{host, "x.com"} {
					if !tlsa.Matches(r, bytes, h, 1) {
						continue
					}
					many++
					if n == 1 || !trust.Host(chain[0].c, h) || tlsa.Matches(r, bytes, "y.com", 1) {
						t.Fatalf("%q matches %x for %q", tlsa.Show(r), bytes, h)
					}
					for _, behind := range more {
						if !tlsa.Matches(r, slices.Concat(bytes, behind), h, 1) {
							t.Fatalf("%q does not match %x, with %x behind, for %q", tlsa.Show(r), bytes, behind, h)
						}
					}
				}
			}
		}
	}
	if many == 0 {
		t.Error("no chain was matched")
	}
}

// TestOfOthersLongOnes: P16.5, of rows of up to MaxChain.
func TestOfOthersLongOnes(t *testing.T) {
	bad := append(others(t)[:3], certificates(t, row(3)[2], row(2)[0], but(row(3), 1, func(c *cert.Cert) { c.Until = 0 })[1])...)
	for n := 2; n < maxChain; n++ {
		chain := certificates(t, row(n)...)
		for _, r := range recordsOf(2, chain[n-1]) {
			for behind := range every.Row(bad, maxChain-n) {
				matches(t, r, slices.Concat(chain, behind), host, from, true)
			}
		}
	}
}

// TestMoreRecords: P16.6: with a record more what was matched is so; without one that is not usable it is the same.
func TestMoreRecords(t *testing.T) {
	chain := certificates(t, row(3)...)
	bytes := bytesOf(chain)
	some := []api.TLSA{
		recordsOf(3, chain[0])[3], recordsOf(2, chain[2])[0], recordsOf(3, chain[1])[0], recordsOf(2, chain[0])[2],
		recordsOf(1, chain[0])[3], record(3, 2, 0, chain[0].s), record(2, 0, 2, chain[2].s), record(3, 1, 0, ""),
	}
	many := 0
	for n := range maxTLSA + 1 {
		for l := range every.Row(some, n) {
			any := tlsa.Any(l, bytes, host, from)
			for i, r := range l {
				without := slices.Delete(slices.Clone(l), i, i+1)
				less := tlsa.Any(without, bytes, host, from)
				if less && !any || !tlsa.Usable(r) && less != any {
					t.Fatalf("Any(%q): %v; without the one at %d: %v", l, any, i, less)
				}
			}
			if any {
				many++
			}
		}
	}
	if many == 0 {
		t.Error("none was matched")
	}
}

// TestBothWays: what Any tells is what Matches tells of one of the Usables.
func TestBothWays(t *testing.T) {
	list := links(t)
	records := asked(list)
	for chain := range every.Row(list, 2) {
		bytes := bytesOf(chain)
		for i := range records {
			l := append(slices.Clone(records[i:]), records[:i]...)
			want := false
			for _, r := range tlsa.Usables(l) {
				want = want || tlsa.Matches(r, bytes, host, 1)
			}
			if got := tlsa.Any(l, bytes, host, 1); got != want {
				t.Fatalf("Any(%q, %x): %v", l, bytes, got)
			}
		}
	}
}

// inputs are records and chains of whatever kind.
func inputs(t *testing.T) ([]api.TLSA, []string) {
	t.Helper()
	chain := certificates(t, row(5)...)
	l := append(recordsOf(2, chain[1]), recordsOf(3, chain[0])...)
	return append(l, api.TLSA{}, record(255, 255, 255, strings.Repeat("x", 1000))), append(bytesOf(chain), bytesOf(others(t))...)
}

// TestWhatIsHandedInStays: R1: lists and chains are what they were, also where there is room behind them.
func TestWhatIsHandedInStays(t *testing.T) {
	l, chain := inputs(t)
	keptL, keptChain := slices.Clone(l), slices.Clone(chain)
	for n := range len(l) + 1 {
		tlsa.Usables(l[:n])
		for m := range len(chain) + 1 {
			tlsa.Any(l[:n], chain[:m], host, from)
		}
	}
	for m := range len(chain) + 1 {
		for _, r := range l {
			tlsa.Matches(r, chain[:m], host, from)
		}
	}
	if !slices.Equal(l, keptL) || !slices.Equal(chain, keptChain) {
		t.Error("what was handed in was changed")
	}
}

// TestTheSameAgain: R1: what is told once is told again; nothing is kept between.
func TestTheSameAgain(t *testing.T) {
	l, chain := inputs(t)
	first := tlsa.Any(l, chain, host, from)
	tlsa.Any(l[4:], nil, "", -1)
	tlsa.Matches(api.TLSA{}, chain[2:], "x", to)
	if !first || !tlsa.Any(l, chain, host, from) {
		t.Error("Any tells something else")
	}
	if tlsa.Make(2, 0, 1, chain[0]) != tlsa.Make(2, 0, 1, chain[0]) {
		t.Error("Make tells something else")
	}
}

// shares tells whether two texts have bytes at one place.
func shares(a, b string) bool {
	if a == "" || b == "" {
		return false
	}
	p, q := uintptr(unsafe.Pointer(unsafe.StringData(a))), uintptr(unsafe.Pointer(unsafe.StringData(b)))
	return p < q+uintptr(len(b)) && q < p+uintptr(len(a))
}

// TestNothingIsShared: R1: what is told shares no memory with what was handed in.
func TestNothingIsShared(t *testing.T) {
	l, chain := inputs(t)
	for i, r := range tlsa.Usables(l) {
		if shares(r.Data, l[i].Data) {
			t.Errorf("Usables: Data of the one at %d", i)
		}
	}
	some := tlsa.Usables(l)
	some[0] = api.TLSA{}
	if l[0] == some[0] {
		t.Error("Usables: the list is the same")
	}
	if more := tlsa.Usables(l[:1]); append(more, api.TLSA{}) == nil || l[1] == (api.TLSA{}) {
		t.Error("Usables: the room behind is the same")
	}
	for selector := range uint8(2) {
		for match := range uint8(2) {
			if r := tlsa.Make(3, selector, match, chain[0]); r.Data == "" || shares(r.Data, chain[0]) {
				t.Errorf("Make of %d %d", selector, match)
			}
		}
	}
	for _, r := range l {
		if s := tlsa.Show(r); shares(s, r.Data) {
			t.Error("Show shares Data")
		} else if p, e := tlsa.Parse(s); e != 0 || p != r || shares(p.Data, s) {
			t.Errorf("Parse(%q)", s)
		}
	}
}

// TestGreatInputs: R1: long lists, long chains, and long pieces of them come to an end.
func TestGreatInputs(t *testing.T) {
	own := certificates(t, row(2)...)
	long := strings.Repeat("\x30", 1<<22)
	chain := append(bytesOf(own), slices.Repeat([]string{long}, 1<<16)...)
	list := append([]api.TLSA{record(2, 0, 0, own[1].s)}, slices.Repeat([]api.TLSA{record(3, 0, 0, long)}, 1<<16)...)
	if !tlsa.Any(list, chain, host, from) || !tlsa.Matches(list[0], chain, host, from) || tlsa.Matches(list[1], chain, host, from) {
		t.Error("great lists")
	}
	if tlsa.Any(list[1:], slices.Repeat([]string{long}, 1<<16), long, from) || tlsa.Any(list, chain, long, from) {
		t.Error("great pieces")
	}
	if l := tlsa.Usables(list); !slices.Equal(l, list[:1]) {
		t.Error("Usables of a long list:", len(l))
	}
	if tlsa.Usable(record(3, 0, 0, long)) || tlsa.Of(record(3, 0, 0, long), long) || tlsa.Make(3, 0, 1, long) != record(3, 0, 1, "") {
		t.Error("a great certificate")
	}
	for _, now := range []int{math.MinInt, math.MaxInt} {
		matches(t, list[0], own, host, now, false)
		matches(t, record(3, 0, 0, own[0].s), own, host, now, true)
	}
}
