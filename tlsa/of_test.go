package tlsa_test

import (
	"strings"
	"testing"

	"mailroom/api"
	"mailroom/cert"
	"mailroom/tlsa"
)

// of wants that bytes are a record's, or not, and that the words say so.
func of(t *testing.T, r api.TLSA, p piece, want bool) {
	t.Helper()
	if got := tlsa.Of(r, p.s); got != want || isOf(r, p) != want {
		t.Errorf("Of(%q, %x): %v; want %v", tlsa.Show(r), p.s, got, want)
	}
}

// made is what the chapter's words make of a certificate, by each Selector and Match.
func made(p piece) [2][2]string {
	f := form(p.c.Key)
	return [2][2]string{{p.s, sum(p.s)}, {f, sum(f)}}
}

// several are certificates that differ in their keys, or in something else.
func several(t *testing.T) []piece {
	t.Helper()
	l := row(3)
	for _, change := range []func(c *cert.Cert){
		func(c *cert.Cert) { c.Names = nil },
		func(c *cert.Cert) { c.Names = []string{"*.com", "a.b"} },
		func(c *cert.Cert) { c.From, c.Until = 2, 1 },
		func(c *cert.Cert) { c.CA = true },
		func(c *cert.Cert) { c.Signer = strings.Repeat("\x00", 32) },
		func(c *cert.Cert) { c.Key = "k" },
		func(c *cert.Cert) { c.Key = strings.Repeat("k", 64) },
		func(c *cert.Cert) { c.Key = "\x00" },
		func(c *cert.Cert) { c.Key = sum("a key that is a digest") },
	} {
		l = append(l, but(row(1), 0, change)[0])
	}
	return certificates(t, l...)
}

// longest is a certificate of as many bytes as may be.
func longest(t *testing.T) piece {
	t.Helper()
	for n := 100; n < 250; n++ {
		c := but(row(1), 0, func(c *cert.Cert) {
			c.Names = []string{strings.Repeat("a.", 120) + "b", strings.Repeat("a.", n/2) + strings.Repeat("b", 1+n%2)}
		})[0]
		if s, _ := cert.Encode(c); len(s) == maxCert {
			return certificate(t, c)
		}
	}
	t.Fatal("no certificate is so long")
	return piece{}
}

// TestOf: P16.1: each Selector with each Match, of each certificate, of each Usage.
func TestOf(t *testing.T) {
	some := append(several(t), longest(t))
	for i, p := range some {
		for usage := range uint8(6) {
			for selector := range uint8(4) {
				for match := range uint8(4) {
					is := (usage == 2 || usage == 3) && selector < 2 && match < 2
					data := made(p)[selector%2][match%2]
					of(t, record(usage, selector, match, data), p, is)
					for j, q := range some {
						of(t, record(usage, selector, match, data), q, is && (i == j || selector == 1 && p.c.Key == q.c.Key))
					}
				}
			}
		}
	}
}

// TestOfWhatAnotherTakes: P16.1: what the other Selector takes, or the other Match makes, is not what is asked.
func TestOfWhatAnotherTakes(t *testing.T) {
	for _, p := range several(t) {
		all := made(p)
		for selector := range uint8(2) {
			for match := range uint8(2) {
				for i, l := range all {
					for j, data := range l {
						of(t, record(3, selector, match, data), p, i == int(selector) && j == int(match))
					}
				}
			}
		}
	}
}

// TestOfTheKeyAlone: P16.1: the key, and its digest, where its form, and that one's digest, are asked.
func TestOfTheKeyAlone(t *testing.T) {
	for _, p := range several(t) {
		k := p.c.Key
		for _, data := range []string{k, sum(k), "\x04" + string([]byte{byte(len(k))}) + k, sum("\x04" + string([]byte{byte(len(k))}) + k), sum(sum(form(k))), p.c.Signer} {
			for selector := range uint8(2) {
				for match := range uint8(2) {
					of(t, record(3, selector, match, data), p, false)
				}
			}
		}
	}
}

// TestOfSpoiltData: P16.1: Data of which one bit is another, or a byte is missing, or is more.
func TestOfSpoiltData(t *testing.T) {
	p := certificate(t, row(1)[0])
	for selector := range uint8(2) {
		for match := range uint8(2) {
			data := made(p)[selector][match]
			for bit := range 8 * len(data) {
				b := []byte(data)
				b[bit/8] ^= 1 << (bit % 8)
				of(t, record(3, selector, match, string(b)), p, false)
			}
			for i := range data {
				of(t, record(3, selector, match, data[:i]+data[i+1:]), p, false)
				of(t, record(3, selector, match, data[:i]), p, false)
				of(t, record(3, selector, match, data[:i]+"\x00"+data[i:]), p, false)
			}
			of(t, record(3, selector, match, data+"\x00"), p, false)
			of(t, record(3, selector, match, ""), p, false)
		}
	}
}

// TestOfBytesThatAreNone: P16.1: bytes that are no certificate's are no record's, also where Data are just these, or their digest.
func TestOfBytesThatAreNone(t *testing.T) {
	own := made(certificate(t, row(1)[0]))
	for _, p := range others(t) {
		for selector := range uint8(2) {
			for match := range uint8(2) {
				for _, data := range []string{p.s, sum(p.s), form(p.s), sum(form(p.s)), "", own[selector][match]} {
					of(t, record(3, selector, match, data), p, false)
					of(t, record(2, selector, match, data), p, false)
				}
			}
		}
	}
}

// makesOf wants the record that is made of bytes.
func makesOf(t *testing.T, usage, selector, match uint8, s string, data string) {
	t.Helper()
	want := api.TLSA{Usage: usage, Selector: selector, Match: match, Data: data}
	if got := tlsa.Make(usage, selector, match, s); got != want {
		t.Errorf("Make(%d, %d, %d, %x): %q; want %q", usage, selector, match, s, tlsa.Show(got), tlsa.Show(want))
	}
}

// TestMake: P16.1: of each certificate, by all numbers; of numbers that may not be there are no Data.
func TestMake(t *testing.T) {
	for _, p := range append(several(t), longest(t)) {
		all := made(p)
		for usage := range uint8(6) {
			for selector := range uint8(4) {
				for match := range uint8(4) {
					data := ""
					if (usage == 2 || usage == 3) && selector < 2 && match < 2 {
						data = all[selector][match]
					}
					makesOf(t, usage, selector, match, p.s, data)
				}
			}
		}
		for n := range 256 {
			b := uint8(n)
			if n != 2 && n != 3 {
				makesOf(t, b, 0, 0, p.s, "")
			}
			if n > 1 {
				makesOf(t, 3, b, 0, p.s, "")
				makesOf(t, 3, 0, b, p.s, "")
				makesOf(t, b, b, b, p.s, "")
			}
		}
	}
}

// TestMakeOfBytesThatAreNone: P16.1: these numbers, and no Data.
func TestMakeOfBytesThatAreNone(t *testing.T) {
	for _, p := range others(t) {
		for usage := range uint8(5) {
			for selector := range uint8(3) {
				for match := range uint8(3) {
					makesOf(t, usage, selector, match, p.s, "")
				}
			}
		}
		makesOf(t, 255, 254, 253, p.s, "")
	}
}

// TestMade: P16.3: what is made, usable, is those bytes', and other bytes' just if the key is the same, where that is what is taken.
func TestMade(t *testing.T) {
	some := append(append(several(t), longest(t)), others(t)...)
	for i, p := range some {
		for usage := range uint8(5) {
			for selector := range uint8(3) {
				for match := range uint8(3) {
					r := tlsa.Make(usage, selector, match, p.s)
					if (r.Data == "") == tlsa.Usable(r) || tlsa.Usable(r) != (p.is && (usage == 2 || usage == 3) && selector < 2 && match < 2) {
						t.Errorf("Make(%d, %d, %d, %x) has %d bytes, and is usable: %v", usage, selector, match, p.s, len(r.Data), tlsa.Usable(r))
					}
					for j, q := range some {
						same := i == j || selector == 1 && q.is && p.c.Key == q.c.Key
						of(t, r, q, tlsa.Usable(r) && same)
					}
				}
			}
		}
	}
}
