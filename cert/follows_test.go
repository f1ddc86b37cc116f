package cert_test

import (
	"fmt"
	"slices"
	"strings"
	"testing"
	"unsafe"

	"mailroom/api"
	"mailroom/cert"
)

// each are certificates of each of some keys, Signers, names, times and truth values with each of the others.
func each() []cert.Cert {
	var list []cert.Cert
	for _, key := range []string{"k", "l", "kk", "k\x04\x20"} {
		for _, by := range []string{signer, letters(32)} {
			for _, names := range [][]string{nil, {"a"}, {"b"}, {"a", "b"}, {"b", "a"}, {"a", "a"}, {"*.a"}, {"a.b"}} {
				for _, from := range []int{0, 1, 128, maxClock} {
					for _, until := range []int{0, 1, 128, maxClock} {
						list = append(list, cert.Cert{Key: key, Signer: by, Names: names, From: from, Until: until})
						list = append(list, cert.Cert{Key: key, Signer: by, Names: names, From: from, Until: until, CA: true})
					}
				}
			}
		}
	}
	return list
}

// TestBack: P14.3, of all of these.
func TestBack(t *testing.T) {
	for _, c := range each() {
		encodes(t, c)
	}
}

// TestOneForm: P14.4: of all of these no two have the same bytes, and none's are the beginning of another one's.
func TestOneForm(t *testing.T) {
	var texts []string
	for _, c := range append(each(), some()...) {
		s, e := cert.Encode(c)
		if again, _ := cert.Encode(cert.Copy(c)); again != s || e != api.OK {
			t.Errorf("%+v has two forms: %x, %x, %v", c, s, again, e)
		}
		texts = append(texts, s)
	}
	slices.Sort(texts)
	// Behind a text stand first of all those that begin by it.
	for i, s := range texts[1:] {
		if strings.HasPrefix(s, texts[i]) {
			t.Errorf("%x begins %x", texts[i], s)
		}
	}
}

// TestSameBytes: P14.4: two have the same bytes just if they are the same.
func TestSameBytes(t *testing.T) {
	list := each()
	for i, a := range list {
		for j, b := range list[:64] {
			if cert.Same(a, b) != (i == j) {
				t.Errorf("Same(%+v, %+v): %v", a, b, i != j)
			}
		}
	}
	seen := map[string]bool{}
	for _, c := range list {
		s, _ := cert.Encode(c)
		if seen[s] {
			t.Errorf("%x is twice", s)
		}
		seen[s] = true
	}
}

// TestWithin: P14.5: a key's form stands in its certificate's bytes.
func TestWithin(t *testing.T) {
	for _, c := range append(each(), some()...) {
		s, _ := cert.Encode(c)
		if form := cert.Spki(c.Key); form == "" || !strings.Contains(s, form) {
			t.Errorf("%x is not in %x", form, s)
		}
	}
}

// TestOneKey: P14.5: no two keys of a byte or two, nor of those of many bytes, have one form.
func TestOneKey(t *testing.T) {
	keys := map[string]string{}
	add := func(key string) {
		form := cert.Spki(key)
		if other, is := keys[form]; is || form == "" {
			t.Errorf("%x and %x have the form %x", key, other, form)
		}
		keys[form] = key
	}
	for i := range 256 {
		add(string([]byte{byte(i)}))
		for j := range 256 {
			add(string([]byte{byte(i), byte(j)}))
		}
	}
	for n := 3; n <= 64; n++ {
		for i := range n {
			add(letters(i) + "\x00" + letters(n-1-i))
		}
	}
	for _, key := range []string{"\x04\x01a", "\x30\x03\x04\x01a", strings.Repeat("\x00", 63), strings.Repeat("\x00", 64)} {
		add(key)
	}
}

// TestAsLong: P14.6, with each name more, at each place.
func TestAsLong(t *testing.T) {
	for _, c := range some() {
		s, e := cert.Encode(c)
		if e != api.OK {
			t.Errorf("Encode(%+v): %v", c, e)
		}
		for _, n := range []string{"a", "*.a", nameOf(60), nameOf(126), nameOf(127), nameOf(128), nameOf(240), "*." + nameOf(253)} {
			for i := range len(c.Names) + 1 {
				more := cert.Copy(c)
				more.Names = slices.Insert(more.Names, i, n)
				longer, e := cert.Encode(more)
				if e == api.OK && len(longer) < len(s)+len(n)+2 {
					t.Errorf("with %d bytes more at %d: %d; without: %d", len(n), i, len(longer), len(s))
				}
				if e == api.OK != (len(bytesOf(more)) <= maxCert && len(more.Names) <= maxItems) {
					t.Errorf("with %d bytes more at %d: %v", len(n), i, e)
				}
			}
		}
	}
}

// anything is certificates of which some may not be.
func anything() []cert.Cert {
	return append(some(), cert.Cert{}, named(""), named("A", "\x00"), cert.Cert{Key: letters(100), Signer: "ab", From: -1, Until: 1 << 62},
		cert.Cert{Names: []string{}}, named(slices.Repeat([]string{"a.b"}, 100)...))
}

// TestCopy: P14.1: a copy is the same, whatever is copied, and goes its own way.
func TestCopy(t *testing.T) {
	for _, c := range anything() {
		was := fmt.Sprintf("%#v", c)
		n := cert.Copy(c)
		if !same(n, c) || !cert.Same(n, c) {
			t.Errorf("Copy(%+v): %+v", c, n)
		}
		for i := range n.Names {
			n.Names[i] = "other"
		}
		n.Names = append(n.Names, "more")
		n.Key, n.CA = "other", !n.CA
		if now := fmt.Sprintf("%#v", c); now != was {
			t.Errorf("%s is %s behind a change of its copy", was, now)
		}
	}
}

// TestCopyOfWhatIsWrittenOver: names that are written over change no copy that was made ahead of that.
func TestCopyOfWhatIsWrittenOver(t *testing.T) {
	names := []string{"a.b", "*.c.d", "e"}
	c := named(names[:2]...)
	n := cert.Copy(c)
	names[0], names[1], names[2] = "x", "y", "z"
	if !slices.Equal(n.Names, []string{"a.b", "*.c.d"}) || cert.Same(n, c) {
		t.Errorf("%q", n.Names)
	}
	n.Names = append(n.Names, "more")
	if names[2] != "z" {
		t.Error("what is put behind a copy's names stands in another list")
	}
}

// TestWhatIsHandedInStays: R1.
func TestWhatIsHandedInStays(t *testing.T) {
	for _, c := range anything() {
		c.Names = append(slices.Clone(c.Names), "b", "a", "c")
		room := c.Names[:len(c.Names)-1]
		c.Names = room
		was := fmt.Sprintf("%#v", c)
		cert.May(c)
		cert.Encode(c)
		cert.Same(c, c)
		cert.Copy(c)
		if now := fmt.Sprintf("%#v", c); now != was || c.Names[:len(room)+1][len(room)] != "c" {
			t.Errorf("%s is %s", was, now)
		}
	}
}

// shares tells whether two texts stand in one piece of memory.
func shares(a, b string) bool {
	if a == "" || b == "" {
		return false
	}
	x, y := uintptr(unsafe.Pointer(unsafe.StringData(a))), uintptr(unsafe.Pointer(unsafe.StringData(b)))
	return x < y+uintptr(len(b)) && y < x+uintptr(len(a))
}

// texts are all of a certificate's.
func texts(c cert.Cert) []string {
	return append([]string{c.Key, c.Signer}, c.Names...)
}

// sharesNone wants that no text of one list shares memory with one of another.
func sharesNone(t *testing.T, what string, list, others []string) {
	t.Helper()
	for _, a := range list {
		for _, b := range others {
			if shares(a, b) {
				t.Errorf("%s: %x shares memory with %x", what, a, b)
			}
		}
	}
}

// TestNothingShared: R1: what is told is new memory.
func TestNothingShared(t *testing.T) {
	for _, c := range some() {
		s, _ := cert.Encode(c)
		again, _ := cert.Encode(c)
		sharesNone(t, "Encode", []string{s}, append(texts(c), again))
		back, _ := cert.Decode(s)
		other, _ := cert.Decode(s)
		sharesNone(t, "Decode", texts(back), append(texts(other), s))
		sharesNone(t, "Copy", texts(cert.Copy(c)), append(texts(c), texts(cert.Copy(c))...))
		sharesNone(t, "Spki", []string{cert.Spki(c.Key)}, []string{c.Key, cert.Spki(c.Key)})
		sharesNone(t, "Digest", []string{cert.Digest(c.Key)}, []string{c.Key, cert.Digest(c.Key)})
		for i := range back.Names {
			back.Names[i] = "other"
		}
		if third, _ := cert.Decode(s); !same(other, c) || !same(third, c) {
			t.Errorf("two answers of Decode have one list: %+v", third)
		}
	}
}

// TestGreatOnes: R1: each call ends, however much it is handed.
func TestGreatOnes(t *testing.T) {
	great := cert.Cert{Key: letters(1 << 20), Signer: letters(1 << 20), Names: slices.Repeat([]string{nameOf(253)}, 1<<10), From: -1 << 63, Until: 1<<63 - 1}
	mayNot(t, great)
	if n := cert.Copy(great); !cert.Same(n, great) {
		t.Error("a great one's copy is not the same")
	}
	great.Key, great.Signer, great.From, great.Until = "k", signer, 0, 0
	if !cert.May(great) {
		t.Error("one of many names may not be")
	}
	encodesNone(t, great, api.ErrForm)
	decodesNone(t, bytesOf(great))
}
