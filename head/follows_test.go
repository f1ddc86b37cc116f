package head_test

import (
	"slices"
	"strings"
	"testing"
	"unicode"

	"mailroom/api"
	"mailroom/every"
	"mailroom/head"
	"mailroom/line"
)

// some are rows of fields that may be shown.
func some() [][]head.Field {
	names := []string{"A", "a", "!~", "Received", "TLS-Required"}
	values := []string{"", "b", "No", "b c", "b  c d", ":", "x: y\tz w", "a\t b \tc", "\""}
	out := [][]head.Field{nil}
	var each []head.Field
	for _, n := range names {
		for _, v := range values {
			each = append(each, head.Field{Name: n, Value: v})
		}
	}
	for i, f := range each {
		out = append(out, []head.Field{f}, []head.Field{f, f})
		for _, g := range each {
			out = append(out, []head.Field{f, g}, []head.Field{g, each[len(each)-1-i], f})
		}
	}
	return append(out, each)
}

// shownOf is the lines of fields that may be shown, one behind the other.
func shownOf(t *testing.T, fields []head.Field) []string {
	t.Helper()
	var out []string
	for _, f := range fields {
		s, e := head.Show(f)
		if e != api.OK {
			t.Fatalf("Show(%q): %v", f, e)
		}
		out = append(out, s)
	}
	return out
}

// foldings are a line as it is, folded at each of its blanks alone, at all of them, and at each but one.
func foldings(s string) []string {
	out := []string{s, strings.ReplaceAll(s, " ", "\r\n ")}
	for i := range len(s) {
		if s[i] == ' ' {
			out = append(out, s[:i]+"\r\n"+s[i:])
			out = append(out, strings.ReplaceAll(s[:i], " ", "\r\n ")+" "+strings.ReplaceAll(s[i+1:], " ", "\r\n "))
		}
	}
	return out
}

// behinds are an empty line and whatever body, as they may stand behind a text's head.
func behinds() []string {
	out := []string{"", "\r\n"}
	for _, s := range append(every.Text(3, "A: b", " ", "\r\n", "\r", "\n"), "TLS-Required: No\r\n", "Received: x\r\n", " x\r\n", "x\r\n\r\nA: b\r\n", "\x00\xff") {
		out = append(out, "\r\n"+s)
	}
	return out
}

// P9.3: of lines that are shown of fields the fields are these.
func TestThereAndBack(t *testing.T) {
	for _, fields := range some() {
		text := line.Join(shownOf(t, fields))
		if got := head.Fields(text); !slices.Equal(got, fields) {
			t.Fatalf("%q, shown, read: %q", fields, got)
		}
		agrees(t, text)
	}
}

// P9.3: folded where a blank stands they are the same, also with an empty line and a body behind.
func TestFolded(t *testing.T) {
	bodies := behinds()
	for k, fields := range some() {
		lines := shownOf(t, fields)
		for at := range lines {
			for _, s := range foldings(lines[at]) {
				folded := slices.Clone(lines)
				folded[at] = s
				text := line.Join(folded)
				for _, behind := range []string{"", "\r\n", bodies[k%len(bodies)]} {
					if got := head.Fields(text + behind); !slices.Equal(got, fields) {
						t.Fatalf("%q, shown as %q, read: %q", fields, text+behind, got)
					}
				}
			}
		}
	}
}

// P9.4: what the body has is not looked at, but by Body.
func TestWhateverStandsBehind(t *testing.T) {
	for _, ahead := range append(every.Text(4, "A: b", " ", "\r\n", "x", ":"), "TLS-Required: No\r\n", "Received: x\r\nReceived: y\r\n", "A: b\r\n c\r\n") {
		if ahead != "" && !strings.HasSuffix(ahead, "\r\n") || strings.Contains("\r\n"+ahead, "\r\n\r\n") {
			continue // these are no lines of a head
		}
		fields, plain, hops, values := head.Fields(ahead), head.Plain(ahead), head.Hops(ahead), head.Get(ahead, "a")
		if s := head.Body(ahead); s != "" {
			t.Fatalf("Body(%q): %q", ahead, s)
		}
		for _, behind := range behinds() {
			text := ahead + behind
			if !slices.Equal(head.Fields(text), fields) || head.Plain(text) != plain || head.Hops(text) != hops || !slices.Equal(head.Get(text, "a"), values) {
				t.Fatalf("%q: another than %q", text, ahead)
			}
			if behind == "" {
				continue
			}
			if s := head.Body(text); ahead+"\r\n"+s != text {
				t.Fatalf("Body(%q): %q", text, s)
			}
		}
	}
}

// turned writes great letters small, and small ones great.
func turned(s string) string {
	return strings.Map(func(r rune) rune {
		if unicode.IsLetter(r) {
			return r ^ ' '
		}
		return r
	}, s)
}

// P9.5: with names' letters great, or small, all is the same, but for the names.
func TestGreatAndSmall(t *testing.T) {
	ways := []func(string) string{strings.ToUpper, strings.ToLower, turned}
	for _, fields := range some() {
		text := line.Join(shownOf(t, fields)) + "\r\nbody: x\r\n"
		for _, way := range ways {
			other := slices.Clone(fields)
			for i := range other {
				other[i].Name = way(other[i].Name)
			}
			written := line.Join(shownOf(t, other)) + "\r\nbody: x\r\n"
			if got := head.Fields(written); !slices.Equal(got, other) {
				t.Fatalf("Fields(%q): %q", written, got)
			}
			if head.Plain(written) != head.Plain(text) || head.Hops(written) != head.Hops(text) || head.Body(written) != head.Body(text) {
				t.Fatalf("%q: another than %q", written, text)
			}
			for i, f := range fields {
				if !head.Like(f.Name, other[i].Name) {
					t.Fatalf("Like(%q, %q): no", f.Name, other[i].Name)
				}
				want := head.Get(text, f.Name)
				for _, n := range []string{f.Name, other[i].Name} {
					if got := head.Get(written, n); len(got) == 0 || !slices.Equal(got, want) {
						t.Fatalf("Get(%q, %q): %q; want %q", written, n, got, want)
					}
				}
			}
		}
	}
}

// P9.6: just one field TLS-Required, and just that value; other fields make no difference.
func TestOneNo(t *testing.T) {
	others := [][]head.Field{nil, row("A", "b"), row("Received", "No"), row("TLS-Require", "No", "TLS-Required-", "Yes"), row("A", "TLS-Required: No", "No", "TLS-Required")}
	values := []string{"No", "no", "nO", "NO", "", "Yes", "N", "o", "Nol", "No No", "\"No\""}
	for _, ahead := range others {
		for _, within := range others {
			for _, v := range values {
				is := strings.ToLower(v) == "no"
				one := append(slices.Clone(ahead), head.Field{Name: "TLS-Required", Value: v})
				text := line.Join(shownOf(t, append(one, within...)))
				if got := head.Plain(text); got != is {
					t.Fatalf("Plain(%q): %v", text, got)
				}
				for _, w := range values {
					two := append(append(slices.Clone(one), within...), head.Field{Name: "tls-required", Value: w})
					if text := line.Join(shownOf(t, two)); head.Plain(text) {
						t.Fatalf("Plain(%q): yes", text)
					}
				}
			}
			if text := line.Join(shownOf(t, append(slices.Clone(ahead), within...))); head.Plain(text) {
				t.Fatalf("Plain(%q): yes", text)
			}
		}
	}
}

// R1: each call ends, of long texts, too: of many lines of one field, of many fields, of many in the body, of one long line.
func TestLongTexts(t *testing.T) {
	const n = 1 << 20
	if got := head.Get("A:\r\n"+strings.Repeat(" x\r\n", n), "a"); len(got) != 1 || len(got[0]) != 2*n-1 {
		t.Errorf("many lines of one field: %d values", len(got))
	}
	if got := head.Fields(strings.Repeat("A: b\r\n", n)); len(got) != n {
		t.Errorf("many fields: %d", len(got))
	}
	if got := head.Body("\r\n" + strings.Repeat("A: b\r\n", n)); len(got) != 6*n {
		t.Errorf("a long body: %d", len(got))
	}
	long := strings.Repeat("x", n)
	has(t, long+"\r\nA: b\r\n")
	if !head.Like(long, strings.ToUpper(long)) || head.Like(long, long[1:]+"y") {
		t.Error("long names")
	}
}
