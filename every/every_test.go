package every_test

import (
	"slices"
	"strings"
	"testing"

	"mailroom/every"
)

// listed are the rows, each as a text.
func listed(some []string, n int) []string {
	var l []string
	for row := range every.Row(some, n) {
		l = append(l, strings.Join(row, ""))
	}
	return l
}

// TestRow: each row once, of none, of one, and of more; of nothing there is just the row of none.
func TestRow(t *testing.T) {
	for _, x := range []struct {
		some string
		n    int
		want []string
	}{
		{"ab", 0, []string{""}}, {"ab", 1, []string{"a", "b"}}, {"ab", 2, []string{"aa", "ba", "ab", "bb"}},
		{"a", 3, []string{"aaa"}}, {"", 0, []string{""}}, {"", 1, nil}, {"", 2, nil}, {"ab", -1, nil},
	} {
		if got := listed(strings.Split(x.some, ""), x.n); !slices.Equal(got, x.want) {
			t.Errorf("rows of %d out of %q: %q; want %q", x.n, x.some, got, x.want)
		}
	}
	l := listed([]string{"a", "b", "c"}, 4)
	slices.Sort(l)
	if len(l) != 81 || len(slices.Compact(l)) != 81 {
		t.Error("not each row once:", len(l))
	}
}

// TestRowEndsEarly: a loop may be left.
func TestRowEndsEarly(t *testing.T) {
	many := 0
	for range every.Row([]int{1, 2, 3}, 3) {
		many++
		if many == 4 {
			break
		}
	}
	if many != 4 {
		t.Error(many)
	}
}

// TestText: those of fewer pieces first.
func TestText(t *testing.T) {
	if l := every.Text(2, "a", "bc"); !slices.Equal(l, []string{"", "a", "bc", "aa", "abc", "bca", "bcbc"}) {
		t.Errorf("%q", l)
	}
	if l := every.Text(0, "a"); !slices.Equal(l, []string{""}) {
		t.Errorf("%q", l)
	}
	if l := every.Text(3); !slices.Equal(l, []string{""}) {
		t.Errorf("%q", l)
	}
}
