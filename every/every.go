// Package every tells all rows of some things: the project's tests hold all of what is small enough against the chapters' words.
package every

import "iter"

// Row goes over all rows of n out of some; the first place changes fastest. Each row is new.
func Row[T any](some []T, n int) iter.Seq[[]T] {
	return func(yield func(row []T) bool) {
		if n < 0 || n > 0 && len(some) == 0 {
			return
		}
		places := make([]int, n)
		for {
			var row []T
			for _, p := range places {
				row = append(row, some[p])
			}
			if !yield(row) || !next(places, len(some)) {
				return
			}
		}
	}
}

// Text tells each text of up to n of these pieces, the shorter rows of pieces first.
func Text(n int, pieces ...string) []string {
	out := []string{""}
	for from := 0; n > 0; n-- {
		to := len(out)
		for _, s := range out[from:to] {
			for _, p := range pieces {
				out = append(out, s+p)
			}
		}
		from = to
	}
	return out
}

// next counts one on, in digits of which there are so many; no: all are 0 again.
func next(digits []int, many int) bool {
	for i := range digits {
		digits[i]++
		if digits[i] < many {
			return true
		}
		digits[i] = 0
	}
	return false
}
