package tests

import (
	"iter"
	"math"
	"math/rand/v2"
	"slices"
	"testing"

	"loop.example/g01010/impl"
)

// notAmounts are integers that no amount may be, at its two limits and at the ends of int64.
var notAmounts = []int64{-1, impl.MaxAmount + 1, math.MinInt64, math.MaxInt64, -impl.MaxAmount}

// fixedRandom gives the same numbers in every run, so that a failure can be repeated.
func fixedRandom() *rand.Rand { return rand.New(rand.NewPCG(1, 2)) }

func repeated(n int64, times int) []int64 { return slices.Repeat([]int64{n}, times) }

// inSpareRoom returns the list in front of other elements of its own memory, and a function that
// tells whether all of this memory is as it was.
func inSpareRoom[T comparable](list []T, others ...T) ([]T, func() bool) {
	memory := slices.Concat(list, others)
	before := slices.Clone(memory)
	return memory[:len(list)], func() bool { return slices.Equal(memory, before) }
}

// overwrite writes own over a result and the memory behind it.
func overwrite[T any](list []T, own T) {
	behind := list[:cap(list)]
	for i := range behind {
		behind[i] = own
	}
}

func wantInts(t *testing.T, what string, got []int64, code int64, want []int64, wantCode int64) {
	t.Helper()
	wantList(t, what, got, code, want, wantCode)
}

func wantList[T comparable](t *testing.T, what string, got []T, code int64, want []T, wantCode int64) {
	t.Helper()
	if code != wantCode || !slices.Equal(got, want) {
		t.Errorf("%s: got %v, code %d; want %v, code %d", what, got, code, want, wantCode)
	}
}

func wantInt(t *testing.T, what string, got, code, want, wantCode int64) {
	t.Helper()
	if code != wantCode || got != want {
		t.Errorf("%s: got %d, code %d; want %d, code %d", what, got, code, want, wantCode)
	}
}

// changedTexts goes through s and all texts that differ from it in one place: a beginning or an end of it,
// and those with one byte more, less, or in place of another.
func changedTexts(s string) iter.Seq[string] {
	return func(yield func(string) bool) {
		for i := range len(s) + 1 {
			texts := []string{s[:i], s[i:]}
			for letter := range 256 {
				put := string([]byte{byte(letter)})
				texts = append(texts, s[:i]+put+s[i:])
				if i < len(s) {
					texts = append(texts, s[:i]+put+s[i+1:])
				}
			}
			if i < len(s) {
				texts = append(texts, s[:i]+s[i+1:])
			}
			for _, text := range texts {
				if !yield(text) {
					return
				}
			}
		}
	}
}

// textsUpTo returns all texts of up to a number of the letters.
func textsUpTo(count int, letters ...string) []string {
	texts := []string{""}
	for range count {
		longer := []string{""}
		for _, s := range texts {
			for _, letter := range letters {
				longer = append(longer, s+letter)
			}
		}
		texts = longer
	}
	return texts
}
