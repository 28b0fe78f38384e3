package tests

import (
	"math/rand"
	"slices"
	"testing"
)

func wantList(t *testing.T, label string, got []int, want ...int) {
	t.Helper()
	if !slices.Equal(got, want) {
		t.Errorf("%s: got %v, want %v", label, got, want)
	}
}

func wantListOk(t *testing.T, label string, got []int, ok bool, want ...int) {
	t.Helper()
	if !ok {
		t.Errorf("%s: got false, want %v", label, want)
	}
	wantList(t, label, got, want...)
}

func wantNothing(t *testing.T, label string, got []int, ok bool) {
	t.Helper()
	if ok || len(got) != 0 {
		t.Errorf("%s: got %v, %v, want nothing and false", label, got, ok)
	}
}

// repeated is a list of n equal elements.
func repeated(token, n int) []int {
	return slices.Repeat([]int{token}, n)
}

// ramp is a list of n different elements, so that a wrong index shows.
func ramp(first, n int) []int {
	out := make([]int, n)
	for i := range out {
		out[i] = first + i
	}
	return out
}

const behind = -77777777

// guarded is a list with spare capacity behind it, to see whether a call changes either.
type guarded struct {
	list, whole, before []int
}

func guard(s []int) guarded {
	whole := slices.Concat(s, repeated(behind, 2*len(s)+4))
	return guarded{whole[:len(s)], whole, slices.Clone(whole)}
}

func (g guarded) changed() bool {
	return !slices.Equal(g.whole, g.before)
}

// scribble overwrites a list and all that its memory holds behind it.
func scribble(s []int) {
	s = s[:cap(s)]
	for i := range s {
		s[i] = behind + 1
	}
}

// smallStreams are all the streams of at most most tokens from the given ones.
func smallStreams(tokens []int, most int) [][]int {
	out := [][]int{{}}
	last := out
	for range most {
		var longer [][]int
		for _, s := range last {
			for _, token := range tokens {
				longer = append(longer, append(slices.Clone(s), token))
			}
		}
		out = append(out, longer...)
		last = longer
	}
	return out
}

// someStreams are n streams of all lengths and sizes of tokens, the same ones in each run.
func someStreams(n int) [][]int {
	random := rand.New(rand.NewSource(1))
	sizes := []int{1, 3, 100, 999999}
	lengths := []int{5, 40, 200, 400}
	out := make([][]int, n)
	for i := range out {
		size := sizes[i%len(sizes)]
		s := make([]int, random.Intn(lengths[i/len(sizes)%len(lengths)]+1))
		for k := range s {
			s[k] = random.Intn(2*size+1) - size
		}
		out[i] = s
	}
	return out
}
