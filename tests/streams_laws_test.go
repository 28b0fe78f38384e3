package tests

import (
	"regexp"
	"slices"
	"strings"
	"testing"

	"loop.example/g03224/impl"
)

// begins is what the document calls a prefix, without the program's functions.
func begins(a, b []int) bool {
	for i, token := range a {
		if i >= len(b) || b[i] != token {
			return false
		}
	}
	return true
}

func TestLawsOfTwoStreams(t *testing.T) {
	small := smallStreams([]int{-1, 0, 1}, 4)
	for _, a := range small {
		for _, b := range small {
			checkTwoStreams(t, a, b)
		}
	}
	some := someStreams(64)
	for i, a := range some {
		b := some[(i+1)%len(some)]
		checkTwoStreams(t, a, b)
		checkTwoStreams(t, a, a[:len(a)/2])
		checkTwoStreams(t, a[:len(a)/2], a)
	}
}

func checkTwoStreams(t *testing.T, a, b []int) {
	t.Helper()
	checkPrefixes(t, a, b)
	checkMeet(t, a, b)
	checkAppend(t, a, b)
	checkAlternate(t, a, b)
}

func checkPrefixes(t *testing.T, a, b []int) {
	t.Helper()
	if impl.IsPrefix(a, b) != begins(a, b) {
		t.Errorf("IsPrefix(%v, %v) is wrong", a, b)
	}
	rest, ok := impl.RestOf(a, b)
	if ok != begins(a, b) || ok && !slices.Equal(slices.Concat(a, rest), b) || !ok && len(rest) > 0 {
		t.Errorf("RestOf(%v, %v): got %v, %v", a, b, rest, ok)
	}
	joined, ok := impl.JoinStreams(a, b)
	if ok != (begins(a, b) || begins(b, a)) || !ok && len(joined) > 0 {
		t.Errorf("JoinStreams(%v, %v): got %v, %v", a, b, joined, ok)
	}
	if ok && (len(joined) != max(len(a), len(b)) || !begins(a, joined) || !begins(b, joined)) {
		t.Errorf("JoinStreams(%v, %v): got %v", a, b, joined)
	}
}

func checkMeet(t *testing.T, a, b []int) {
	t.Helper()
	m := impl.MeetStreams(a, b)
	if !begins(m, a) || !begins(m, b) {
		t.Errorf("MeetStreams(%v, %v): %v is no common prefix", a, b, m)
		return
	}
	if len(m) < len(a) && len(m) < len(b) && a[len(m)] == b[len(m)] {
		t.Errorf("MeetStreams(%v, %v): %v is not the longest", a, b, m)
	}
	if !slices.Equal(m, impl.MeetStreams(b, a)) {
		t.Errorf("MeetStreams(%v, %v) depends on the order", a, b)
	}
}

func checkAppend(t *testing.T, a, b []int) {
	t.Helper()
	got, ok := impl.AppendStream(a, b)
	if len(a)+len(b) > 400 {
		wantNothing(t, "append", got, ok)
		return
	}
	wantListOk(t, "append", got, ok, slices.Concat(a, b)...)
	rest, ok := impl.RestOf(a, got)
	wantListOk(t, "rest of append", rest, ok, b...)
}

func checkAlternate(t *testing.T, a, b []int) {
	t.Helper()
	length := 2 * len(a)
	if len(b) < len(a) {
		length = 2*len(b) + 1
	}
	got := impl.AlternateStreams(a, b)
	if len(got) != min(length, 400) {
		t.Errorf("AlternateStreams(%v, %v): got %v", a, b, got)
		return
	}
	even, odd := impl.SplitStream(got)
	if !begins(even, a) || !begins(odd, b) {
		t.Errorf("AlternateStreams(%v, %v): got %v", a, b, got)
	}
}

func TestLawsOfOneStream(t *testing.T) {
	for _, s := range append(smallStreams([]int{-999999, -2, 0, 3, 999999}, 4), someStreams(96)...) {
		checkSplit(t, s)
		checkRoute(t, s)
		checkSums(t, s)
		checkHold(t, s)
		checkText(t, s)
	}
}

func checkSplit(t *testing.T, s []int) {
	t.Helper()
	even, odd := impl.SplitStream(s)
	if len(even) != (len(s)+1)/2 || len(odd) != len(s)/2 {
		t.Errorf("SplitStream(%v): got %v and %v", s, even, odd)
	}
	wantList(t, "alternate of split", impl.AlternateStreams(even, odd), s...)
}

func checkRoute(t *testing.T, s []int) {
	t.Helper()
	for _, m := range []int{1, 2, 3, 7, 999999} {
		multiples, others := impl.RouteStream(s, m)
		i, k := 0, 0
		for _, token := range s {
			if token/m*m == token {
				i++
				if i > len(multiples) || multiples[i-1] != token {
					t.Fatalf("RouteStream(%v, %d): multiples %v", s, m, multiples)
				}
			} else {
				k++
				if k > len(others) || others[k-1] != token {
					t.Fatalf("RouteStream(%v, %d): others %v", s, m, others)
				}
			}
		}
		if i != len(multiples) || k != len(others) {
			t.Errorf("RouteStream(%v, %d): got %v and %v", s, m, multiples, others)
		}
	}
}

func checkSums(t *testing.T, s []int) {
	t.Helper()
	sums, steps := impl.SumsOf(s), impl.StepsOf(s)
	if !impl.IsStream(sums) || !impl.IsStream(steps) || len(sums) != len(s) || len(steps) != len(s) {
		t.Errorf("sums %v and steps %v of %v", sums, steps, s)
		return
	}
	wantList(t, "steps of sums", impl.StepsOf(sums), s...)
	wantList(t, "sums of steps", impl.SumsOf(steps), s...)
	sum := 0
	for i, token := range s {
		sum += token
		if sums[i] != impl.WrapToken(sum) {
			t.Errorf("SumsOf(%v): got %v", s, sums)
		}
	}
}

func checkHold(t *testing.T, s []int) {
	t.Helper()
	for _, k := range []int{-1, 0, 1, 2, 3, 50} {
		got, ok := impl.HoldStream(s, k)
		if k < 0 || k*len(s) > 400 {
			wantNothing(t, "hold", got, ok)
			continue
		}
		var want []int
		for _, token := range s {
			want = append(want, repeated(token, k)...)
		}
		wantListOk(t, "hold", got, ok, want...)
	}
}

func checkText(t *testing.T, s []int) {
	t.Helper()
	text := impl.FormatStream(s)
	got, ok := impl.ParseStream(text)
	wantListOk(t, text, got, ok, s...)
}

// TestAllShortTexts holds ParseStream against the form of a text, for all short texts of these characters.
func TestAllShortTexts(t *testing.T) {
	form := regexp.MustCompile(`^(\.|(0|-?[1-9][0-9]{0,5})(,(0|-?[1-9][0-9]{0,5}))*)$`)
	const characters = "019-+.,_ \n\xff"
	texts := []string{""}
	last := texts
	for range 5 {
		var longer []string
		for _, text := range last {
			for i := range len(characters) {
				longer = append(longer, text+characters[i:i+1])
			}
		}
		texts = append(texts, longer...)
		last = longer
	}
	for _, text := range texts {
		got, ok := impl.ParseStream(text)
		if ok != form.MatchString(text) {
			t.Errorf("ParseStream(%q): got %v", text, ok)
		}
		if ok && impl.FormatStream(got) != text || !ok && len(got) > 0 {
			t.Errorf("ParseStream(%q): got %v", text, got)
		}
	}
}

// TestChangedTexts puts other bytes into texts of streams: what is still accepted has to be the text of its stream.
func TestChangedTexts(t *testing.T) {
	for _, s := range [][]int{{0}, {-12, 999999, 0}, {-999999, 5}, {100000, -1}} {
		text := impl.FormatStream(s)
		for place := range len(text) + 1 {
			for char := range 256 {
				put := string([]byte{byte(char)})
				checkAccepted(t, text[:place]+put+text[place:])
				if place < len(text) {
					checkAccepted(t, text[:place]+put+text[place+1:])
					checkAccepted(t, text[:place]+text[place+1:])
				}
			}
		}
	}
}

func checkAccepted(t *testing.T, text string) {
	t.Helper()
	got, ok := impl.ParseStream(text)
	if ok && impl.FormatStream(got) != text {
		t.Errorf("ParseStream(%q): got %v, whose text it is not", text, got)
	}
	if ok && strings.Trim(text, "0123456789-,.") != "" {
		t.Errorf("ParseStream(%q) is accepted", text)
	}
}
