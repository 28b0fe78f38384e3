package tests

import (
	"math"
	"slices"
	"strings"
	"testing"

	"loop.example/g03224/impl"
)

func TestConstantsOfStreams(t *testing.T) {
	if impl.MaxToken != 999999 || impl.MaxStream != 400 {
		t.Errorf("got %d and %d", impl.MaxToken, impl.MaxStream)
	}
}

func TestWrapToken(t *testing.T) {
	cases := []struct{ n, want int }{
		{0, 0}, {1, 1}, {-1, -1}, {-5, -5},
		{999999, 999999}, {-999999, -999999},
		{1000000, -999999}, {-1000000, 999999},
		{1999998, -1}, {1999999, 0}, {2000000, 1},
		{-1999998, 1}, {-1999999, 0}, {-2000000, -1},
		{2999998, 999999}, {2999999, -999999},
		{-2999998, -999999}, {-2999999, 999999},
		{1999999*1000 + 7, 7}, {-1999999*1000 - 7, -7},
	}
	for _, c := range cases {
		if got := impl.WrapToken(c.n); got != c.want {
			t.Errorf("WrapToken(%d): got %d, want %d", c.n, got, c.want)
		}
	}
}

func TestWrapTokenDiffersByMultiple(t *testing.T) {
	const count = 1999999
	numbers := []int{math.MaxInt, math.MinInt, math.MaxInt - 1, math.MinInt + 1, math.MaxInt32, math.MinInt32}
	for n := -3 * count; n <= 3*count; n += 997 {
		numbers = append(numbers, n, n+math.MaxInt/2, n-math.MaxInt/2)
	}
	for _, n := range numbers {
		got := impl.WrapToken(n)
		if got < -999999 || got > 999999 {
			t.Errorf("WrapToken(%d): %d is no token", n, got)
		}
		if (n%count-got)%count != 0 {
			t.Errorf("WrapToken(%d): %d does not differ by a multiple", n, got)
		}
	}
}

func TestIsStream(t *testing.T) {
	streams := [][]int{
		nil, {}, {0}, {1, 2, 3}, {3, 3, 3}, {-5, 5},
		{999999}, {-999999}, {999999, -999999, 0},
		repeated(7, 399), repeated(7, 400), repeated(-999999, 400),
	}
	for _, s := range streams {
		if !impl.IsStream(s) {
			t.Errorf("%v is a stream", s)
		}
	}
	for _, s := range noStreams() {
		if impl.IsStream(s) {
			t.Errorf("%v is no stream", s)
		}
	}
}

func TestIsPrefix(t *testing.T) {
	cases := []struct {
		a, b []int
		want bool
	}{
		{nil, nil, true}, {nil, []int{}, true}, {[]int{}, nil, true},
		{nil, []int{1}, true}, {[]int{1}, nil, false},
		{[]int{1, 2}, []int{1, 2, 3}, true}, {[]int{1, 2, 3}, []int{1, 2}, false},
		{[]int{1, 2}, []int{1, 2}, true}, {[]int{1, 3}, []int{1, 2, 3}, false},
		{[]int{2}, []int{1, 2}, false}, {[]int{0}, []int{1, 0}, false},
		{ramp(0, 400), ramp(0, 400), true}, {ramp(0, 399), ramp(0, 400), true},
		{ramp(1, 399), ramp(0, 400), false},
	}
	for _, c := range cases {
		if got := impl.IsPrefix(c.a, c.b); got != c.want {
			t.Errorf("IsPrefix(%v, %v): got %v", c.a, c.b, got)
		}
	}
}

func TestMeetStreams(t *testing.T) {
	wantList(t, "differ later", impl.MeetStreams([]int{1, 2, 3}, []int{1, 2, 5, 3}), 1, 2)
	wantList(t, "differ at once", impl.MeetStreams([]int{1, 2}, []int{2, 2}))
	wantList(t, "equal again behind", impl.MeetStreams([]int{1, 2, 3}, []int{1, 5, 3}), 1)
	wantList(t, "prefix", impl.MeetStreams([]int{1, 2}, []int{1, 2, 3}), 1, 2)
	wantList(t, "prefix behind", impl.MeetStreams([]int{1, 2, 3}, []int{1, 2}), 1, 2)
	wantList(t, "empty", impl.MeetStreams(nil, []int{1}))
	wantList(t, "full", impl.MeetStreams(ramp(0, 400), ramp(0, 400)), ramp(0, 400)...)
}

func TestJoinStreams(t *testing.T) {
	got, ok := impl.JoinStreams([]int{1, 2}, []int{1, 2, 3})
	wantListOk(t, "second longer", got, ok, 1, 2, 3)
	got, ok = impl.JoinStreams([]int{1, 2, 3}, []int{1, 2})
	wantListOk(t, "first longer", got, ok, 1, 2, 3)
	got, ok = impl.JoinStreams([]int{1, 2}, []int{1, 2})
	wantListOk(t, "equal", got, ok, 1, 2)
	got, ok = impl.JoinStreams(nil, []int{})
	wantListOk(t, "both empty", got, ok)
	got, ok = impl.JoinStreams(nil, []int{4})
	wantListOk(t, "first empty", got, ok, 4)
	got, ok = impl.JoinStreams([]int{4}, nil)
	wantListOk(t, "second empty", got, ok, 4)
	got, ok = impl.JoinStreams(ramp(0, 400), ramp(0, 400))
	wantListOk(t, "full", got, ok, ramp(0, 400)...)
	got, ok = impl.JoinStreams([]int{1, 2}, []int{1, 3})
	wantNothing(t, "not compatible", got, ok)
	got, ok = impl.JoinStreams([]int{2}, []int{1, 2})
	wantNothing(t, "not compatible at once", got, ok)
}

func TestAppendStream(t *testing.T) {
	got, ok := impl.AppendStream([]int{1, 2}, []int{3})
	wantListOk(t, "both", got, ok, 1, 2, 3)
	got, ok = impl.AppendStream(nil, []int{3})
	wantListOk(t, "first empty", got, ok, 3)
	got, ok = impl.AppendStream([]int{3}, []int{})
	wantListOk(t, "second empty", got, ok, 3)
	got, ok = impl.AppendStream(nil, nil)
	wantListOk(t, "both empty", got, ok)
	got, ok = impl.AppendStream(ramp(0, 150), ramp(150, 250))
	wantListOk(t, "full", got, ok, ramp(0, 400)...)
	got, ok = impl.AppendStream(ramp(0, 400), nil)
	wantListOk(t, "full already", got, ok, ramp(0, 400)...)
	got, ok = impl.AppendStream(ramp(0, 151), ramp(150, 250))
	wantNothing(t, "one too many", got, ok)
	got, ok = impl.AppendStream(ramp(0, 400), ramp(0, 400))
	wantNothing(t, "twice as many", got, ok)
}

func TestRestOf(t *testing.T) {
	got, ok := impl.RestOf([]int{1, 2}, []int{1, 2, 3, 4})
	wantListOk(t, "rest", got, ok, 3, 4)
	got, ok = impl.RestOf(nil, []int{1, 2})
	wantListOk(t, "all", got, ok, 1, 2)
	got, ok = impl.RestOf([]int{1, 2}, []int{1, 2})
	wantListOk(t, "none left", got, ok)
	got, ok = impl.RestOf(nil, nil)
	wantListOk(t, "both empty", got, ok)
	got, ok = impl.RestOf(ramp(0, 399), ramp(0, 400))
	wantListOk(t, "last", got, ok, 399)
	got, ok = impl.RestOf([]int{1, 2, 3}, []int{1, 2})
	wantNothing(t, "longer", got, ok)
	got, ok = impl.RestOf([]int{2}, []int{1, 2})
	wantNothing(t, "no prefix", got, ok)
}

func TestAlternateStreams(t *testing.T) {
	wantList(t, "as long", impl.AlternateStreams([]int{1, 2}, []int{5, 6}), 1, 5, 2, 6)
	wantList(t, "first longer by one", impl.AlternateStreams([]int{1, 2}, []int{5}), 1, 5, 2)
	wantList(t, "first longer", impl.AlternateStreams([]int{1, 2, 3, 4}, []int{5}), 1, 5, 2)
	wantList(t, "second longer", impl.AlternateStreams([]int{1}, []int{5, 6, 7}), 1, 5)
	wantList(t, "first empty", impl.AlternateStreams(nil, []int{5, 6}))
	wantList(t, "second empty", impl.AlternateStreams([]int{1, 2}, nil), 1)
	wantList(t, "both empty", impl.AlternateStreams(nil, nil))
	full := make([]int, 400)
	for i := range full {
		full[i] = i/2 + i%2*1000
	}
	wantList(t, "just full", impl.AlternateStreams(ramp(0, 200), ramp(1000, 200)), full...)
	wantList(t, "full", impl.AlternateStreams(ramp(0, 201), ramp(1000, 200)), full...)
	wantList(t, "both full", impl.AlternateStreams(ramp(0, 400), ramp(1000, 400)), full...)
	wantList(t, "one less", impl.AlternateStreams(ramp(0, 200), ramp(1000, 199)), full[:399]...)
}

func TestSplitStream(t *testing.T) {
	cases := []struct{ s, even, odd []int }{
		{nil, nil, nil}, {[]int{}, nil, nil}, {[]int{7}, []int{7}, nil},
		{[]int{7, 8}, []int{7}, []int{8}}, {[]int{4, 1, 6, 2, 8}, []int{4, 6, 8}, []int{1, 2}},
		{repeated(3, 400), repeated(3, 200), repeated(3, 200)},
	}
	for _, c := range cases {
		even, odd := impl.SplitStream(c.s)
		wantList(t, "even", even, c.even...)
		wantList(t, "odd", odd, c.odd...)
	}
}

func TestRouteStream(t *testing.T) {
	all := []int{-6, -5, -4, -3, -2, -1, 0, 1, 2, 3, 4, 5, 6}
	cases := []struct {
		s                 []int
		m                 int
		multiples, others []int
	}{
		{all, 1, all, nil},
		{all, 2, []int{-6, -4, -2, 0, 2, 4, 6}, []int{-5, -3, -1, 1, 3, 5}},
		{all, 3, []int{-6, -3, 0, 3, 6}, []int{-5, -4, -2, -1, 1, 2, 4, 5}},
		{all, 6, []int{-6, 0, 6}, []int{-5, -4, -3, -2, -1, 1, 2, 3, 4, 5}},
		{[]int{5, 0, 7, 0}, math.MaxInt, []int{0, 0}, []int{5, 7}},
		{[]int{999999, -999999, 1}, 999999, []int{999999, -999999}, []int{1}},
		{nil, 3, nil, nil}, {all, 0, nil, nil}, {all, -1, nil, nil}, {all, -2, nil, nil},
		{all, math.MinInt, nil, nil}, {nil, 0, nil, nil},
		{repeated(4, 400), 2, repeated(4, 400), nil},
		{repeated(4, 400), 3, nil, repeated(4, 400)},
	}
	for _, c := range cases {
		multiples, others := impl.RouteStream(c.s, c.m)
		wantList(t, "multiples", multiples, c.multiples...)
		wantList(t, "others", others, c.others...)
	}
}

func TestSumsOf(t *testing.T) {
	wantList(t, "sums", impl.SumsOf([]int{1, 2, 3}), 1, 3, 6)
	wantList(t, "negative", impl.SumsOf([]int{5, -7, 0, 2}), 5, -2, -2, 0)
	wantList(t, "wrapped", impl.SumsOf([]int{999999, 1, 1}), 999999, -999999, -999998)
	wantList(t, "wrapped below", impl.SumsOf([]int{-999999, -1, 1}), -999999, 999999, -999999)
	wantList(t, "wrapped again", impl.SumsOf(repeated(999999, 4)), 999999, -1, 999998, -2)
	wantList(t, "empty", impl.SumsOf(nil))
	wantList(t, "full", impl.SumsOf(repeated(1, 400)), ramp(1, 400)...)
}

func TestStepsOf(t *testing.T) {
	wantList(t, "steps", impl.StepsOf([]int{1, 3, 6}), 1, 2, 3)
	wantList(t, "first", impl.StepsOf([]int{5}), 5)
	wantList(t, "negative", impl.StepsOf([]int{5, -2, -2, 0}), 5, -7, 0, 2)
	wantList(t, "wrapped", impl.StepsOf([]int{-999999, 999999}), -999999, -1)
	wantList(t, "wrapped below", impl.StepsOf([]int{999999, -999999, 1}), 999999, 1, -999999)
	wantList(t, "empty", impl.StepsOf(nil))
	wantList(t, "full", impl.StepsOf(ramp(1, 400)), repeated(1, 400)...)
}

func TestHoldStream(t *testing.T) {
	cases := []struct {
		s    []int
		k    int
		want []int
	}{
		{[]int{1, 2}, 1, []int{1, 2}}, {[]int{1, 2}, 3, []int{1, 1, 1, 2, 2, 2}},
		{[]int{1, 2}, 0, nil}, {nil, 0, nil}, {nil, 5, nil}, {nil, 401, nil}, {nil, math.MaxInt, nil},
		{[]int{9}, 400, repeated(9, 400)}, {repeated(9, 400), 1, repeated(9, 400)},
		{repeated(9, 400), 0, nil}, {repeated(9, 133), 3, repeated(9, 399)},
	}
	for _, c := range cases {
		got, ok := impl.HoldStream(c.s, c.k)
		wantListOk(t, "held", got, ok, c.want...)
	}
	refused := []struct {
		s []int
		k int
	}{
		{[]int{1}, -1}, {[]int{1}, math.MinInt}, {nil, -1},
		{[]int{1}, 401}, {[]int{1, 2}, 201}, {repeated(9, 134), 3}, {repeated(9, 400), 2},
		{[]int{1}, math.MaxInt}, {[]int{1, 2}, math.MaxInt/2 + 1}, {repeated(9, 4), math.MaxInt/2 + 1},
	}
	for _, c := range refused {
		got, ok := impl.HoldStream(c.s, c.k)
		wantNothing(t, "not held", got, ok)
	}
}

func TestFormatStream(t *testing.T) {
	cases := []struct {
		s    []int
		want string
	}{
		{nil, "."}, {[]int{}, "."}, {[]int{0}, "0"}, {[]int{1, -2}, "1,-2"},
		{[]int{999999, -999999, 10, 0, 0}, "999999,-999999,10,0,0"},
		{repeated(5, 400), strings.Repeat("5,", 399) + "5"},
	}
	for _, c := range cases {
		if got := impl.FormatStream(c.s); got != c.want {
			t.Errorf("FormatStream(%v): got %q, want %q", c.s, got, c.want)
		}
	}
}

func TestParseStream(t *testing.T) {
	cases := []struct {
		text string
		want []int
	}{
		{".", nil}, {"0", []int{0}}, {"7", []int{7}}, {"-7", []int{-7}}, {"1,-2", []int{1, -2}},
		{"999999,-999999", []int{999999, -999999}}, {"0,0,10,100", []int{0, 0, 10, 100}},
		{strings.Repeat("5,", 399) + "5", repeated(5, 400)},
		{strings.Repeat("-999999,", 399) + "-999999", repeated(-999999, 400)},
	}
	for _, c := range cases {
		got, ok := impl.ParseStream(c.text)
		wantListOk(t, c.text, got, ok, c.want...)
	}
}

func TestParseStreamRefuses(t *testing.T) {
	texts := []string{
		"", " ", ",", ",,", "..", ".,", ",.", ".,1", "1,.", "1,", ",1", "1,,2", "1.", ".1", "1.0",
		"01", "00", "-0", "-00", "-01", "+1", "+0", "--1", "-", "1-", "1,-", "1,01", "0,-0",
		" 1", "1 ", "1, 2", "1 ,2", "1\n", "\n1", "1\n2", ".\n", "\t.", "1\x00", "\x001",
		"1;2", "1-2", "1e3", "0x1", "1_0", "a", "1,a", "None", "[1]", "\"1\"",
		"1000000", "-1000000", "1,1000000", "9999999", "99999999999999999999", "-99999999999999999999",
		"9223372036854775807", "-9223372036854775808", "9223372036854775808", "18446744073709551617",
		"\xff", "1,\xff", "\xff,1", "1\xff,2", "1,\xe4\xb8", "\xe2,1", "\u0661", "\uff11", "1\uff0c2", "\u22121",
		strings.Repeat("5,", 400) + "5", strings.Repeat("5,", 400), strings.Repeat("5,", 399),
		strings.Repeat("5,", 100000) + "5", strings.Repeat(",", 400), strings.Repeat("0", 100000), strings.Repeat("9", 100000),
	}
	for _, text := range texts {
		got, ok := impl.ParseStream(text)
		wantNothing(t, text[:min(len(text), 40)], got, ok)
	}
}

// noStreams are lists that are no streams, each for one reason.
func noStreams() [][]int {
	return [][]int{
		repeated(7, 401), repeated(7, 402), repeated(0, 1000), ramp(0, 800),
		{1000000}, {-1000000}, {math.MaxInt}, {math.MinInt}, {1 << 32}, {-1 << 32},
		{1, 2, 1000000}, {-1000000, 1, 2}, {1, 1999999, 2},
		append(repeated(7, 399), 1000000),
	}
}

// given are the results of a function of lists: all that it returned of each kind.
type given struct {
	lists [][]int
	ok    bool
	text  string
}

func (g given) isZero() bool {
	for _, s := range g.lists {
		if len(s) != 0 {
			return false
		}
	}
	return !g.ok && g.text == ""
}

type function struct {
	name  string
	lists int
	call  func(a, b []int) given
}

func listOk(s []int, ok bool) given {
	return given{lists: [][]int{s}, ok: ok}
}

func twoLists(a, b []int) given {
	return given{lists: [][]int{a, b}}
}

func oneList(s []int) given {
	return given{lists: [][]int{s}}
}

func functionsOfStreams() []function {
	return []function{
		{"IsStream", 1, func(a, b []int) given { return given{ok: impl.IsStream(a)} }},
		{"IsPrefix", 2, func(a, b []int) given { return given{ok: impl.IsPrefix(a, b)} }},
		{"MeetStreams", 2, func(a, b []int) given { return oneList(impl.MeetStreams(a, b)) }},
		{"JoinStreams", 2, func(a, b []int) given { return listOk(impl.JoinStreams(a, b)) }},
		{"AppendStream", 2, func(a, b []int) given { return listOk(impl.AppendStream(a, b)) }},
		{"RestOf", 2, func(a, b []int) given { return listOk(impl.RestOf(a, b)) }},
		{"AlternateStreams", 2, func(a, b []int) given { return oneList(impl.AlternateStreams(a, b)) }},
		{"SplitStream", 1, func(a, b []int) given { return twoLists(impl.SplitStream(a)) }},
		{"RouteStream by 2", 1, func(a, b []int) given { return twoLists(impl.RouteStream(a, 2)) }},
		{"RouteStream by 0", 1, func(a, b []int) given { return twoLists(impl.RouteStream(a, 0)) }},
		{"SumsOf", 1, func(a, b []int) given { return oneList(impl.SumsOf(a)) }},
		{"StepsOf", 1, func(a, b []int) given { return oneList(impl.StepsOf(a)) }},
		{"HoldStream by 0", 1, func(a, b []int) given { return listOk(impl.HoldStream(a, 0)) }},
		{"HoldStream by 1", 1, func(a, b []int) given { return listOk(impl.HoldStream(a, 1)) }},
		{"HoldStream by 2", 1, func(a, b []int) given { return listOk(impl.HoldStream(a, 2)) }},
		{"FormatStream", 1, func(a, b []int) given { return given{text: impl.FormatStream(a)} }},
	}
}

func TestListsThatAreNoStreams(t *testing.T) {
	for _, f := range functionsOfStreams() {
		for _, bad := range noStreams() {
			partners := [][]int{nil, {1, 2}, bad[:min(400, len(bad)-1)], bad}
			for _, partner := range partners {
				if !f.call(bad, partner).isZero() {
					t.Errorf("%s(%v, %v) is not the zero value", f.name, bad, partner)
				}
				if f.lists == 2 && !f.call(partner, bad).isZero() {
					t.Errorf("%s(%v, %v) is not the zero value", f.name, partner, bad)
				}
			}
		}
	}
}

func TestNilAndEmptyAreEquivalent(t *testing.T) {
	streams := [][]int{nil, {}, {1}}
	for _, f := range functionsOfStreams() {
		for _, s := range streams {
			for _, pair := range [][2]given{{f.call(nil, s), f.call([]int{}, s)}, {f.call(s, nil), f.call(s, []int{})}} {
				if !sameGiven(pair[0], pair[1]) {
					t.Errorf("%s: %v with nil, %v with an empty list", f.name, pair[0], pair[1])
				}
			}
		}
	}
}

func sameGiven(x, y given) bool {
	return x.ok == y.ok && x.text == y.text && slices.EqualFunc(x.lists, y.lists, slices.Equal[[]int])
}

func TestMemoryIsNotShared(t *testing.T) {
	pairs := [][2][]int{
		{nil, nil}, {{1, 2}, {1, 2, 3}}, {{1, 2, 3}, {1, 2}}, {{4, 5}, {4, 5}}, {nil, {1, 2}}, {{2, 4}, nil},
		{{1, 2}, {3, 4}}, {ramp(0, 200), ramp(0, 200)}, {ramp(0, 400), nil}, {ramp(0, 5), ramp(0, 400)},
		{{1, 2, 1000000}, {1, 2}}, {{1, 2}, {1, 2, 1000000}}, {ramp(0, 401), ramp(0, 401)},
	}
	for _, f := range functionsOfStreams() {
		for _, pair := range pairs {
			checkMemory(t, f, pair[0], pair[1])
		}
	}
}

func checkMemory(t *testing.T, f function, first, second []int) {
	t.Helper()
	a, b := guard(first), guard(second)
	results := f.call(a.list, b.list)
	if a.changed() || b.changed() {
		t.Errorf("%s(%v, %v) changes an argument or what is behind it", f.name, first, second)
	}
	for i, s := range results.lists {
		var others [][]int
		for k, other := range results.lists {
			if k != i {
				others = append(others, slices.Clone(other))
			}
		}
		scribble(s)
		if a.changed() || b.changed() {
			t.Errorf("%s(%v, %v): a result shares memory with an argument", f.name, first, second)
		}
		for k, other := range slices.Delete(slices.Clone(results.lists), i, i+1) {
			if !slices.Equal(other, others[k]) {
				t.Errorf("%s(%v, %v): results share memory", f.name, first, second)
			}
		}
	}
}

func TestListsAsBothArguments(t *testing.T) {
	s := []int{1, 2, 3}
	wantList(t, "meet", impl.MeetStreams(s, s), 1, 2, 3)
	got, ok := impl.JoinStreams(s, s[:2])
	wantListOk(t, "join", got, ok, 1, 2, 3)
	got, ok = impl.AppendStream(s[:2], s)
	wantListOk(t, "append", got, ok, 1, 2, 1, 2, 3)
	got, ok = impl.RestOf(s[:1], s)
	wantListOk(t, "rest", got, ok, 2, 3)
	wantList(t, "alternate", impl.AlternateStreams(s, s), 1, 1, 2, 2, 3, 3)
	wantList(t, "unchanged", s, 1, 2, 3)
}
