package tests

import (
	"math"
	"slices"
	"testing"

	"loop.example/g03224/impl"
)

func TestConstantsOfRates(t *testing.T) {
	wantList(t, "limits", []int{impl.MaxNodes, impl.MaxEdges, impl.MaxRate, impl.MaxWaiting, impl.MaxRepeat}, 8, 16, 5, 50, 200)
}

func TestIsGraph(t *testing.T) {
	graphs := map[string]impl.Graph{
		"nothing":           {},
		"nothing, but made": {Edges: []impl.Edge{}},
		"a node":            graph(1),
		"the most nodes":    graph(8),
		"the most of all":   fullGraph(),
		"to itself":         graph(1, edge(0, 0, 1, 5, 0)),
		"two edges":         graph(2, edge(0, 1, 5, 1, 0), edge(0, 1, 1, 5, 50)),
		"back":              graph(2, edge(1, 0, 5, 1, 0)),
		"the last node":     graph(8, edge(7, 7, 1, 1, 1)),
		"triangle":          triangle(),
	}
	for label, g := range graphs {
		wantBool(t, label, impl.IsGraph(g), true)
	}
	for label, g := range noGraphs() {
		wantBool(t, label, impl.IsGraph(g), false)
	}
}

func TestRatesOfNoGraphs(t *testing.T) {
	for label, g := range noGraphs() {
		got, ok := impl.RepetitionOf(g)
		wantNothing(t, label+": RepetitionOf", got, ok)
		tokens := repeated(50, len(g.Edges))
		for k := -1; k <= 3; k++ {
			got, ok = impl.FireNode(g, tokens, k)
			wantNothing(t, label+": FireNode", got, ok)
		}
		got, ok = impl.ScheduleOf(g)
		wantNothing(t, label+": ScheduleOf", got, ok)
		for _, schedule := range [][]int{nil, {0}, {1, 2}, {-1}} {
			wantNoFirings(t, label+": RunFirings", g, schedule)
		}
		n, ok := impl.NetworkOf(g)
		wantNoNetwork(t, label+": NetworkOf", n, ok)
	}
}

func TestRepetitionOf(t *testing.T) {
	cases := []struct {
		label string
		g     impl.Graph
		want  []int
	}{
		{"nothing", graph(0), nil},
		{"a node", graph(1), []int{1}},
		{"nodes alone", graph(8), repeated(1, 8)},
		{"an edge", graph(2, edge(0, 1, 2, 3, 0)), []int{3, 2}},
		{"an edge back", graph(2, edge(1, 0, 2, 3, 0)), []int{2, 3}},
		{"not in least terms", graph(2, edge(0, 1, 2, 4, 0)), []int{2, 1}},
		{"equal rates", graph(2, edge(0, 1, 5, 5, 0)), []int{1, 1}},
		{"to itself", graph(1, edge(0, 0, 4, 4, 0)), []int{1}},
		{"to itself, among others", graph(2, edge(1, 1, 3, 3, 0), edge(0, 1, 1, 5, 9)), []int{5, 1}},
		{"two edges", graph(2, edge(0, 1, 2, 1, 0), edge(0, 1, 4, 2, 0)), []int{1, 2}},
		{"two edges, there and back", graph(2, edge(0, 1, 2, 1, 0), edge(1, 0, 2, 4, 0)), []int{1, 2}},
		{"triangle", triangle(), []int{3, 2, 6}},
		{"two to one", graph(3, edge(0, 2, 1, 2, 0), edge(1, 2, 1, 3, 0)), []int{2, 3, 1}},
		{"one to two", graph(3, edge(0, 1, 1, 2, 0), edge(0, 2, 1, 3, 0)), []int{6, 3, 2}},
		{"the last edge first", graph(4, edge(2, 3, 3, 1, 0), edge(1, 2, 1, 2, 0), edge(0, 1, 1, 5, 0)), []int{10, 2, 1, 3}},
		{"two parts", graph(4, edge(0, 2, 2, 3, 0), edge(3, 1, 5, 4, 0)), []int{3, 5, 2, 4}},
		{"two parts and a node", graph(5, edge(4, 0, 1, 5, 0), edge(3, 1, 5, 5, 0)), []int{1, 1, 1, 1, 5}},
		{"many parts", besides(besides(narrowed(5, 5), narrowed(3)), narrowed(2, 2)), []int{25, 5, 1, 3, 1, 4, 2, 1}},
		{"the most of all", fullGraph(), repeated(1, 8)},
	}
	for _, c := range cases {
		got, ok := impl.RepetitionOf(c.g)
		wantListOk(t, c.label, got, ok, c.want...)
	}
}

func TestRepetitionOfNone(t *testing.T) {
	graphs := map[string]impl.Graph{
		"to itself, and more": graph(1, edge(0, 0, 1, 2, 50)),
		"to itself, and less": graph(1, edge(0, 0, 2, 1, 50)),
		"two edges":           graph(2, edge(0, 1, 2, 1, 0), edge(0, 1, 1, 2, 0)),
		"there and back":      graph(2, edge(0, 1, 2, 1, 0), edge(1, 0, 2, 1, 0)),
		"nearly":              graph(2, edge(0, 1, 4, 5, 0), edge(0, 1, 3, 4, 0)),
		"around":              graph(3, edge(0, 1, 2, 3, 0), edge(1, 2, 3, 1, 0), edge(2, 0, 1, 1, 0)),
		"in the last part":    besides(triangle(), graph(2, edge(0, 1, 5, 1, 0), edge(1, 0, 5, 1, 0))),
		"in the first part":   besides(graph(2, edge(0, 1, 5, 1, 0), edge(1, 0, 5, 1, 0)), triangle()),
		"at the last edge":    graph(8, append(slices.Clone(fullGraph().Edges[:15]), edge(7, 0, 5, 4, 50))...),
	}
	for label, g := range graphs {
		got, ok := impl.RepetitionOf(g)
		wantNothing(t, label, got, ok)
		got, ok = impl.ScheduleOf(g)
		wantNothing(t, label, got, ok)
	}
}

// TestGreatRepetitions lets each node of a chain in turn be the first one, whose number is the greatest or a small one.
// There is no repetition with a greatest number from 201 to 215, as these have divisors that are no rates.
func TestGreatRepetitions(t *testing.T) {
	for shift := range 6 {
		order := slices.Concat(ramp(shift, 6-shift), ramp(0, shift))
		most := renamed(narrowed(5, 5, 4, 2, 1), order)
		numbers := []int{200, 40, 8, 2, 1, 1}
		want := slices.Concat(numbers[shift:], numbers[:shift])
		got, ok := impl.RepetitionOf(most)
		wantListOk(t, "the greatest number", got, ok, want...)
		got, ok = impl.RepetitionOf(besides(graph(2, edge(0, 1, 1, 3, 0)), most))
		wantListOk(t, "in the last part", got, ok, slices.Concat([]int{3, 1}, want)...)
		got, ok = impl.ScheduleOf(most)
		wantBool(t, "the greatest number", ok, true)
		wantCount(t, "the greatest number", len(got), 252)

		above := renamed(narrowed(3, 3, 3, 4, 2), order)
		for _, g := range []impl.Graph{above, besides(graph(2), above), besides(above, graph(2)), renamed(narrowed(5, 5, 5, 5, 5), order)} {
			got, ok = impl.RepetitionOf(g)
			wantNothing(t, "a number above", got, ok)
			got, ok = impl.ScheduleOf(g)
			wantNothing(t, "a number above", got, ok)
		}
	}
	// The numbers have to be divided at several edges.
	star := graph(4, edge(0, 1, 1, 5, 0), edge(0, 2, 1, 4, 0), edge(0, 3, 1, 3, 0))
	got, ok := impl.RepetitionOf(star)
	wantListOk(t, "a star", got, ok, 60, 12, 15, 20)
	star.Edges = append(star.Edges, edge(3, 4, 1, 3, 0))
	star.Nodes = 5
	got, ok = impl.RepetitionOf(star)
	wantListOk(t, "a greater star", got, ok, 180, 36, 45, 60, 20)
	star.Edges[3] = edge(2, 4, 1, 4, 0)
	got, ok = impl.RepetitionOf(star)
	wantNothing(t, "too great a star", got, ok)
	star.Edges[3] = edge(4, 2, 1, 4, 0)
	got, ok = impl.RepetitionOf(star)
	wantListOk(t, "a star, the other way round", got, ok, 60, 12, 15, 20, 60)
}

func TestFireNode(t *testing.T) {
	g := triangle()
	cases := []struct {
		label  string
		tokens []int
		k      int
		want   []int
	}{
		{"one in, one out", []int{0, 0, 2, 0, 0}, 0, []int{2, 0, 0, 0, 0}},
		{"two out", []int{3, 0, 0, 0, 0}, 1, []int{0, 3, 0, 0, 3}},
		{"to itself", []int{0, 1, 0, 2, 1}, 2, []int{0, 0, 1, 2, 0}},
		{"more than needed", []int{7, 8, 9, 10, 11}, 2, []int{7, 7, 10, 10, 10}},
		{"the most", repeated(1000000, 5), 0, []int{1000002, 1000000, 999998, 1000000, 1000000}},
		{"the most", repeated(1000000, 5), 1, []int{999997, 1000003, 1000000, 1000000, 1000003}},
		{"the most", repeated(1000000, 5), 2, []int{1000000, 999999, 1000001, 1000000, 999999}},
	}
	for _, c := range cases {
		got, ok := impl.FireNode(g, c.tokens, c.k)
		wantListOk(t, c.label, got, ok, c.want...)
	}
	got, ok := impl.FireNode(graph(3), nil, 2)
	wantListOk(t, "without edges", got, ok)
	got, ok = impl.FireNode(graph(1, edge(0, 0, 1, 5, 0)), []int{5}, 0)
	wantListOk(t, "all to itself", got, ok, 1)
	got, ok = impl.FireNode(graph(1, edge(0, 0, 5, 1, 0)), []int{1}, 0)
	wantListOk(t, "more to itself", got, ok, 5)
	got, ok = impl.FireNode(graph(2, edge(0, 1, 5, 1, 0)), []int{1000000}, 0)
	wantListOk(t, "above the most", got, ok, 1000005)
	got, ok = impl.FireNode(graph(2, edge(0, 1, 3, 2, 50)), []int{2}, 1)
	wantListOk(t, "all", got, ok, 0)
}

func TestFireNodeThatCannot(t *testing.T) {
	g := triangle()
	enough := repeated(5, 5)
	for _, k := range []int{math.MinInt, -1, 3, 4, 8, math.MaxInt} {
		got, ok := impl.FireNode(g, enough, k)
		wantNothing(t, "no node", got, ok)
	}
	for i, k := range []int{1, 2, 0, 2, 2} {
		for count, can := range map[int]bool{0: true, 1000000: true, 1000001: false, -1: false, math.MinInt: false, math.MaxInt: false} {
			tokens := slices.Clone(enough)
			tokens[i] = count
			for node := range 3 {
				got, ok := impl.FireNode(g, tokens, node)
				if can && (node != k || count > 0) {
					want, _ := firedByHand(g, tokens, node)
					wantListOk(t, "tokens", got, ok, want...)
				} else {
					wantNothing(t, "no tokens", got, ok)
				}
			}
		}
		tokens := slices.Clone(enough)
		tokens[i] = g.Edges[i].Take - 1
		got, ok := impl.FireNode(g, tokens, k)
		wantNothing(t, "one token is missing", got, ok)
		tokens[i]++
		_, ok = impl.FireNode(g, tokens, k)
		wantBool(t, "none is missing", ok, true)
	}
	for _, tokens := range [][]int{nil, {5, 5, 5, 5}, {5, 5, 5, 5, 5, 5}} {
		for k := range 3 {
			got, ok := impl.FireNode(g, tokens, k)
			wantNothing(t, "of another length", got, ok)
		}
	}
	got, ok := impl.FireNode(graph(0), nil, 0)
	wantNothing(t, "nothing", got, ok)
	got, ok = impl.FireNode(graph(1), []int{0}, 0)
	wantNothing(t, "no edge", got, ok)
	got, ok = impl.FireNode(graph(1, edge(0, 0, 5, 2, 50)), []int{1}, 0)
	wantNothing(t, "one is missing, though more are made", got, ok)
	got, ok = impl.FireNode(graph(2, edge(0, 1, 5, 1, 50)), []int{0}, 1)
	wantNothing(t, "the tokens at first do not count", got, ok)
}

func TestScheduleOf(t *testing.T) {
	cases := []struct {
		label string
		g     impl.Graph
		want  []int
	}{
		{"nothing", graph(0), nil},
		{"a node", graph(1), []int{0}},
		{"nodes alone", graph(8), ramp(0, 8)},
		{"an edge", graph(2, edge(0, 1, 2, 3, 0)), []int{0, 0, 0, 1, 1}},
		{"an edge back", graph(2, edge(1, 0, 2, 3, 0)), []int{1, 1, 0, 1, 0}},
		{"with tokens", graph(2, edge(1, 0, 2, 3, 2)), []int{1, 0, 1, 0, 1}},
		{"with more", graph(2, edge(1, 0, 2, 3, 50)), []int{0, 0, 1, 1, 1}},
		{"to itself", graph(1, edge(0, 0, 4, 4, 4)), []int{0}},
		{"there and back", graph(2, edge(0, 1, 1, 2, 0), edge(1, 0, 2, 1, 2)), []int{0, 0, 1}},
		{"one after the other", graph(2, edge(0, 1, 1, 1, 0), edge(1, 0, 1, 1, 1)), []int{0, 1}},
		{"from the end", graph(3, edge(2, 1, 1, 1, 0), edge(1, 0, 1, 1, 0)), []int{2, 1, 0}},
		{"parts", graph(4, edge(0, 2, 2, 3, 0), edge(3, 1, 1, 2, 0)), []int{0, 0, 0, 2, 2, 3, 3, 1}},
		{"triangle", triangle(), []int{0, 0, 1, 2, 2, 0, 1, 2, 2, 2, 2}},
		{"the most of all", fullGraph(), ramp(0, 8)},
	}
	for _, c := range cases {
		got, ok := impl.ScheduleOf(c.g)
		wantListOk(t, c.label, got, ok, c.want...)
	}
	all := graph(8, edge(0, 1, 1, 1, 0))
	for k := range 7 {
		all.Edges = append(all.Edges, edge(k, k+1, 1, 1, 0), edge(k+1, k, 1, 1, 1))
	}
	got, ok := impl.ScheduleOf(all)
	wantListOk(t, "in a row", got, ok, ramp(0, 8)...)
}

func TestScheduleThatStops(t *testing.T) {
	graphs := map[string]impl.Graph{
		"to itself":         graph(1, edge(0, 0, 4, 4, 3)),
		"there and back":    graph(2, edge(0, 1, 1, 2, 0), edge(1, 0, 2, 1, 1)),
		"without tokens":    graph(2, edge(0, 1, 1, 1, 0), edge(1, 0, 1, 1, 0)),
		"after some":        graph(3, edge(0, 1, 1, 1, 0), edge(1, 2, 1, 1, 0), edge(2, 1, 1, 1, 0)),
		"at the last node":  graph(8, append(slices.Clone(fullGraph().Edges), edge(7, 7, 5, 5, 4))[1:]...),
		"in the last part":  besides(triangle(), graph(1, edge(0, 0, 1, 1, 0))),
		"in the first part": besides(graph(1, edge(0, 0, 1, 1, 0)), triangle()),
		"after a firing":    graph(2, edge(0, 1, 3, 2, 0), edge(1, 0, 2, 3, 3)),
	}
	for label, g := range graphs {
		_, ok := impl.RepetitionOf(g)
		wantBool(t, label, ok, true)
		got, ok := impl.ScheduleOf(g)
		wantNothing(t, label, got, ok)
	}
	got, ok := impl.ScheduleOf(graph(2, edge(0, 1, 3, 2, 0), edge(1, 0, 2, 3, 4)))
	wantListOk(t, "a token more", got, ok, 0, 1, 0, 1, 1)
}

func TestRunFirings(t *testing.T) {
	g := triangle()
	wantFirings(t, "none", g, nil, []int{0, 1, 4, 2, 0}, []int{0, 1, 4, 2, 0})
	wantFirings(t, "one", g, []int{0}, []int{2, 1, 2, 2, 0}, []int{2, 1, 4, 2, 0})
	wantFirings(t, "some", g, []int{0, 0, 1, 2}, []int{1, 3, 1, 2, 2}, []int{4, 4, 4, 2, 3})
	wantFirings(t, "all", g, []int{0, 0, 1, 2, 2, 0, 1, 2, 2, 2, 2}, []int{0, 1, 4, 2, 0}, []int{4, 5, 4, 2, 4})
	wantFirings(t, "nothing", graph(0), nil, nil, nil)
	wantFirings(t, "nothing, but made", graph(0), []int{}, nil, nil)
	wantFirings(t, "without edges", graph(8), []int{7, 0, 7}, nil, nil)
	// What there is while a node fires does not count.
	wantFirings(t, "to itself", graph(1, edge(0, 0, 2, 5, 50)), []int{0, 0}, []int{44}, []int{50})
	wantFirings(t, "more to itself", graph(1, edge(0, 0, 5, 2, 2)), []int{0, 0}, []int{8}, []int{8})
	// No repetition is needed.
	wantFirings(t, "no repetition", graph(2, edge(0, 1, 1, 1, 0), edge(0, 1, 2, 1, 0)), []int{0, 0, 1, 0}, []int{2, 5}, []int{2, 5})
}

func TestFiringsThatCannot(t *testing.T) {
	g := triangle()
	for _, schedule := range [][]int{{1}, {2}, {0, 1}, {0, 0, 0}, {0, 0, 1, 2, 2, 2, 2}, {0, 0, 1, 1}} {
		wantNoFirings(t, "not enough tokens", g, schedule)
	}
	for _, k := range []int{math.MinInt, -1, 3, 8, math.MaxInt} {
		wantNoFirings(t, "no node", g, []int{k})
		wantNoFirings(t, "no node at the end", g, []int{0, 0, k})
		wantNoFirings(t, "no node at first", g, []int{k, 0, 0})
	}
	wantNoFirings(t, "nothing", graph(0), []int{0})
	wantNoFirings(t, "one is missing, though more are made", graph(1, edge(0, 0, 5, 2, 1)), []int{0})
}

func TestRunFiringsToTheLimit(t *testing.T) {
	wantFirings(t, "without edges", graph(8), slices.Repeat(ramp(0, 8), 200), nil, nil)
	wantNoFirings(t, "one too many", graph(8), append(slices.Repeat(ramp(0, 8), 200), 0))
	g := graph(2, edge(0, 1, 5, 1, 50))
	wantFirings(t, "as often as possible", g, repeated(0, 1600), []int{8050}, []int{8050})
	wantFirings(t, "and away", g, append(repeated(0, 1599), 1), []int{8044}, []int{8045})
	wantNoFirings(t, "one too many", g, repeated(0, 1601))
	wantNoFirings(t, "far too many", g, repeated(0, 100000))
	wantNoFirings(t, "no node at last", g, append(repeated(0, 1599), 2))
	wantFirings(t, "the last token", graph(2, edge(0, 1, 1, 1, 0)), slices.Repeat([]int{0, 1}, 800), []int{0}, []int{1})
	wantNoFirings(t, "a token is missing at last", graph(2, edge(0, 1, 1, 1, 0)), append(slices.Repeat([]int{0, 1}, 799), 1, 0))
}

func TestCompressSchedule(t *testing.T) {
	wantLoops(t, "nothing", nil)
	wantLoops(t, "nothing, but made", []int{})
	wantLoops(t, "one", []int{3}, impl.Loop{Node: 3, Times: 1})
	wantLoops(t, "zero", []int{0}, impl.Loop{Node: 0, Times: 1})
	wantLoops(t, "one run", []int{5, 5, 5}, impl.Loop{Node: 5, Times: 3})
	wantLoops(t, "a run of zeros", []int{0, 0}, impl.Loop{Node: 0, Times: 2})
	wantLoops(t, "runs", []int{0, 0, 0, 1, 1, 0}, impl.Loop{Node: 0, Times: 3}, impl.Loop{Node: 1, Times: 2}, impl.Loop{Node: 0, Times: 1})
	wantLoops(t, "no nodes", []int{-1, -1, math.MaxInt, math.MinInt, math.MinInt},
		impl.Loop{Node: -1, Times: 2}, impl.Loop{Node: math.MaxInt, Times: 1}, impl.Loop{Node: math.MinInt, Times: 2})
	wantLoops(t, "a long run", repeated(7, 5000), impl.Loop{Node: 7, Times: 5000})
	var apart []impl.Loop
	for k := range 2000 {
		apart = append(apart, impl.Loop{Node: k, Times: 1})
	}
	wantLoops(t, "no runs", ramp(0, 2000), apart...)
}

func TestExpandSchedule(t *testing.T) {
	cases := []struct {
		label string
		loops []impl.Loop
		want  []int
	}{
		{"nothing", nil, nil},
		{"nothing, but made", []impl.Loop{}, nil},
		{"one", []impl.Loop{{Node: 3, Times: 1}}, []int{3}},
		{"no time", []impl.Loop{{Node: 3, Times: 0}}, nil},
		{"some", []impl.Loop{{Node: 3, Times: 2}, {Node: 0, Times: 1}, {Node: 3, Times: 1}}, []int{3, 3, 0, 3}},
		{"no time between", []impl.Loop{{Node: 3, Times: 2}, {Node: 1, Times: 0}, {Node: 3, Times: 1}}, []int{3, 3, 3}},
		{"equal nodes", []impl.Loop{{Node: 1, Times: 1}, {Node: 1, Times: 2}}, []int{1, 1, 1}},
		{"no nodes", []impl.Loop{{Node: -1, Times: 1}, {Node: math.MaxInt, Times: 2}}, []int{-1, math.MaxInt, math.MaxInt}},
		{"the most", []impl.Loop{{Node: 8, Times: 1600}}, repeated(8, 1600)},
		{"the most, and no time", []impl.Loop{{Node: 8, Times: 1600}, {Node: 1, Times: 0}}, repeated(8, 1600)},
		{"together the most", []impl.Loop{{Node: 8, Times: 1599}, {Node: 8, Times: 1}}, repeated(8, 1600)},
		{"the most one by one", slices.Repeat([]impl.Loop{{Node: 2, Times: 1}}, 1600), repeated(2, 1600)},
		{"many times nothing", slices.Repeat([]impl.Loop{{Node: 2, Times: 0}}, 5000), nil},
	}
	for _, c := range cases {
		got, ok := impl.ExpandSchedule(c.loops)
		wantListOk(t, c.label, got, ok, c.want...)
	}
}

func TestExpandScheduleOfTooMany(t *testing.T) {
	cases := map[string][]int{
		"below 0":           {-1},
		"far below 0":       {math.MinInt},
		"below 0 at last":   {3, 0, -1},
		"below 0 at first":  {-1, 3},
		"less in all":       {1600, 5, -5},
		"less at first":     {-5, 1600, 5},
		"one too many":      {1601},
		"together too many": {1600, 1},
		"at the end":        {1, 1598, 0, 2},
		"far too many":      {math.MaxInt},
		"a sum of -2":       {math.MaxInt, math.MaxInt},
		"a sum of 0":        {math.MaxInt, math.MaxInt, 2},
		"a sum of 1":        {1, math.MaxInt, math.MaxInt, 2},
		"great at last":     {1600, math.MaxInt - 1599},
		"all of it":         {1, math.MaxInt},
	}
	for label, times := range cases {
		var loops []impl.Loop
		for k, count := range times {
			loops = append(loops, impl.Loop{Node: k, Times: count})
		}
		got, ok := impl.ExpandSchedule(loops)
		wantNothing(t, label, got, ok)
	}
	got, ok := impl.ExpandSchedule(slices.Repeat([]impl.Loop{{Node: 2, Times: 1}}, 1601))
	wantNothing(t, "one by one", got, ok)
}

func TestNetworkOf(t *testing.T) {
	read, write, again := func(port int) impl.Instr { return in(impl.OpRead, 0, port) }, func(port int) impl.Instr { return in(impl.OpWrite, 0, port) }, in(impl.OpJump)
	got, ok := impl.NetworkOf(graph(2, edge(0, 1, 2, 3, 0)))
	wantNetwork(t, "an edge", got, ok, impl.Network{
		Programs: []impl.Program{program(0, 1, write(0), write(0), again), program(1, 0, read(0), read(0), read(0), again)},
		Links:    []impl.Link{link(0, 0, 1, 0)},
	})
	got, ok = impl.NetworkOf(triangle())
	wantNetwork(t, "triangle", got, ok, impl.Network{
		Programs: []impl.Program{
			program(1, 1, read(0), read(0), write(0), write(0), again),
			program(1, 2, read(0), read(0), read(0), write(0), write(0), write(0), write(1), write(1), write(1), again),
			program(3, 2, read(0), read(1), read(1), read(2), write(0), write(1), write(1), again),
		},
		Links: []impl.Link{link(0, 0, 1, 0), link(1, 0, 2, 0, 0), link(2, 0, 0, 0, 0, 0, 0, 0), link(2, 1, 2, 1, 0, 0), link(1, 1, 2, 2)},
	})
	got, ok = impl.NetworkOf(graph(0))
	wantNetwork(t, "nothing", got, ok, impl.Network{})
	got, ok = impl.NetworkOf(graph(8))
	wantNetwork(t, "nodes alone", got, ok, impl.Network{Programs: slices.Repeat([]impl.Program{program(0, 0, again)}, 8)})
	got, ok = impl.NetworkOf(graph(1, edge(0, 0, 1, 2, 50)))
	wantNetwork(t, "to itself", got, ok, impl.Network{
		Programs: []impl.Program{program(1, 1, read(0), read(0), write(0), again)},
		Links:    []impl.Link{link(0, 0, 0, 0, repeated(0, 50)...)},
	})
	full, _ := networkByHand(fullGraph())
	got, ok = impl.NetworkOf(fullGraph())
	wantNetwork(t, "the most of all", got, ok, full)
	// A graph needs no repetition, and a network no schedule.
	got, ok = impl.NetworkOf(graph(2, edge(1, 0, 1, 1, 0), edge(1, 0, 1, 2, 0), edge(0, 1, 1, 1, 0)))
	wantNetwork(t, "no repetition", got, ok, impl.Network{
		Programs: []impl.Program{program(2, 1, read(0), read(1), read(1), write(0), again), program(1, 2, read(0), write(0), write(1), again)},
		Links:    []impl.Link{link(1, 0, 0, 0), link(1, 1, 0, 1), link(0, 0, 1, 0)},
	})
}

func TestNetworkOfToTheLimits(t *testing.T) {
	ports := func(ins, outs int) impl.Graph {
		g := graph(3)
		for range ins {
			g.Edges = append(g.Edges, edge(0, 1, 1, 1, 1))
		}
		for range outs {
			g.Edges = append(g.Edges, edge(1, 2, 1, 1, 0))
		}
		return g
	}
	code := func(takes, makes int) impl.Graph {
		return graph(3, edge(0, 1, 1, 5, 0), edge(0, 1, 1, 5, 0), edge(0, 1, 1, takes, 0), edge(1, 2, 5, 1, 0), edge(1, 2, makes, 1, 0))
	}
	fits := map[string]impl.Graph{"ports": ports(3, 3), "reads": code(5, 3), "writes": code(3, 5), "both": code(4, 4)}
	for label, g := range fits {
		want, ok := networkByHand(g)
		wantBool(t, label, ok, true)
		got, ok := impl.NetworkOf(g)
		wantNetwork(t, label, got, ok, want)
		wantBool(t, label, impl.IsNetwork(got), true)
		if label != "ports" {
			wantCount(t, label, len(got.Programs[1].Code), 24)
		}
	}
	tooMuch := map[string]impl.Graph{
		"ports in":      ports(4, 0),
		"ports out":     ports(0, 4),
		"both":          ports(4, 4),
		"many ports":    graph(1, slices.Repeat([]impl.Edge{edge(0, 0, 1, 1, 1)}, 4)...),
		"most ports":    graph(2, slices.Repeat([]impl.Edge{edge(0, 1, 1, 1, 1)}, 16)...),
		"reads":         code(5, 4),
		"writes":        code(4, 5),
		"far too long":  graph(1, slices.Repeat([]impl.Edge{edge(0, 0, 5, 5, 5)}, 3)...),
		"the last node": besides(triangle(), ports(4, 0)),
		"too many":      graph(2, edge(0, 1, 1, 1, 51)),
	}
	for label, g := range tooMuch {
		got, ok := impl.NetworkOf(g)
		wantNoNetwork(t, label, got, ok)
	}
}

// guardedEdges are a graph with spare capacity behind its edges.
func guardedEdges(g impl.Graph) (impl.Graph, []impl.Edge, []impl.Edge) {
	whole := append(slices.Clone(g.Edges), slices.Repeat([]impl.Edge{edge(77, 77, 77, 77, 77)}, 2*len(g.Edges)+3)...)
	return impl.Graph{Nodes: g.Nodes, Edges: whole[:len(g.Edges)]}, whole, slices.Clone(whole)
}

func TestMemoryOfRates(t *testing.T) {
	for _, first := range []impl.Graph{triangle(), fullGraph(), graph(3), graph(0), graph(1, edge(0, 0, 1, 2, 3)), graph(2, edge(0, 1, 9, 1, 0))} {
		g, whole, before := guardedEdges(first)
		tokens, schedule := guard(repeated(5, len(g.Edges))), guard([]int{0, 0})
		for range 2 {
			impl.IsGraph(g)
			repetition, _ := impl.RepetitionOf(g)
			scribble(repetition)
			for k := -1; k < 4; k++ {
				after, _ := impl.FireNode(g, tokens.list, k)
				scribble(after)
			}
			made, _ := impl.ScheduleOf(g)
			want := slices.Clone(made)
			scribble(made)
			made, _ = impl.ScheduleOf(g)
			wantList(t, "a second schedule", made, want...)
			end, peaks, _ := impl.RunFirings(g, schedule.list)
			want = slices.Clone(peaks)
			scribble(end)
			wantList(t, "peaks", peaks, want...)
			scribble(peaks)
			n, _ := impl.NetworkOf(g)
			checkOwnLists(t, "a network", n)
		}
		if !slices.Equal(whole, before) || tokens.changed() || schedule.changed() || g.Nodes != first.Nodes {
			t.Errorf("%v: an argument was changed", first)
		}
	}
}

func TestMemoryOfLoops(t *testing.T) {
	schedule := guard([]int{1, 1, 0, 2, 2, 2})
	loops := impl.CompressSchedule(schedule.list)
	whole := append(slices.Clone(loops), slices.Repeat([]impl.Loop{{Node: 7, Times: 7}}, 9)...)
	before := slices.Clone(whole)
	for i := range loops[:cap(loops)] {
		loops[:cap(loops)][i] = impl.Loop{Node: behind, Times: behind}
	}
	if schedule.changed() {
		t.Error("CompressSchedule: the schedule was changed")
	}
	got, _ := impl.ExpandSchedule(whole[:3])
	wantList(t, "expanded", got, schedule.list...)
	scribble(got)
	got, _ = impl.ExpandSchedule(whole[:3])
	wantList(t, "expanded again", got, schedule.list...)
	if !slices.Equal(whole, before) {
		t.Error("ExpandSchedule: the loops were changed")
	}
}
