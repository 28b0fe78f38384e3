package tests

import (
	"slices"
	"testing"

	"loop.example/g03224/impl"
)

func TestConstantsOfLeastStreams(t *testing.T) {
	wantList(t, "limits", []int{impl.MaxRounds}, 300)
}

// noHistories are lists that are no histories of a network with three links.
func noHistories() [][][]int {
	out := [][][]int{nil, {}, {nil}, {nil, nil}, {nil, nil, nil, nil}, {{1}, {2}, {3}, {4}}}
	for _, bad := range noStreams() {
		out = append(out, [][]int{bad, nil, nil}, [][]int{{1}, bad, nil}, [][]int{nil, {1}, bad})
	}
	return out
}

// chain has three links.
func chain() impl.Network {
	return network([]string{"sums", "twice"}, link(-1, 0, 0, 0, 1, 2), link(0, 0, 1, 0, 9), link(1, 0, -1, 0))
}

func TestAreHistories(t *testing.T) {
	full := repeated(-999999, 400)
	for _, h := range [][][]int{{nil, nil, nil}, {{}, {}, {}}, {{1, 2}, {9}, nil}, {{5}, nil, {999999, -999999}}, {full, full, full}} {
		if !impl.AreHistories(chain(), h) {
			t.Errorf("%v are histories", h)
		}
	}
	for _, h := range noHistories() {
		if impl.AreHistories(chain(), h) {
			t.Errorf("%v are no histories", h)
		}
	}
	if !impl.AreHistories(impl.Network{}, nil) || !impl.AreHistories(impl.Network{}, [][]int{}) || impl.AreHistories(impl.Network{}, [][]int{nil}) {
		t.Error("the histories of nothing are no streams")
	}
	if !impl.AreHistories(fullLinks(), make([][]int, 30)) || impl.AreHistories(fullLinks(), make([][]int, 31)) {
		t.Error("the histories of all links are thirty")
	}
}

func TestAreBelow(t *testing.T) {
	cases := []struct {
		g, h [][]int
		want bool
	}{
		{[][]int{nil, nil, nil}, [][]int{nil, {}, nil}, true}, {[][]int{nil, nil, nil}, [][]int{{1}, {2}, {3}}, true},
		{[][]int{{1}, {2, 3}, {}}, [][]int{{1, 2}, {2, 3}, {7}}, true}, {[][]int{{1}, {2}, {3}}, [][]int{{1}, {2}, {3}}, true},
		{[][]int{{1}, nil, nil}, [][]int{nil, nil, nil}, false}, {[][]int{nil, {1}, nil}, [][]int{nil, nil, nil}, false},
		{[][]int{nil, nil, {1}}, [][]int{nil, nil, nil}, false}, {[][]int{{1}, {2}, {3}}, [][]int{{1, 1}, {2, 2}, {4, 3}}, false},
		{[][]int{{2}, {2}, {3}}, [][]int{{1, 2}, {2}, {3}}, false}, {[][]int{{1}, {2, 3}, nil}, [][]int{{1, 2}, {2}, {5}}, false},
		{[][]int{{1}, {2}, nil}, [][]int{{2}, {1}, nil}, false},
	}
	for _, c := range cases {
		if got := impl.AreBelow(chain(), c.g, c.h); got != c.want {
			t.Errorf("%v below %v: got %v", c.g, c.h, got)
		}
	}
	for _, bad := range noHistories() {
		fine := [][]int{nil, nil, nil}
		if impl.AreBelow(chain(), bad, bad) || impl.AreBelow(chain(), fine, bad) || impl.AreBelow(chain(), bad, fine) {
			t.Errorf("%v are no histories, and neither below nor above any", bad)
		}
	}
	if !impl.AreBelow(impl.Network{}, nil, [][]int{}) {
		t.Error("nothing is below nothing")
	}
}

func TestRoundOf(t *testing.T) {
	cases := []struct {
		n       impl.Network
		h, want [][]int
	}{
		{chain(), [][]int{{1, 2}, {9}, nil}, [][]int{{1, 2}, {9, 1, 3}, {9, 9}}},
		{chain(), [][]int{nil, nil, nil}, [][]int{{1, 2}, {9}, nil}},
		// Histories need neither begin with the tokens nor be made by any process.
		{chain(), [][]int{{5}, {7, 8}, {4, 4}}, [][]int{{1, 2}, {9, 5}, {7, 7, 8, 8}}},
		{adding(1, 2, 3), [][]int{nil, {1, 2, 3}, {0}, nil}, [][]int{nil, {1, 2, 3}, {0}, {1}}},
		{adding(1, 2, 3), [][]int{nil, {1, 2, 3}, {0}, {1}}, [][]int{{1}, {1, 2, 3}, {0, 1}, {1}}},
		{network([]string{"split"}, link(0, 1, -1, 0), link(-1, 0, 0, 0), link(0, 0, -1, 0, 6)),
			[][]int{{8}, {1, 2, 3}, nil}, [][]int{{2}, nil, {6, 1, 3}}},
		{network([]string{"pick"}, link(-1, 0, 0, 2), link(-1, 0, 0, 1, 8), link(0, 0, -1, 0), link(-1, 0, 0, 0)),
			[][]int{{5, 6}, {7}, nil, {1, 0, 1, 0}}, [][]int{nil, {8}, {5, 7, 6}, nil}},
		{network([]string{"through"}, link(0, 0, 0, 0)), [][]int{{3, 4}}, [][]int{{3, 4}}},
		{network([]string{"through"}, link(0, 0, 0, 0, 1)), [][]int{{3, 4}}, [][]int{{1, 3, 4}}},
		{network([]string{"sink"}, link(-1, 0, 0, 0)), [][]int{{1, 2}}, [][]int{nil}},
		{impl.Network{}, nil, nil},
		{fullProcesses(), nil, nil},
	}
	for _, c := range cases {
		got, ok := impl.RoundOf(c.n, c.h)
		wantStreams(t, "a round", got, ok, c.want...)
	}
	for _, bad := range noHistories() {
		got, ok := impl.RoundOf(chain(), bad)
		wantNoStreams(t, "no histories", got, ok)
	}
}

// failing are networks of which the round from their tokens fails, each for one reason.
func failing() map[string]impl.Network {
	endless := program(0, 0, in(impl.OpJump))
	halt := program(0, 0, in(impl.OpHalt))
	readsOn := program(1, 1, append(spender(2999).Code, in(impl.OpSet, 0, 1), in(impl.OpRead, 0, 0))...)
	full := repeated(1, 400)
	return map[string]impl.Network{
		"endless":                      {Programs: []impl.Program{endless}},
		"endless behind another":       {Programs: []impl.Program{halt, endless}},
		"endless before another":       {Programs: []impl.Program{endless, halt}},
		"one instruction too many":     {Programs: []impl.Program{spender(3001)}},
		"no instruction left to read":  single(readsOn, []int{1}),
		"endless when it has read":     single(program(1, 0, in(impl.OpRead, 0, 0), in(impl.OpJump, 0, 1)), []int{1}),
		"endless writing":              network([]string{"count"}, link(0, 0, -1, 0)),
		"a write too many":             single(writer(401)),
		"a write too many to another":  {Programs: []impl.Program{writer(401), impl.SampleProgram("sink")}, Links: []impl.Link{link(0, 0, 1, 0)}},
		"a token too many":             {Programs: []impl.Program{writer(400)}, Links: []impl.Link{link(0, 0, -1, 0, 1)}},
		"a token too many for another": {Programs: []impl.Program{writer(400), impl.SampleProgram("sink")}, Links: []impl.Link{link(0, 0, 1, 0, 1)}},
		"too many tokens":              network([]string{"through"}, link(-1, 0, 0, 0, full...), link(0, 0, -1, 0, full...)),
		"too many for a held stream":   single(impl.SampleProgram("twice"), repeated(5, 201)),
		"too many in a cycle":          network([]string{"through"}, link(0, 0, 0, 0, repeated(1, 201)...)),
	}
}

func TestRoundsThatFail(t *testing.T) {
	for label, n := range failing() {
		if !impl.IsNetwork(n) {
			t.Fatalf("%s: no network", label)
		}
		got, ok := impl.RoundOf(n, tokensOf(n))
		wantNoStreams(t, label, got, ok)
		if impl.IsFixed(n, tokensOf(n)) {
			t.Errorf("%s: no round makes anything", label)
		}
		wantNoLeast(t, label, n)
		// It fails together with another network, too.
		for _, both := range []func() (impl.Network, bool){
			func() (impl.Network, bool) { return impl.JoinNetworks(n, chain()) },
			func() (impl.Network, bool) { return impl.JoinNetworks(chain(), n) },
		} {
			if joined, ok := both(); ok {
				wantNoLeast(t, label, joined)
			}
		}
	}
}

func TestRoundsAtTheLimits(t *testing.T) {
	waits := program(1, 1, append(spender(3000).Code, in(impl.OpRead, 0, 0))...)
	reads := program(1, 1, append(spender(2998).Code, in(impl.OpRead, 0, 0), in(impl.OpWrite, 0, 0))...)
	full := repeated(7, 400)
	cases := []struct {
		label  string
		n      impl.Network
		rounds int
		want   [][]int
	}{
		{"all the instructions", impl.Network{Programs: []impl.Program{spender(3000)}}, 1, nil},
		{"all of them, and then it waits", single(waits, nil), 1, [][]int{nil, nil}},
		{"all of them, and then it would read", single(reads, []int{4}), 2, [][]int{{4}, {4}}},
		{"all writes", single(writer(400)), 2, [][]int{full}},
		{"all tokens", impl.Network{Programs: []impl.Program{writer(399)}, Links: []impl.Link{link(0, 0, -1, 0, 7)}}, 2, [][]int{full}},
		{"only tokens", impl.Network{Programs: []impl.Program{writer(0)}, Links: []impl.Link{link(0, 0, -1, 0, full...)}}, 1, [][]int{full}},
		{"all tokens held", single(impl.SampleProgram("twice"), repeated(7, 200)), 2, [][]int{full[:200], full}},
		{"all tokens copied", single(impl.SampleProgram("copy"), full), 2, [][]int{full, full, full}},
	}
	for _, c := range cases {
		wantLeast(t, c.label, c.n, c.rounds, c.want...)
	}
}

func TestLeastStreams(t *testing.T) {
	wantLeast(t, "a chain", chain(), 3, []int{1, 2}, []int{9, 1, 3}, []int{9, 9, 1, 1, 3, 3})
	wantLeast(t, "sums in a cycle", adding(1, 2, 3), 7, []int{1, 3, 6}, []int{1, 2, 3}, []int{0, 1, 3, 6}, []int{1, 3, 6})
	wantLeast(t, "sums of nothing", adding(), 1, nil, nil, []int{0}, nil)
	wantLeast(t, "a cycle without tokens", network([]string{"through"}, link(0, 0, 0, 0)), 1, nil)
	wantLeast(t, "a cycle that waits", network([]string{"alternate"},
		link(0, 0, 0, 1, 3, 4), link(-1, 0, 0, 0)), 1, []int{3, 4}, nil)
	wantLeast(t, "a cycle that waits in the end", network([]string{"alternate"},
		link(0, 0, 0, 1, 3), link(-1, 0, 0, 0, 5, 6)), 3, []int{3, 5, 3, 6, 5}, []int{5, 6})
	wantLeast(t, "counted down", countdown(3), 4, []int{3, 2, 1, 0})
	wantLeast(t, "all is read", network([]string{"sink"}, link(-1, 0, 0, 0, 1, 2)), 1, []int{1, 2})
	wantLeast(t, "nothing", impl.Network{}, 1)
	wantLeast(t, "no links", fullProcesses(), 1)
	// The link before the one that it is made of: the order of the links makes no difference.
	wantLeast(t, "a chain from behind", network([]string{"twice", "sums"},
		link(0, 0, -1, 0), link(1, 0, 0, 0), link(-1, 0, 1, 0, 1, 2)), 3, []int{1, 1, 3, 3}, []int{1, 3}, []int{1, 2})
}

func TestLeastStreamsAfterManyRounds(t *testing.T) {
	for _, first := range []int{0, 1, 2, 150, 298, 299} {
		wantLeast(t, "counted down", countdown(first), first+1, countedDown(first))
	}
	// After 300 rounds all is made, but only one more would show it.
	for _, first := range []int{300, 301, 399, 400, 999999} {
		wantNoLeast(t, "counted down in too many rounds", countdown(first))
	}
	for _, first := range []int{300, 399} {
		if !impl.IsFixed(countdown(first), [][]int{countedDown(first)}) {
			t.Errorf("%d: what would come of more rounds is fixed", first)
		}
	}
	made, ok := impl.RoundOf(countdown(300), [][]int{countedDown(300)[:300]})
	wantStreams(t, "the last round that makes something", made, ok, countedDown(300))
	wantNoLeast(t, "for ever", network([]string{"through"}, link(0, 0, 0, 0, 1)))
	joined, _ := impl.JoinNetworks(countdown(299), countdown(7))
	wantLeast(t, "two of them", joined, 300, countedDown(299), countedDown(7))
	joined, _ = impl.JoinNetworks(countdown(7), countdown(300))
	wantNoLeast(t, "one that takes too many", joined)
}

func TestIsFixed(t *testing.T) {
	through := network([]string{"through"}, link(0, 0, 0, 0))
	cases := []struct {
		n    impl.Network
		h    [][]int
		want bool
	}{
		{chain(), [][]int{{1, 2}, {9, 1, 3}, {9, 9, 1, 1, 3, 3}}, true}, {chain(), [][]int{{1, 2}, {9, 1, 3}, {9, 9, 1, 1, 3}}, false},
		{chain(), [][]int{{1, 2}, {9}, nil}, false}, {chain(), [][]int{{1}, {9, 1}, {9, 9, 1, 1}}, false},
		{chain(), [][]int{{1, 2}, {9, 1, 3}, {9, 9, 1, 1, 3, 4}}, false}, {chain(), [][]int{nil, nil, nil}, false},
		{chain(), [][]int{{1, 2, 3}, {9, 1, 3, 6}, {9, 9, 1, 1, 3, 3, 6, 6}}, false},
		// All streams are made of themselves here, and only the empty one is the least.
		{through, [][]int{nil}, true}, {through, [][]int{{5}}, true}, {through, [][]int{ramp(0, 400)}, true},
		{network([]string{"through"}, link(0, 0, 0, 0, 1)), [][]int{{1, 1, 1}}, false},
		{countdown(2), [][]int{{2, 1, 0}}, true}, {countdown(2), [][]int{{2, 1, 0, 8}}, false}, {countdown(2), [][]int{{2, 1}}, false},
		{impl.Network{}, nil, true}, {impl.Network{}, [][]int{nil}, false}, {fullProcesses(), nil, true},
	}
	for _, c := range cases {
		if got := impl.IsFixed(c.n, c.h); got != c.want {
			t.Errorf("IsFixed(%v, %v): got %v", c.n, c.h, got)
		}
	}
	for _, bad := range noHistories() {
		if impl.IsFixed(chain(), bad) {
			t.Errorf("%v are no histories", bad)
		}
	}
}

func TestObserveNetwork(t *testing.T) {
	cases := []struct {
		n    impl.Network
		want [][]int
	}{
		{chain(), [][]int{{9, 9, 1, 1, 3, 3}}}, {adding(1, 2, 3), [][]int{{1, 3, 6}}},
		{network([]string{"split", "sums"}, link(0, 1, -1, 0, 6), link(-1, 0, 0, 0, 1, 2, 3), link(1, 0, -1, 0), link(0, 0, 1, 0)),
			[][]int{{6, 2}, {1, 4}}},
		{network([]string{"copy"}, link(-1, 0, 0, 0), link(0, 0, -1, 0), link(0, 1, -1, 0)), [][]int{nil, nil}},
		{countdown(5), nil}, {fullLinks(), nil}, {impl.Network{}, nil}, {fullProcesses(), nil},
	}
	for _, c := range cases {
		got, ok := impl.ObserveNetwork(c.n)
		wantStreams(t, "seen", got, ok, c.want...)
	}
}

func TestWaitsOf(t *testing.T) {
	halt := program(0, 0, in(impl.OpHalt))
	readTwo := program(3, 0, in(impl.OpRead, 0, 2), in(impl.OpRead, 0, 1), in(impl.OpRead, 0, 0))
	two := func(a, b []int) impl.Network {
		return network([]string{"add"}, link(0, 0, -1, 0), link(-1, 0, 0, 1, b...), link(-1, 0, 0, 0, a...))
	}
	wantWaits(t, "a chain", chain(), 0, 1)
	wantWaits(t, "sums in a cycle", adding(1, 2), 1, 3)
	wantWaits(t, "at the first port", two(nil, nil), 2)
	wantWaits(t, "at the first port again", two([]int{1}, []int{2}), 2)
	wantWaits(t, "at the second port", two([]int{1}, nil), 1)
	wantWaits(t, "at the second port again", two([]int{1, 2, 3}, []int{2}), 1)
	wantWaits(t, "at the third port", single(readTwo, nil, nil, nil), 2)
	wantWaits(t, "at the port before it", single(readTwo, nil, nil, []int{1}), 1)
	wantWaits(t, "at the port before that", single(readTwo, nil, []int{1}, []int{1}), 0)
	wantWaits(t, "all read, and at the end", single(readTwo, []int{1}, []int{1}, []int{1}), -1)
	wantWaits(t, "halted with tokens left", single(readTwo, []int{1, 2}, []int{1, 2}, []int{1, 2}), -1)
	wantWaits(t, "an own link", network([]string{"through"}, link(0, 0, 0, 0)), 0)
	wantWaits(t, "counted down", countdown(9), -1)
	wantWaits(t, "all the instructions", impl.Network{Programs: []impl.Program{spender(3000), halt}}, -1, -1)
	wantWaits(t, "all of them, and then it waits", single(program(1, 0, append(spender(3000).Code, in(impl.OpRead, 0, 0))...), nil), 0)
	wantWaits(t, "no links", fullProcesses(), repeated(-1, 12)...)
	wantWaits(t, "some halt", impl.Network{Programs: []impl.Program{halt, impl.SampleProgram("sink"), halt},
		Links: []impl.Link{link(-1, 0, 1, 0, 5)}}, -1, 0, -1)
	wantWaits(t, "nothing", impl.Network{})
}

func TestLeastStreamsOfNoNetworks(t *testing.T) {
	for _, bad := range noNetworks() {
		h := make([][]int, len(bad.Links))
		if impl.AreHistories(bad, h) || impl.AreBelow(bad, h, h) || impl.IsFixed(bad, h) {
			t.Errorf("%v is no network, and has no histories", bad)
		}
		got, ok := impl.RoundOf(bad, h)
		wantNoStreams(t, "no network", got, ok)
		wantNoLeast(t, "no network", bad)
	}
}

// checkOwnStreams overwrites each stream, and looks whether another one is changed by that.
func checkOwnStreams(t *testing.T, label string, streams [][]int) {
	t.Helper()
	for i := range streams {
		want := cloneLists(streams)
		scribble(streams[i])
		want[i] = slices.Clone(streams[i])
		if !sameLists(streams, want) {
			t.Errorf("%s: stream %d shares memory with another one", label, i)
		}
	}
	clear(streams[:cap(streams)])
}

func TestMemoryOfLeastStreams(t *testing.T) {
	same := network([]string{"through", "through"}, link(-1, 0, 0, 0, 1, 2), link(0, 0, 1, 0, 1, 2), link(1, 0, -1, 0, 1, 2))
	same.Links[1].Tokens, same.Links[2].Tokens = same.Links[0].Tokens, same.Links[0].Tokens
	idle := network([]string{"sink", "add"}, link(-1, 0, 0, 0, 1, 2), link(1, 0, -1, 0, 3, 4), link(-1, 0, 1, 0, 5), link(-1, 0, 1, 1))
	full := network([]string{"sink"}, link(-1, 0, 0, 0, repeated(8, 400)...))
	for _, n := range []impl.Network{chain(), adding(1, 2, 3), same, idle, full, countdown(20), failing()["endless writing"]} {
		n = roomy(n)
		before := spread(n)
		var h [][]int
		var guards []guarded
		for _, s := range tokensOf(n) {
			guards = append(guards, guard(s))
			h = append(h, guards[len(guards)-1].list)
		}
		unchanged := func() bool {
			return sameNetwork(spread(n), before) && sameLists(h, tokensOf(n)) && !slices.ContainsFunc(guards, guarded.changed)
		}
		impl.AreHistories(n, h)
		impl.AreBelow(n, h, h)
		impl.IsFixed(n, h)
		made, _ := impl.RoundOf(n, h)
		checkOwnStreams(t, "a round", made)
		least, _, _ := impl.LeastStreams(n)
		checkOwnStreams(t, "least streams", least)
		seen, _ := impl.ObserveNetwork(n)
		checkOwnStreams(t, "seen", seen)
		waits, _ := impl.WaitsOf(n)
		scribble(waits)
		if !unchanged() {
			t.Errorf("%v: an argument is changed, or shares memory with a result", n)
		}
	}
}

func TestRoundsOfSharedStreams(t *testing.T) {
	// The same memory as both histories, and in the network.
	tokens := []int{1, 2}
	n := network([]string{"add"}, link(-1, 0, 0, 0, tokens...), link(-1, 0, 0, 1, tokens...), link(0, 0, -1, 0))
	n.Links[0].Tokens, n.Links[1].Tokens = tokens, tokens
	h := [][]int{tokens, tokens, tokens}
	if !impl.AreBelow(n, h, h) {
		t.Error("histories are below themselves")
	}
	made, ok := impl.RoundOf(n, h)
	wantStreams(t, "a round", made, ok, []int{1, 2}, []int{1, 2}, []int{2, 4})
	checkOwnStreams(t, "a round", made)
	wantList(t, "tokens", tokens, 1, 2)
}
