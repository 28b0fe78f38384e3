package tests

import (
	"math"
	"slices"
	"strings"
	"testing"

	"loop.example/g03224/impl"
)

func TestConstantsOfNetworks(t *testing.T) {
	wantList(t, "limits", []int{impl.MaxProcesses, impl.MaxLinks}, 12, 30)
}

func TestIsNetwork(t *testing.T) {
	networks := []impl.Network{
		{}, {Programs: []impl.Program{}, Links: []impl.Link{}}, diamond(), fullLinks(), fullProcesses(),
		network([]string{"through"}, link(0, 0, 0, 0)), network([]string{"through"}, link(0, 0, 0, 0, 1, 2, 3)),
		network([]string{"through"}, link(0, 0, -1, 0), link(-1, 0, 0, 0)),
		network([]string{"count", "sink"}, link(0, 0, 1, 0)), network([]string{"count", "sink"}, link(-1, 0, 1, 0), link(0, 0, -1, 0)),
		network([]string{"through"}, link(0, 0, -1, 0, ramp(0, 400)...), link(-1, 0, 0, 0, repeated(-999999, 400)...)),
		{Programs: []impl.Program{program(0, 0, in(impl.OpHalt))}},
	}
	networks = append(networks, drawnNetworks(300)...)
	for _, n := range networks {
		if !impl.IsNetwork(n) {
			t.Errorf("%v is a network", n)
		}
	}
	for _, n := range noNetworks() {
		if impl.IsNetwork(n) {
			t.Errorf("%v is no network", n)
		}
	}
}

func TestInputsAndOutputs(t *testing.T) {
	wantList(t, "inputs of the diamond", impl.InputsOf(diamond()), 0)
	wantList(t, "outputs of the diamond", impl.OutputsOf(diamond()), 8)
	mixed := network([]string{"copy", "add", "through"},
		link(0, 1, -1, 0), link(-1, 0, 1, 1), link(1, 0, -1, 0), link(-1, 0, 0, 0, 5), link(0, 0, 1, 0), link(2, 0, 2, 0))
	wantList(t, "inputs", impl.InputsOf(mixed), 1, 3)
	wantList(t, "outputs", impl.OutputsOf(mixed), 0, 2)
	ring := network([]string{"through"}, link(0, 0, 0, 0))
	wantList(t, "inputs of a ring", impl.InputsOf(ring))
	wantList(t, "outputs of a ring", impl.OutputsOf(ring))
	wantList(t, "inputs of nothing", impl.InputsOf(impl.Network{}))
	wantList(t, "outputs of nothing", impl.OutputsOf(impl.Network{}))
	wantList(t, "all are inputs", impl.InputsOf(fullLinks()), ramp(0, 30)...)
	wantList(t, "none is an output", impl.OutputsOf(fullLinks()))
}

func TestLinkToAndFrom(t *testing.T) {
	n := diamond()
	for k, l := range n.Links {
		if k != 0 {
			got, ok := impl.LinkFrom(n, l.From, l.Out)
			wantIndex(t, "from", got, ok, k)
		}
		if k != 8 {
			got, ok := impl.LinkTo(n, l.To, l.In)
			wantIndex(t, "to", got, ok, k)
		}
	}
	full := fullLinks()
	for k := range full.Links {
		got, ok := impl.LinkTo(full, k/3, k%3)
		wantIndex(t, "to", got, ok, k)
		got, ok = impl.LinkFrom(full, k/3, k%3)
		wantNoIndex(t, "from", got, ok)
	}
	// The links to and from outside are at no port, and the diamond has both.
	for _, process := range []int{-2, -1, 6, math.MaxInt, math.MinInt} {
		for _, port := range []int{-1, 0, 1} {
			got, ok := impl.LinkTo(n, process, port)
			wantNoIndex(t, "to no process", got, ok)
			got, ok = impl.LinkFrom(n, process, port)
			wantNoIndex(t, "from no process", got, ok)
		}
	}
	for _, port := range []int{-1, 2, 3, math.MaxInt, math.MinInt} {
		got, ok := impl.LinkTo(n, 0, port)
		wantNoIndex(t, "to no port", got, ok)
		got, ok = impl.LinkFrom(n, 1, port)
		wantNoIndex(t, "from no port", got, ok)
	}
	got, ok := impl.LinkFrom(n, 0, 1)
	wantNoIndex(t, "from an input port", got, ok)
	got, ok = impl.LinkTo(n, 1, 1)
	wantNoIndex(t, "to an output port", got, ok)
}

func TestChainNetwork(t *testing.T) {
	through, sums, twice := impl.SampleProgram("through"), impl.SampleProgram("sums"), impl.SampleProgram("twice")
	got, ok := impl.ChainNetwork([]impl.Program{sums, through, twice}, []int{4, -5})
	wantNetwork(t, "three", got, ok, network([]string{"sums", "through", "twice"},
		link(-1, 0, 0, 0, 4, -5), link(0, 0, 1, 0), link(1, 0, 2, 0), link(2, 0, -1, 0)))
	got, ok = impl.ChainNetwork([]impl.Program{sums}, nil)
	wantNetwork(t, "one", got, ok, network([]string{"sums"}, link(-1, 0, 0, 0), link(0, 0, -1, 0)))
	full := repeated(999999, 400)
	got, ok = impl.ChainNetwork([]impl.Program{sums}, full)
	wantNetwork(t, "a full stream", got, ok, network([]string{"sums"}, link(-1, 0, 0, 0, full...), link(0, 0, -1, 0)))
	got, ok = impl.ChainNetwork(slices.Repeat([]impl.Program{twice}, 12), []int{1})
	if !ok || len(got.Programs) != 12 || len(got.Links) != 13 || !impl.IsNetwork(got) {
		t.Errorf("twelve: got %v, %v", got, ok)
	}
	got, ok = impl.ChainNetwork(slices.Repeat([]impl.Program{twice}, 13), []int{1})
	wantNoNetwork(t, "thirteen", got, ok)
	got, ok = impl.ChainNetwork(slices.Repeat([]impl.Program{twice}, 30), nil)
	wantNoNetwork(t, "thirty", got, ok)
}

func TestChainNetworkRefuses(t *testing.T) {
	through := impl.SampleProgram("through")
	got, ok := impl.ChainNetwork(nil, []int{1})
	wantNoNetwork(t, "no programs", got, ok)
	got, ok = impl.ChainNetwork([]impl.Program{}, nil)
	wantNoNetwork(t, "no programs", got, ok)
	others := noPrograms()
	for _, name := range sampleNames {
		if p := impl.SampleProgram(name); p.Ins != 1 || p.Outs != 1 {
			others = append(others, p)
		}
	}
	halt := in(impl.OpHalt)
	others = append(others, program(0, 0, halt), program(2, 2, halt), program(1, 3, halt),
		program(1, 1, slices.Repeat([]impl.Instr{halt}, 25)...), program(1, 1, halt, in(12)), program(1, 1, in(impl.OpRead, 0, 1)))
	for _, p := range others {
		for _, programs := range [][]impl.Program{{p}, {p, through}, {through, p}, {through, p, through}} {
			got, ok = impl.ChainNetwork(programs, nil)
			wantNoNetwork(t, "another program", got, ok)
		}
	}
	for _, bad := range noStreams() {
		got, ok = impl.ChainNetwork([]impl.Program{through}, bad)
		wantNoNetwork(t, "no stream", got, ok)
	}
}

func TestFeedNetwork(t *testing.T) {
	n := diamond()
	for k, l := range n.Links {
		for _, tokens := range [][]int{nil, {}, {9}, {-999999, 999999, 0}, ramp(0, 400-len(l.Tokens))} {
			want := cloneNetwork(n)
			want.Links[k].Tokens = slices.Concat(l.Tokens, tokens)
			got, ok := impl.FeedNetwork(n, k, tokens)
			wantNetwork(t, "fed", got, ok, want)
		}
		got, ok := impl.FeedNetwork(n, k, ramp(0, 401-len(l.Tokens)))
		wantNoNetwork(t, "one too many", got, ok)
		for _, bad := range noStreams() {
			got, ok := impl.FeedNetwork(n, k, bad)
			wantNoNetwork(t, "no stream", got, ok)
		}
	}
	full := network([]string{"sink"}, link(-1, 0, 0, 0, ramp(0, 400)...))
	got, ok := impl.FeedNetwork(full, 0, nil)
	wantNetwork(t, "full", got, ok, full)
	got, ok = impl.FeedNetwork(full, 0, []int{1})
	wantNoNetwork(t, "full already", got, ok)
	for _, k := range []int{-2, -1, 9, 10, 30, math.MaxInt, math.MinInt} {
		for _, tokens := range [][]int{nil, {1}} {
			got, ok := impl.FeedNetwork(n, k, tokens)
			wantNoNetwork(t, "no link", got, ok)
		}
	}
	got, ok = impl.FeedNetwork(impl.Network{}, 0, nil)
	wantNoNetwork(t, "no links", got, ok)
}

func TestPermuteNetwork(t *testing.T) {
	n := network([]string{"copy", "add", "sums"},
		link(-1, 0, 0, 0, 5), link(0, 0, 1, 0), link(0, 1, 2, 0, 6), link(2, 0, 1, 1), link(1, 0, -1, 0))
	got, ok := impl.PermuteNetwork(n, []int{2, 0, 1})
	wantNetwork(t, "another order", got, ok, network([]string{"sums", "copy", "add"},
		link(-1, 0, 1, 0, 5), link(1, 0, 2, 0), link(1, 1, 0, 0, 6), link(0, 0, 2, 1), link(2, 0, -1, 0)))
	got, ok = impl.PermuteNetwork(n, []int{0, 1, 2})
	wantNetwork(t, "the same order", got, ok, n)
	got, ok = impl.PermuteNetwork(impl.Network{}, nil)
	wantNetwork(t, "no processes", got, ok, impl.Network{})
	got, ok = impl.PermuteNetwork(fullProcesses(), ramp(0, 12))
	wantNetwork(t, "all processes", got, ok, fullProcesses())
	orders := [][]int{
		nil, {}, {0}, {0, 1}, {1, 2}, {0, 1, 2, 0}, {0, 1, 2, 3}, {0, 1, 2, -1}, {0, 0, 1}, {0, 1, 1}, {2, 1, 2}, {1, 1, 1},
		{0, 1, 3}, {1, 2, 3}, {-1, 0, 1}, {0, -1, 2}, {0, 1, math.MaxInt}, {math.MinInt, 1, 2}, ramp(0, 1000),
	}
	for _, order := range orders {
		got, ok = impl.PermuteNetwork(n, order)
		wantNoNetwork(t, "no order", got, ok)
	}
	got, ok = impl.PermuteNetwork(impl.Network{}, []int{0})
	wantNoNetwork(t, "an order of nothing", got, ok)
}

func TestJoinNetworks(t *testing.T) {
	a := network([]string{"copy", "sink"}, link(-1, 0, 0, 0, 5), link(0, 1, 1, 0, 6), link(0, 0, -1, 0))
	b := network([]string{"count", "through", "sums"},
		link(2, 0, -1, 0, 7), link(0, 0, 1, 0, 8), link(-1, 0, 2, 0), link(1, 0, -1, 0))
	got, ok := impl.JoinNetworks(a, b)
	wantNetwork(t, "both", got, ok, network([]string{"copy", "sink", "count", "through", "sums"},
		link(-1, 0, 0, 0, 5), link(0, 1, 1, 0, 6), link(0, 0, -1, 0),
		link(4, 0, -1, 0, 7), link(2, 0, 3, 0, 8), link(-1, 0, 4, 0), link(3, 0, -1, 0)))
	got, ok = impl.JoinNetworks(a, impl.Network{})
	wantNetwork(t, "nothing behind", got, ok, a)
	got, ok = impl.JoinNetworks(impl.Network{}, b)
	wantNetwork(t, "nothing before", got, ok, b)
	got, ok = impl.JoinNetworks(impl.Network{}, impl.Network{})
	wantNetwork(t, "nothing", got, ok, impl.Network{})
}

func TestJoinNetworksLimits(t *testing.T) {
	halt := impl.Network{Programs: []impl.Program{program(0, 0, in(impl.OpHalt))}}
	eleven := impl.Network{Programs: slices.Repeat(halt.Programs, 11)}
	got, ok := impl.JoinNetworks(eleven, halt)
	wantNetwork(t, "twelve processes", got, ok, fullProcesses())
	got, ok = impl.JoinNetworks(fullProcesses(), halt)
	wantNoNetwork(t, "thirteen processes", got, ok)
	got, ok = impl.JoinNetworks(fullProcesses(), impl.Network{})
	wantNetwork(t, "twelve and none", got, ok, fullProcesses())
	got, ok = impl.JoinNetworks(fullLinks(), halt)
	if !ok || len(got.Links) != 30 || len(got.Programs) != 12 {
		t.Errorf("thirty links: got %v, %v", got, ok)
	}
	got, ok = impl.JoinNetworks(network([]string{"sink"}, link(-1, 0, 0, 0)), fullLinks())
	wantNoNetwork(t, "thirty-one links", got, ok)
	got, ok = impl.JoinNetworks(fullLinks(), network([]string{"through"}, link(0, 0, 0, 0)))
	wantNoNetwork(t, "thirty-one links", got, ok)
}

func TestJoinedPartsHaveToBeNetworks(t *testing.T) {
	// Each of them has what the other one lacks.
	a := network([]string{"count"}, link(0, 0, 1, 0))
	b := network([]string{"sink"})
	if impl.IsNetwork(a) || impl.IsNetwork(b) || !impl.IsNetwork(network([]string{"count", "sink"}, link(0, 0, 1, 0))) {
		t.Error("only both together are a network")
	}
	got, ok := impl.JoinNetworks(a, b)
	wantNoNetwork(t, "parts", got, ok)
	back := network([]string{"sink"}, link(-1, 0, 0, 0), link(-1, 0, -2, 0))
	got, ok = impl.JoinNetworks(network([]string{"count", "sink"}, link(0, 0, -1, 0)), back)
	wantNoNetwork(t, "a link back", got, ok)
}

func TestReachedFrom(t *testing.T) {
	line := network([]string{"sums", "through", "twice"},
		link(1, 0, 0, 0), link(0, 0, -1, 0), link(-1, 0, 2, 0), link(2, 0, 1, 0))
	cases := []struct {
		n       impl.Network
		process int
		want    []int
	}{
		{line, 0, nil}, {line, 1, []int{0}}, {line, 2, []int{0, 1}},
		{diamond(), 0, ramp(0, 6)}, {diamond(), 3, ramp(0, 6)}, {diamond(), 5, ramp(0, 6)},
		{network([]string{"through"}, link(0, 0, 0, 0)), 0, []int{0}},
		{network([]string{"through"}, link(0, 0, -1, 0), link(-1, 0, 0, 0)), 0, nil},
		{network([]string{"copy", "add"}, link(-1, 0, 0, 0), link(0, 0, 1, 0), link(0, 1, 1, 1), link(1, 0, -1, 0)), 0, []int{1}},
		{network([]string{"count", "copy", "sink"}, link(0, 0, 1, 0), link(1, 0, 2, 0), link(1, 1, -1, 0)), 0, []int{1, 2}},
		{fullProcesses(), 11, nil},
	}
	for _, c := range cases {
		got, ok := impl.ReachedFrom(c.n, c.process)
		wantListOk(t, "reached", got, ok, c.want...)
	}
	for _, process := range []int{-2, -1, 6, 7, math.MaxInt, math.MinInt} {
		got, ok := impl.ReachedFrom(diamond(), process)
		wantNothing(t, "no process", got, ok)
	}
	got, ok := impl.ReachedFrom(impl.Network{}, 0)
	wantNothing(t, "no processes", got, ok)
}

func TestHasCycle(t *testing.T) {
	cycles := []impl.Network{
		diamond(), network([]string{"through"}, link(0, 0, 0, 0)),
		network([]string{"through", "sums"}, link(0, 0, 1, 0), link(1, 0, 0, 0)),
		network([]string{"sink", "through"}, link(-1, 0, 0, 0), link(1, 0, 1, 0)),
		network([]string{"add", "copy", "sink"}, link(-1, 0, 0, 0), link(0, 0, 1, 0), link(1, 0, 0, 1), link(1, 1, 2, 0)),
	}
	for _, n := range cycles {
		if !impl.HasCycle(n) {
			t.Errorf("%v has a cycle", n)
		}
	}
	others := []impl.Network{
		{}, fullLinks(), fullProcesses(), network([]string{"through"}, link(0, 0, -1, 0), link(-1, 0, 0, 0)),
		network([]string{"copy", "add"}, link(-1, 0, 0, 0), link(0, 0, 1, 0), link(0, 1, 1, 1), link(1, 0, -1, 0)),
		network([]string{"add", "copy"}, link(-1, 0, 1, 0), link(1, 1, 0, 0), link(1, 0, 0, 1), link(0, 0, -1, 0)),
	}
	for _, n := range others {
		if impl.HasCycle(n) {
			t.Errorf("%v has no cycle", n)
		}
	}
}

func TestNetworksThatAreNotValid(t *testing.T) {
	for _, bad := range noNetworks() {
		wantList(t, "inputs", impl.InputsOf(bad))
		wantList(t, "outputs", impl.OutputsOf(bad))
		k, ok := impl.LinkTo(bad, 1, 0)
		wantNoIndex(t, "to", k, ok)
		k, ok = impl.LinkFrom(bad, 1, 0)
		wantNoIndex(t, "from", k, ok)
		got, ok := impl.FeedNetwork(bad, 0, nil)
		wantNoNetwork(t, "feed", got, ok)
		got, ok = impl.PermuteNetwork(bad, ramp(0, len(bad.Programs)))
		wantNoNetwork(t, "permute", got, ok)
		for _, other := range []impl.Network{{}, diamond(), bad} {
			got, ok = impl.JoinNetworks(bad, other)
			wantNoNetwork(t, "join", got, ok)
			got, ok = impl.JoinNetworks(other, bad)
			wantNoNetwork(t, "join", got, ok)
		}
		reached, ok := impl.ReachedFrom(bad, 0)
		wantNothing(t, "reached", reached, ok)
		if impl.HasCycle(bad) {
			t.Errorf("%v is no network, and has no cycle", bad)
		}
	}
}

// networkCall is a call of a function that returns a network, with its arguments.
type networkCall struct {
	name   string
	a, b   impl.Network
	tokens []int
	call   func(a, b impl.Network, tokens []int) (impl.Network, bool)
}

func networkCalls() []networkCall {
	chain := func(a, b impl.Network, tokens []int) (impl.Network, bool) {
		return impl.ChainNetwork(a.Programs, tokens)
	}
	feed := func(a, b impl.Network, tokens []int) (impl.Network, bool) { return impl.FeedNetwork(a, 1, tokens) }
	permute := func(a, b impl.Network, tokens []int) (impl.Network, bool) { return impl.PermuteNetwork(a, tokens) }
	join := func(a, b impl.Network, tokens []int) (impl.Network, bool) { return impl.JoinNetworks(a, b) }
	one := impl.Network{Programs: slices.Repeat([]impl.Program{impl.SampleProgram("twice")}, 3)}
	same := network([]string{"through", "through"}, link(-1, 0, 0, 0, 1, 2), link(0, 0, 1, 0, 1, 2), link(1, 0, -1, 0, 1, 2))
	same.Programs[1].Code = same.Programs[0].Code
	same.Links[1].Tokens, same.Links[2].Tokens = same.Links[0].Tokens, same.Links[0].Tokens
	return []networkCall{
		{"chain", one, impl.Network{}, []int{3, 4}, chain}, {"feed", diamond(), impl.Network{}, []int{3, 4}, feed},
		{"feed nothing", diamond(), impl.Network{}, nil, feed}, {"feed shared", same, impl.Network{}, []int{3}, feed},
		{"permute", diamond(), impl.Network{}, []int{3, 5, 1, 0, 2, 4}, permute}, {"permute shared", same, impl.Network{}, []int{1, 0}, permute},
		{"stay", diamond(), impl.Network{}, ramp(0, 6), permute}, {"join", diamond(), diamond(), nil, join},
		{"join shared", same, same, nil, join}, {"join nothing", diamond(), impl.Network{}, nil, join},
		{"join to nothing", impl.Network{}, diamond(), nil, join},
	}
}

// roomy is a copy of a network with spare capacity behind each of its lists, which is not to be written to.
func roomy(n impl.Network) impl.Network {
	out := impl.Network{Programs: roomFor(n.Programs), Links: roomFor(n.Links)}
	for i := range out.Programs {
		out.Programs[i].Code = roomFor(out.Programs[i].Code)
	}
	for i := range out.Links {
		out.Links[i].Tokens = roomFor(out.Links[i].Tokens)
	}
	return out
}

func roomFor[T any](s []T) []T {
	return append(make([]T, 0, len(s)+5), s...)
}

// spread is a network with all that lies in the spare capacity behind its lists.
func spread(n impl.Network) impl.Network {
	out := impl.Network{Programs: slices.Clone(n.Programs[:cap(n.Programs)]), Links: slices.Clone(n.Links[:cap(n.Links)])}
	for i, p := range out.Programs {
		out.Programs[i].Code = slices.Clone(p.Code[:cap(p.Code)])
	}
	for i, l := range out.Links {
		out.Links[i].Tokens = slices.Clone(l.Tokens[:cap(l.Tokens)])
	}
	return out
}

func TestMemoryOfNetworks(t *testing.T) {
	for _, c := range slices.Concat(networkCalls(), growthCalls()) {
		a, b, tokens := roomy(c.a), roomy(c.b), roomFor(c.tokens)
		if strings.HasSuffix(c.name, "shared") {
			b = a
		}
		beforeA, beforeB, beforeTokens := spread(a), spread(b), slices.Clone(tokens[:cap(tokens)])
		unchanged := func() bool {
			return sameNetwork(spread(a), beforeA) && sameNetwork(spread(b), beforeB) && slices.Equal(tokens[:cap(tokens)], beforeTokens)
		}
		got, ok := c.call(a, b, tokens)
		if !ok || !unchanged() {
			t.Errorf("%s: fails, or changes an argument", c.name)
		}
		checkOwnLists(t, c.name, got)
		if !unchanged() {
			t.Errorf("%s: the result shares memory with an argument", c.name)
		}
	}
}

func TestOtherCallsChangeNothing(t *testing.T) {
	for _, n := range []impl.Network{diamond(), fullLinks(), noNetworks()[0], noNetworks()[20]} {
		n = roomy(n)
		tokens, order := guard([]int{1, 2}), guard([]int{0, 0, 1})
		before := spread(n)
		impl.IsNetwork(n)
		first, second := impl.InputsOf(n), impl.InputsOf(n)
		want := slices.Clone(second)
		scribble(first)
		wantList(t, "inputs", second, want...)
		scribble(impl.OutputsOf(n))
		impl.LinkTo(n, 0, 0)
		impl.LinkFrom(n, 1, 0)
		reached, _ := impl.ReachedFrom(n, 0)
		scribble(reached)
		impl.HasCycle(n)
		impl.ChainNetwork(n.Programs, tokens.list)
		impl.FeedNetwork(n, 77, tokens.list)
		impl.PermuteNetwork(n, order.list)
		impl.JoinNetworks(fullLinks(), n)
		if !sameNetwork(spread(n), before) || tokens.changed() || order.changed() {
			t.Errorf("%v is changed", n)
		}
	}
}

func TestMemoryOfSharedArguments(t *testing.T) {
	for _, c := range slices.Concat(networkCalls(), growthCalls()) {
		got, _ := c.call(c.a, c.b, c.tokens)
		before, again := cloneNetwork(c.a), cloneNetwork(got)
		checkOwnLists(t, c.name, got)
		if !sameNetwork(c.a, before) {
			t.Errorf("%s: the result shares memory with an argument", c.name)
		}
		if second, ok := c.call(c.a, c.b, c.tokens); !ok || !sameNetwork(second, again) {
			t.Errorf("%s: a second call returns something else", c.name)
		}
	}
}

// checkOwnLists overwrites each list of a network, and looks whether another one is changed by that.
func checkOwnLists(t *testing.T, name string, n impl.Network) {
	t.Helper()
	for i := range n.Programs {
		want := cloneNetwork(n)
		code := n.Programs[i].Code
		for k := range code[:cap(code)] {
			code[:cap(code)][k] = in(77)
		}
		want.Programs[i].Code = slices.Clone(code)
		if !sameNetwork(n, want) {
			t.Errorf("%s: the code of process %d shares memory", name, i)
		}
	}
	for i := range n.Links {
		want := cloneNetwork(n)
		scribble(n.Links[i].Tokens)
		want.Links[i].Tokens = slices.Clone(n.Links[i].Tokens)
		if !sameNetwork(n, want) {
			t.Errorf("%s: the tokens of link %d share memory", name, i)
		}
	}
	clear(n.Programs[:cap(n.Programs)])
	clear(n.Links[:cap(n.Links)])
}
