package tests

import (
	"math"
	"slices"
	"testing"

	"loop.example/g03224/impl"
)

// noIndices are indices of nothing where there are so many.
func noIndices(count int) []int {
	return []int{math.MinInt, -2, -1, count, count + 1, math.MaxInt}
}

func TestIsTemplate(t *testing.T) {
	cases := []struct {
		label string
		n     impl.Network
		k     int
		m     impl.Network
	}{
		{"turned", crossed(), 1, turned()},
		{"one process", crossed(), 1, host(3, 3)},
		{"the first process", crossed(), 0, host(1, 1)},
		{"the last process", crossed(), 2, host(1, 2)},
		{"no inputs", network([]string{"count"}, link(0, 0, -1, 0)), 0, host(0, 1)},
		{"no outputs", network([]string{"sink"}, link(-1, 0, 0, 0)), 0, host(1, 0)},
		{"no ports", host(0, 0), 0, host(0, 0)},
		{"no processes", host(0, 0), 0, impl.Network{}},
		{"a ring aside", host(0, 0), 0, network([]string{"through"}, link(0, 0, 0, 0, 1, 2))},
		{"tokens on an inner link", host(1, 1), 0, network([]string{"sums", "steps"}, link(-1, 0, 0, 0), link(0, 0, 1, 0, 5), link(1, 0, -1, 0))},
		// It makes no difference that what it grows into has no room there.
		{"too many processes", fullProcesses(), 0, fullProcesses()},
		{"in a full network", fullLinks(), 3, host(3, 0)},
	}
	for _, c := range cases {
		wantBool(t, c.label, impl.IsTemplate(c.n, c.k, c.m), true)
	}
}

func TestNoTemplates(t *testing.T) {
	for _, k := range noIndices(3) {
		wantNoGrowth(t, "no process", crossed(), k, turned())
	}
	for _, k := range noIndices(1) {
		wantNoGrowth(t, "no process", host(0, 0), k, impl.Network{})
	}
	wantNoGrowth(t, "no processes", impl.Network{}, 0, impl.Network{})
	wantNoGrowth(t, "no processes", impl.Network{}, -1, impl.Network{})
	for ins := range 4 {
		for outs := range 4 {
			for i := range 16 {
				same := i/4 == ins && i%4 == outs
				wantBool(t, "ports", impl.IsTemplate(host(ins, outs), 0, host(i/4, i%4)), same)
				if !same {
					wantNoGrowth(t, "other ports", host(ins, outs), 0, host(i/4, i%4))
				}
			}
		}
	}
	// More than there may be ports.
	many := impl.Network{Programs: []impl.Program{ports(3, 3), ports(3, 3)}}
	for port := range 6 {
		many.Links = append(many.Links, link(-1, 0, port/3, port%3), link(port/3, port%3, -1, 0))
	}
	wantNoGrowth(t, "many ports", crossed(), 1, many)
	wantNoGrowth(t, "no processes for ports", host(1, 1), 0, impl.Network{})
	for i, l := range turned().Links {
		m := changed(turned(), func(m *impl.Network) { m.Links[i].Tokens = []int{0} })
		if l.From != -1 && l.To != -1 {
			wantBool(t, "tokens on an inner link", impl.IsTemplate(crossed(), 1, m), true)
		} else {
			wantNoGrowth(t, "tokens on an input or output", crossed(), 1, m)
		}
	}
}

// TestTemplatesThatAreNotValid has templates that lack nothing else.
func TestTemplatesThatAreNotValid(t *testing.T) {
	looked := 0
	for _, bad := range noNetworks() {
		m := withoutTokensOutside(bad)
		inputs := countOf(m, func(l impl.Link) bool { return l.From == -1 })
		outputs := countOf(m, func(l impl.Link) bool { return l.To == -1 })
		if inputs > 3 || outputs > 3 || isNetworkByCounting(m) {
			continue
		}
		looked++
		wantNoGrowth(t, "no template", host(inputs, outputs), 0, m)
	}
	if looked < 400 {
		t.Errorf("only %d templates were looked at", looked)
	}
}

func TestGrowthOfNoNetworks(t *testing.T) {
	for _, bad := range noNetworks() {
		for k := range len(bad.Programs) + 1 {
			for _, m := range []impl.Network{{}, host(1, 1), host(2, 1)} {
				wantNoGrowth(t, "no network", bad, k, m)
			}
			got, ok := impl.DropProcess(bad, k)
			wantNoNetwork(t, "no network: DropProcess", got, ok)
		}
		for k := range len(bad.Links) + 1 {
			got, ok := impl.SpliceThrough(bad, k)
			wantNoNetwork(t, "no network: SpliceThrough", got, ok)
		}
	}
}

// TestGrowthDoesNotMend has networks that are not valid, though what would be made of them is.
func TestGrowthDoesNotMend(t *testing.T) {
	thirteen := impl.Network{Programs: slices.Repeat([]impl.Program{ports(0, 0)}, 13)}
	wantNoGrowth(t, "a process too many", thirteen, 3, impl.Network{})
	got, ok := impl.DropProcess(thirteen, 3)
	wantNoNetwork(t, "a process too many", got, ok)
	wrong := host(1, 1)
	wrong.Programs[0].Code = []impl.Instr{in(12)}
	wantNoGrowth(t, "no program", wrong, 0, host(1, 1))
	got, ok = impl.DropProcess(wrong, 0)
	wantNoNetwork(t, "no program", got, ok)
	through := network(nil, link(-1, 0, -1, 0, 5))
	wantBool(t, "behind a process", impl.IsNetwork(splicedByHand(through, 0)), true)
	got, ok = impl.SpliceThrough(through, 0)
	wantNoNetwork(t, "from outside to outside", got, ok)
	got, ok = impl.DropProcess(changed(host(0, 0), func(n *impl.Network) { n.Links = through.Links }), 0)
	wantNoNetwork(t, "from outside to outside", got, ok)
	for _, bad := range noStreams() {
		got, ok = impl.DropProcess(changed(host(1, 1), func(n *impl.Network) { n.Links[0].Tokens = bad }), 0)
		wantNoNetwork(t, "no stream", got, ok)
	}
	lacking := changed(host(1, 1), func(n *impl.Network) { n.Links = n.Links[:1] })
	got, ok = impl.DropProcess(lacking, 0)
	wantNoNetwork(t, "a port without a link", got, ok)
	twice := changed(host(1, 1), func(n *impl.Network) { n.Links = append(n.Links, n.Links[1]) })
	got, ok = impl.DropProcess(twice, 0)
	wantNoNetwork(t, "a port with two links", got, ok)
	got, ok = impl.DropProcess(changed(host(1, 1), func(n *impl.Network) { n.Links[1].Out = 1 }), 0)
	wantNoNetwork(t, "a port that there is not", got, ok)
}

func TestExpandNetwork(t *testing.T) {
	got, ok := impl.ExpandNetwork(crossed(), 1, turned())
	wantNetwork(t, "in the middle", got, ok, crossedAndTurned())
	line := func(names ...string) impl.Network {
		n := network(names, link(-1, 0, 0, 0, 5, 7))
		for k := range names {
			n.Links = append(n.Links, link(k, 0, k+1, 0, k))
		}
		n.Links[len(names)].To = -1
		return n
	}
	pair := network([]string{"sums", "steps"}, link(0, 0, 1, 0, 8), link(-1, 0, 0, 0), link(1, 0, -1, 0))
	got, ok = impl.ExpandNetwork(line("through", "twice", "sums"), 0, pair)
	wantNetwork(t, "the first one", got, ok, network([]string{"twice", "sums", "sums", "steps"},
		link(-1, 0, 2, 0, 5, 7), link(3, 0, 0, 0, 0), link(0, 0, 1, 0, 1), link(1, 0, -1, 0, 2), link(2, 0, 3, 0, 8)))
	got, ok = impl.ExpandNetwork(line("twice", "through", "sums"), 1, pair)
	wantNetwork(t, "the second one", got, ok, network([]string{"twice", "sums", "sums", "steps"},
		link(-1, 0, 0, 0, 5, 7), link(0, 0, 2, 0, 0), link(3, 0, 1, 0, 1), link(1, 0, -1, 0, 2), link(2, 0, 3, 0, 8)))
	got, ok = impl.ExpandNetwork(line("twice", "sums", "through"), 2, pair)
	wantNetwork(t, "the last one", got, ok, network([]string{"twice", "sums", "sums", "steps"},
		link(-1, 0, 0, 0, 5, 7), link(0, 0, 1, 0, 0), link(1, 0, 2, 0, 1), link(3, 0, -1, 0, 2), link(2, 0, 3, 0, 8)))
	got, ok = impl.ExpandNetwork(line("through"), 0, pair)
	wantNetwork(t, "all ports lead to outside", got, ok, network([]string{"sums", "steps"},
		link(-1, 0, 0, 0, 5, 7), link(1, 0, -1, 0, 0), link(0, 0, 1, 0, 8)))
	ring := network([]string{"through"}, link(0, 0, 0, 0, 1, 2, 3))
	got, ok = impl.ExpandNetwork(ring, 0, pair)
	wantNetwork(t, "to itself", got, ok, network([]string{"sums", "steps"}, link(1, 0, 0, 0, 1, 2, 3), link(0, 0, 1, 0, 8)))
	got, ok = impl.ExpandNetwork(line("twice"), 0, host(1, 1))
	wantNetwork(t, "another program", got, ok, impl.Network{
		Programs: []impl.Program{ports(1, 1)}, Links: line("twice").Links})
}

func TestExpandNetworkWithoutPorts(t *testing.T) {
	sink := network([]string{"sink"}, link(-1, 0, 0, 0, 4))
	n, _ := impl.JoinNetworks(host(0, 0), sink)
	got, ok := impl.ExpandNetwork(n, 0, impl.Network{})
	wantNetwork(t, "into nothing", got, ok, sink)
	n, _ = impl.JoinNetworks(sink, host(0, 0))
	got, ok = impl.ExpandNetwork(n, 1, impl.Network{})
	wantNetwork(t, "into nothing, behind others", got, ok, sink)
	got, ok = impl.ExpandNetwork(host(0, 0), 0, impl.Network{})
	wantNetwork(t, "all of it", got, ok, impl.Network{})
	wantGrownState(t, "all of it", host(0, 0), startByHand(host(0, 0)), 0, impl.Network{}, impl.State{})
	ring := network([]string{"through"}, link(0, 0, 0, 0, 1))
	got, ok = impl.ExpandNetwork(n, 1, ring)
	wantNetwork(t, "into a ring", got, ok, network([]string{"sink", "through"}, link(-1, 0, 0, 0, 4), link(1, 0, 1, 0, 1)))
}

func TestExpandNetworkToTheLimits(t *testing.T) {
	halts := func(count int) impl.Network {
		return impl.Network{Programs: slices.Repeat([]impl.Program{ports(0, 0)}, count)}
	}
	for _, c := range [][2]int{{1, 12}, {11, 2}, {12, 1}, {12, 0}, {6, 7}} {
		got, ok := impl.ExpandNetwork(halts(c[0]), c[0]-1, halts(c[1]))
		wantNetwork(t, "processes", got, ok, halts(c[0]+c[1]-1))
		more := changed(halts(c[1]), func(m *impl.Network) { m.Programs = append(m.Programs, ports(0, 0)) })
		if c[0]+c[1] == 13 && c[1] < 12 {
			wantNoRoom(t, "a process too many", halts(c[0]), 0, more)
		}
	}
	wantNoRoom(t, "far too many", halts(12), 11, halts(12))
	// Each link of a ring is an inner one.
	rings := func(count int) impl.Network {
		m := impl.Network{Programs: slices.Repeat([]impl.Program{ports(3, 3)}, (count+2)/3)}
		if count%3 > 0 {
			m.Programs[count/3] = ports(count%3, count%3)
		}
		for i := range count {
			m.Links = append(m.Links, link(i/3, i%3, i/3, i%3, i))
		}
		return m
	}
	for _, c := range [][2]int{{0, 30}, {30, 0}, {29, 1}, {15, 15}, {1, 29}} {
		n, _ := impl.JoinNetworks(rings(c[0]), host(0, 0))
		want, _ := expandedByHand(n, len(n.Programs)-1, rings(c[1]))
		got, ok := impl.ExpandNetwork(n, len(n.Programs)-1, rings(c[1]))
		wantNetwork(t, "links", got, ok, want)
		wantCount(t, "links", len(got.Links), 30)
		if c[1] < 30 {
			wantNoRoom(t, "a link too many", n, len(n.Programs)-1, rings(c[1]+1))
		}
	}
	got, ok := impl.ExpandNetwork(fullLinks(), 0, host(3, 0))
	wantBool(t, "no link more", ok, true)
	wantCount(t, "no link more", len(got.Links), 30)
}

// wantNoRoom has a template that is one, but too large.
func wantNoRoom(t *testing.T, label string, n impl.Network, k int, m impl.Network) {
	t.Helper()
	wantBool(t, label, impl.IsTemplate(n, k, m), true)
	got, ok := impl.ExpandNetwork(n, k, m)
	wantNoNetwork(t, label, got, ok)
	wantNoGrownState(t, label, n, startByHand(n), k, m)
}

// crossedState has tokens on most links, also on such from which they were taken. The actor of its process 1 is new.
func crossedState() impl.State {
	return impl.State{
		Actors: []impl.Actor{actor(1, 4, 3, 2, 1), actor(0, 0, 0, 0, 0), actor(3, -5, 0, 0, 999999)},
		Queues: [][]int{{10}, {20}, {3}, {}, {50, 51}, {6, 60}, {7}},
		Sent:   [][]int{{1, 10}, {2, 20}, {3}, {4}, {5, 50, 51}, {6, 60}, {7}},
		Steps:  17,
	}
}

func TestExpandState(t *testing.T) {
	s := crossedState()
	want := impl.State{
		Actors: []impl.Actor{actor(1, 4, 3, 2, 1), actor(3, -5, 0, 0, 999999), actor(0, 0, 0, 0, 0), actor(0, 0, 0, 0, 0)},
		Queues: [][]int{{10}, {20}, {3}, {}, {50, 51}, {6, 60}, {7}, {8, 9}},
		Sent:   [][]int{{1, 10}, {2, 20}, {3}, {4}, {5, 50, 51}, {6, 60}, {7}, {8, 9}},
		Steps:  17,
	}
	wantGrownState(t, "on the way", crossed(), s, 1, turned(), want)
	wantBool(t, "on the way", impl.IsState(crossedAndTurned(), want), true)
	wantGrownState(t, "at first", crossed(), startByHand(crossed()), 1, turned(), startByHand(crossedAndTurned()))
	s.Steps, want.Steps = 20000, 20000
	wantGrownState(t, "after all steps", crossed(), s, 1, turned(), want)
	s.Steps, want.Steps = 0, 0
	wantGrownState(t, "without steps", crossed(), s, 1, turned(), want)
	s = crossedState()
	want.Actors, want.Queues, want.Sent, want.Steps = want.Actors[:3], s.Queues, s.Sent, 17
	wantGrownState(t, "without inner links", crossed(), s, 1, host(3, 3), want)
}

func TestExpandStateOfActors(t *testing.T) {
	n := network([]string{"through", "sums"}, link(-1, 0, 0, 0, 0, 1), link(0, 0, 1, 0), link(1, 0, -1, 0))
	s := impl.StartState(n)
	pair := network([]string{"sums", "steps"}, link(-1, 0, 0, 0), link(0, 0, 1, 0), link(1, 0, -1, 0))
	for steps := range 5 {
		got, ok := impl.ExpandState(n, s, 0, pair)
		// After three steps, it has passed a 0 on and is again as it was at first.
		wantBool(t, "through", ok, steps%3 == 0)
		if ok {
			wantState(t, "through", got, expandedStateByHand(s, 0, pair))
			wantCount(t, "through", got.Steps, steps)
		} else {
			wantState(t, "through", got, impl.State{})
		}
		s, _ = impl.StepNetwork(n, s, 0)
	}
	// The other actor has not made a step all the while.
	wantGrownState(t, "the other one", n, s, 1, pair, expandedStateByHand(s, 1, pair))
	fresh := startByHand(n)
	for _, a := range []impl.Actor{
		actor(1, 0, 0, 0, 0), actor(2, 0, 0, 0, 0), actor(3, 0, 0, 0, 0), actor(0, 1, 0, 0, 0), actor(0, 0, -1, 0, 0),
		actor(0, 0, 0, 999999, 0), actor(0, 0, 0, 0, 1), actor(1, 1, 1, 1, 1),
	} {
		s := changedState(fresh, func(s *impl.State) { s.Actors[0] = a })
		wantBool(t, "an actor", impl.IsState(n, s), true)
		wantNoGrownState(t, "an actor that is not new", n, s, 0, pair)
		wantGrownState(t, "the other one", n, s, 1, pair, expandedStateByHand(s, 1, pair))
	}
}

func TestExpandStateRefuses(t *testing.T) {
	s := crossedState()
	wantBool(t, "a state", impl.IsState(crossed(), s), true)
	wrong := map[string]func(*impl.State){
		"steps below 0":          func(s *impl.State) { s.Steps = -1 },
		"too many steps":         func(s *impl.State) { s.Steps = 20001 },
		"an actor less":          func(s *impl.State) { s.Actors = s.Actors[:2] },
		"an actor more":          func(s *impl.State) { s.Actors = append(s.Actors, actor(0, 0, 0, 0, 0)) },
		"no actors":              func(s *impl.State) { s.Actors = nil },
		"a register less":        func(s *impl.State) { s.Actors[1].Regs = repeated(0, 3) },
		"a register more":        func(s *impl.State) { s.Actors[1].Regs = repeated(0, 5) },
		"no registers":           func(s *impl.State) { s.Actors[1].Regs = nil },
		"no token":               func(s *impl.State) { s.Actors[2].Regs[0] = 1000000 },
		"no place":               func(s *impl.State) { s.Actors[0].Pc = 4 },
		"a place below 0":        func(s *impl.State) { s.Actors[1].Pc = -1 },
		"a queue less":           func(s *impl.State) { s.Queues = s.Queues[:6] },
		"a queue more":           func(s *impl.State) { s.Queues = append(s.Queues, nil) },
		"one sent less":          func(s *impl.State) { s.Sent = s.Sent[:6] },
		"one sent more":          func(s *impl.State) { s.Sent = append(s.Sent, nil) },
		"queued, but not sent":   func(s *impl.State) { s.Queues[0] = []int{11} },
		"sent without tokens":    func(s *impl.State) { s.Sent[1] = []int{20} },
		"sent from outside":      func(s *impl.State) { s.Sent[2], s.Queues[2] = []int{3, 3}, []int{3, 3} },
		"taken from an output":   func(s *impl.State) { s.Queues[5] = []int{60} },
		"no token in the queues": func(s *impl.State) { s.Sent[0], s.Queues[0] = []int{1, 1000000}, []int{1000000} },
		"all":                    func(s *impl.State) { *s = impl.State{} },
	}
	for label, change := range wrong {
		wantNoGrownState(t, label, crossed(), changedState(s, change), 1, turned())
	}
	wantNoGrownState(t, "a state of the result", crossed(), startByHand(crossedAndTurned()), 1, turned())
	for _, k := range noIndices(3) {
		wantNoGrownState(t, "no process", crossed(), s, k, turned())
	}
	wantNoGrownState(t, "no template", crossed(), s, 1, host(3, 2))
	wantNoGrownState(t, "a template of another one", crossed(), s, 0, turned())
	wantNoGrownState(t, "nothing", impl.Network{}, impl.State{}, 0, impl.Network{})
}

func TestSpliceThrough(t *testing.T) {
	n := network([]string{"copy", "sink", "through"},
		link(0, 1, 1, 0, 1, 2), link(-1, 0, 0, 0, 3), link(2, 0, 2, 0, 4, 5, 6), link(0, 0, -1, 0, 7))
	names := []string{"copy", "sink", "through", "through"}
	wants := map[string][]impl.Link{
		"an inner link": {link(0, 1, 3, 0, 1, 2), n.Links[1], n.Links[2], n.Links[3], link(3, 0, 1, 0)},
		"an input":      {n.Links[0], link(-1, 0, 3, 0, 3), n.Links[2], n.Links[3], link(3, 0, 0, 0)},
		"to itself":     {n.Links[0], n.Links[1], link(2, 0, 3, 0, 4, 5, 6), n.Links[3], link(3, 0, 2, 0)},
		"an output":     {n.Links[0], n.Links[1], n.Links[2], link(0, 0, 3, 0, 7), link(3, 0, -1, 0)},
	}
	for k, label := range []string{"an inner link", "an input", "to itself", "an output"} {
		got, ok := impl.SpliceThrough(n, k)
		wantNetwork(t, label, got, ok, network(names, wants[label]...))
		again, ok := impl.SpliceThrough(got, k)
		wantNetwork(t, label+", again", again, ok, splicedByHand(got, k))
		behind, ok := impl.SpliceThrough(got, 4)
		wantNetwork(t, label+", behind it", behind, ok, splicedByHand(got, 4))
	}
	// Neither end of the new link is the first port.
	cross := crossed()
	for k := range cross.Links {
		got, ok := impl.SpliceThrough(cross, k)
		wantNetwork(t, "crossed", got, ok, splicedByHand(cross, k))
	}
	full := network([]string{"sink"}, link(-1, 0, 0, 0, ramp(0, 400)...))
	got, ok := impl.SpliceThrough(full, 0)
	wantNetwork(t, "a full stream", got, ok, network([]string{"sink", "through"}, link(-1, 0, 1, 0, ramp(0, 400)...), link(1, 0, 0, 0)))
}

func TestSpliceThroughRefuses(t *testing.T) {
	for _, k := range noIndices(7) {
		got, ok := impl.SpliceThrough(crossed(), k)
		wantNoNetwork(t, "no link", got, ok)
	}
	for _, n := range []impl.Network{{}, host(0, 0), fullProcesses()} {
		got, ok := impl.SpliceThrough(n, 0)
		wantNoNetwork(t, "no links", got, ok)
	}
	for k := range 30 {
		got, ok := impl.SpliceThrough(fullLinks(), k)
		wantNoNetwork(t, "too many links", got, ok)
	}
	n := changed(fullLinks(), func(n *impl.Network) { n.Programs[9], n.Links = ports(2, 0), n.Links[:29] })
	for k := range 29 {
		got, ok := impl.SpliceThrough(n, k)
		wantNetwork(t, "as many links as there may be", got, ok, splicedByHand(n, k))
	}
	n, _ = impl.ChainNetwork(slices.Repeat([]impl.Program{ports(1, 1)}, 11), []int{1})
	for k := range n.Links {
		got, ok := impl.SpliceThrough(n, k)
		wantNetwork(t, "as many processes as there may be", got, ok, splicedByHand(n, k))
		for k := range got.Links {
			more, ok := impl.SpliceThrough(got, k)
			wantNoNetwork(t, "too many processes", more, ok)
		}
	}
}

func TestDropProcess(t *testing.T) {
	n := crossed()
	got, ok := impl.DropProcess(n, 1)
	wantNetwork(t, "with all kinds of links", got, ok, network([]string{"through", "copy"},
		link(1, 0, -1, 0, 2), link(-1, 0, 0, 0, 4), link(0, 0, 1, 0, 5), link(1, 1, -1, 0, 7)))
	got, ok = impl.DropProcess(n, 0)
	wantNetwork(t, "the first one", got, ok, impl.Network{
		Programs: n.Programs[1:],
		Links: []impl.Link{link(0, 1, 0, 1, 1), link(1, 0, 0, 2, 2), link(-1, 0, 0, 0, 3), link(0, 0, -1, 0, 4),
			link(-1, 0, 1, 0, 5), link(0, 2, -1, 0, 6), link(1, 1, -1, 0, 7)},
	})
	got, ok = impl.DropProcess(n, 2)
	wantNetwork(t, "the last one", got, ok, impl.Network{
		Programs: n.Programs[:2],
		Links: []impl.Link{link(1, 1, 1, 1, 1), link(-1, 0, 1, 2, 2), link(-1, 0, 1, 0, 3), link(1, 0, 0, 0, 4),
			link(0, 0, -1, 0, 5), link(1, 2, -1, 0, 6)},
	})
	both := network([]string{"through", "through"}, link(0, 0, 1, 0, 1, 2), link(1, 0, 0, 0, 3))
	got, ok = impl.DropProcess(both, 0)
	wantNetwork(t, "in both directions", got, ok, network([]string{"through"}, link(-1, 0, 0, 0, 1, 2), link(0, 0, -1, 0, 3)))
	got, ok = impl.DropProcess(both, 1)
	wantNetwork(t, "in both directions", got, ok, network([]string{"through"}, link(0, 0, -1, 0, 1, 2), link(-1, 0, 0, 0, 3)))
	sums := impl.Network{Programs: []impl.Program{ports(3, 3), impl.SampleProgram("sums")}, Links: []impl.Link{
		link(0, 2, 0, 1, 1), link(0, 1, 0, 2, 2), link(-1, 0, 0, 0, 3), link(0, 0, -1, 0, 4), link(1, 0, 1, 0, 5)}}
	got, ok = impl.DropProcess(sums, 0)
	wantNetwork(t, "linked to no other one", got, ok, network([]string{"sums"}, link(0, 0, 0, 0, 5)))
}

func TestDropProcessOfOne(t *testing.T) {
	for ins := range 4 {
		for outs := range 4 {
			got, ok := impl.DropProcess(host(ins, outs), 0)
			wantNetwork(t, "the only one", got, ok, impl.Network{})
		}
	}
	got, ok := impl.DropProcess(network([]string{"through"}, link(0, 0, 0, 0, 1, 2)), 0)
	wantNetwork(t, "the only one, with a link to itself", got, ok, impl.Network{})
	for k := range 12 {
		got, ok = impl.DropProcess(fullProcesses(), k)
		wantNetwork(t, "one of twelve", got, ok, impl.Network{Programs: fullProcesses().Programs[:11]})
	}
	for k := range 10 {
		want, left := droppedByHand(fullLinks(), k)
		got, ok = impl.DropProcess(fullLinks(), k)
		wantNetwork(t, "with many links", got, ok, want)
		wantCount(t, "with many links", len(left), 27)
	}
	for _, k := range noIndices(3) {
		got, ok = impl.DropProcess(crossed(), k)
		wantNoNetwork(t, "no process", got, ok)
	}
	for _, k := range []int{-1, 0, 1} {
		got, ok = impl.DropProcess(impl.Network{}, k)
		wantNoNetwork(t, "no processes", got, ok)
	}
}

// growthCalls are looked at by the tests of the memory of networks.
func growthCalls() []networkCall {
	expand := func(k int) func(a, b impl.Network, _ []int) (impl.Network, bool) {
		return func(a, b impl.Network, _ []int) (impl.Network, bool) { return impl.ExpandNetwork(a, k, b) }
	}
	splice := func(k int) func(a, _ impl.Network, _ []int) (impl.Network, bool) {
		return func(a, _ impl.Network, _ []int) (impl.Network, bool) { return impl.SpliceThrough(a, k) }
	}
	drop := func(k int) func(a, _ impl.Network, _ []int) (impl.Network, bool) {
		return func(a, _ impl.Network, _ []int) (impl.Network, bool) { return impl.DropProcess(a, k) }
	}
	// The programs and the tokens of both have the same memory, and so have those within them.
	same := network([]string{"through", "through"}, link(-1, 0, 0, 0), link(0, 0, 1, 0, 1, 2), link(1, 0, -1, 0))
	same.Programs[1].Code = same.Programs[0].Code
	rings := network([]string{"through", "through", "count"}, link(0, 0, 0, 0, 1, 2), link(1, 0, 1, 0), link(2, 0, -1, 0))
	rings.Links[1].Tokens, rings.Links[2].Tokens = rings.Links[0].Tokens, rings.Links[0].Tokens
	rings.Programs[1].Code = rings.Programs[0].Code
	return []networkCall{
		{"expand", crossed(), turned(), nil, expand(1)}, {"expand the first one", crossed(), host(1, 1), nil, expand(0)},
		{"expand the last one", crossed(), host(1, 2), nil, expand(2)}, {"expand the only one", host(2, 1), host(2, 1), nil, expand(0)},
		{"expand shared", same, same, nil, expand(1)}, {"expand itself, shared", host(1, 1), host(1, 1), nil, expand(0)},
		{"expand to nothing", host(0, 0), impl.Network{}, nil, expand(0)},
		{"splice", crossed(), impl.Network{}, nil, splice(0)}, {"splice an input", crossed(), impl.Network{}, nil, splice(2)},
		{"splice an output", crossed(), impl.Network{}, nil, splice(6)}, {"splice shared", rings, impl.Network{}, nil, splice(1)},
		{"drop", crossed(), impl.Network{}, nil, drop(1)}, {"drop the first one", crossed(), impl.Network{}, nil, drop(0)},
		{"drop the last one", crossed(), impl.Network{}, nil, drop(2)}, {"drop shared", rings, impl.Network{}, nil, drop(2)},
		{"drop the only one", host(3, 3), impl.Network{}, nil, drop(0)},
	}
}

func TestMemoryOfGrownStates(t *testing.T) {
	for _, template := range []impl.Network{turned(), host(3, 3)} {
		n, m, s := roomy(crossed()), roomy(template), roomyState(crossedState())
		beforeN, beforeM, before := spread(n), spread(m), spreadState(s)
		unchanged := func() bool {
			return sameNetwork(spread(n), beforeN) && sameNetwork(spread(m), beforeM) && sameState(spreadState(s), before)
		}
		for _, k := range []int{-1, 0, 1, 2, 3} {
			impl.IsTemplate(n, k, m)
			got, ok := impl.ExpandState(n, s, k, m)
			wantBool(t, "grown", ok, k == 1)
			if !unchanged() {
				t.Fatal("an argument is changed")
			}
			checkOwnState(t, "grown", got)
			if !unchanged() {
				t.Fatal("the result shares memory with an argument")
			}
		}
	}
}

func TestGrownStatesOfSharedStreams(t *testing.T) {
	// The same memory as tokens of both networks, as queues, as what was sent, and as registers.
	shared := repeated(0, 4)
	n := network([]string{"through", "through"}, link(0, 0, 1, 0), link(1, 0, 0, 0))
	m := network([]string{"through", "through"}, link(-1, 0, 0, 0), link(0, 0, 1, 0), link(1, 0, -1, 0))
	m.Links[1].Tokens = shared
	s := impl.State{Actors: []impl.Actor{{Regs: shared}, {Regs: shared}}}
	for k := range n.Links {
		n.Links[k].Tokens = shared
		s.Queues, s.Sent = append(s.Queues, shared), append(s.Sent, shared)
	}
	want := expandedStateByHand(s, 0, m)
	got, ok := impl.ExpandState(n, s, 0, m)
	wantBool(t, "shared", ok, true)
	wantState(t, "shared", got, want)
	checkOwnState(t, "shared", got)
	wantList(t, "shared", shared, 0, 0, 0, 0)
}
