package tests

import (
	"math/rand"
	"slices"
	"testing"

	"loop.example/g03224/impl"
)

func link(from, out, to, in int, tokens ...int) impl.Link {
	return impl.Link{From: from, Out: out, To: to, In: in, Tokens: tokens}
}

// network has the sample programs of these names.
func network(names []string, links ...impl.Link) impl.Network {
	var n impl.Network
	for _, name := range names {
		n.Programs = append(n.Programs, impl.SampleProgram(name))
	}
	n.Links = links
	return n
}

// diamond has an input, a copy, two ways, an output behind both and a way back.
func diamond() impl.Network {
	return network([]string{"add", "copy", "sums", "twice", "alternate", "copy"},
		link(-1, 0, 0, 0, 1, 2), link(5, 1, 0, 1, 0), link(0, 0, 1, 0), link(1, 0, 2, 0), link(1, 1, 3, 0, 7),
		link(2, 0, 4, 0), link(3, 0, 4, 1), link(4, 0, 5, 0), link(5, 0, -1, 0))
}

func sameLink(x, y impl.Link) bool {
	return x.From == y.From && x.Out == y.Out && x.To == y.To && x.In == y.In && slices.Equal(x.Tokens, y.Tokens)
}

func sameNetwork(x, y impl.Network) bool {
	return slices.EqualFunc(x.Programs, y.Programs, sameProgram) && slices.EqualFunc(x.Links, y.Links, sameLink)
}

func cloneNetwork(n impl.Network) impl.Network {
	out := impl.Network{Programs: slices.Clone(n.Programs), Links: slices.Clone(n.Links)}
	for i := range out.Programs {
		out.Programs[i].Code = slices.Clone(out.Programs[i].Code)
	}
	for i := range out.Links {
		out.Links[i].Tokens = slices.Clone(out.Links[i].Tokens)
	}
	return out
}

func wantNetwork(t *testing.T, label string, got impl.Network, ok bool, want impl.Network) {
	t.Helper()
	if !ok || !sameNetwork(got, want) {
		t.Errorf("%s: got %v, %v, want %v", label, got, ok, want)
	}
}

func wantNoNetwork(t *testing.T, label string, got impl.Network, ok bool) {
	t.Helper()
	if ok || len(got.Programs) > 0 || len(got.Links) > 0 {
		t.Errorf("%s: got %v, %v, want no network", label, got, ok)
	}
}

func wantIndex(t *testing.T, label string, got int, ok bool, want int) {
	t.Helper()
	if !ok || got != want {
		t.Errorf("%s: got %d, %v, want %d", label, got, ok, want)
	}
}

func wantNoIndex(t *testing.T, label string, got int, ok bool) {
	t.Helper()
	if ok || got != 0 {
		t.Errorf("%s: got %d, %v, want 0 and false", label, got, ok)
	}
}

// changed is a copy of a network with one change.
func changed(n impl.Network, change func(*impl.Network)) impl.Network {
	out := cloneNetwork(n)
	change(&out)
	return out
}

// fullLinks is the valid network with the most links: ten processes with three of them, and one without.
func fullLinks() impl.Network {
	var n impl.Network
	for k := range 10 {
		n.Programs = append(n.Programs, program(3, 0, in(impl.OpRead, 0, 2)))
		for port := range 3 {
			n.Links = append(n.Links, link(-1, 0, k, port, k, port))
		}
	}
	n.Programs = append(n.Programs, program(0, 0, in(impl.OpHalt)))
	return n
}

// fullProcesses is a valid network with the most processes.
func fullProcesses() impl.Network {
	return impl.Network{Programs: slices.Repeat([]impl.Program{program(0, 0, in(impl.OpHalt))}, 12)}
}

// noNetworks are networks that are not valid, each for one reason.
func noNetworks() []impl.Network {
	out := slices.Concat(brokenLinks(), brokenEnds())
	out = append(out, changed(fullProcesses(), func(n *impl.Network) { n.Programs = append(n.Programs, n.Programs[0]) }))
	out = append(out, changed(fullLinks(), func(n *impl.Network) {
		n.Programs[10] = impl.SampleProgram("sink")
		n.Links = append(n.Links, link(-1, 0, 10, 0))
	}))
	for _, p := range noPrograms() {
		out = append(out, impl.Network{Programs: []impl.Program{p}})
		if p.Ins == 2 && p.Outs == 1 {
			out = append(out, impl.Network{Programs: []impl.Program{p}, Links: []impl.Link{
				link(-1, 0, 0, 0), link(-1, 0, 0, 1), link(0, 0, -1, 0)}})
		}
	}
	for _, bad := range noStreams() {
		for k := range diamond().Links {
			out = append(out, changed(diamond(), func(n *impl.Network) { n.Links[k].Tokens = bad }))
		}
	}
	return out
}

// brokenLinks have links that are too many or too few.
func brokenLinks() []impl.Network {
	out := []impl.Network{
		network([]string{"sink"}), network([]string{"count"}), network([]string{"through"}, link(0, 0, -1, 0)),
		network(nil, link(-1, 0, -1, 0)), network(nil, link(0, 0, 0, 0)), network(nil, link(-1, 0, 0, 0)), network(nil, link(0, 0, -1, 0)),
	}
	for k := range diamond().Links {
		out = append(out,
			changed(diamond(), func(n *impl.Network) { n.Links = slices.Delete(n.Links, k, k+1) }),
			changed(diamond(), func(n *impl.Network) { n.Links = append(n.Links, n.Links[k]) }))
	}
	return append(out,
		changed(diamond(), func(n *impl.Network) { n.Links = append(n.Links, link(-1, 0, -1, 0)) }),
		changed(diamond(), func(n *impl.Network) { n.Links = append(n.Links, link(-1, 0, 0, 0)) }),
		changed(diamond(), func(n *impl.Network) { n.Links = append(n.Links, link(5, 0, -1, 0)) }),
		changed(diamond(), func(n *impl.Network) { n.Programs = n.Programs[:5] }),
		changed(diamond(), func(n *impl.Network) { n.Programs = append(n.Programs, impl.SampleProgram("sink")) }),
		changed(diamond(), func(n *impl.Network) { n.Programs = append(n.Programs, impl.SampleProgram("count")) }),
		changed(diamond(), func(n *impl.Network) { n.Programs[2].Ins++ }),
		changed(diamond(), func(n *impl.Network) { n.Programs[2].Outs++ }))
}

// brokenEnds have one link end that is no port, or not the one that is left.
func brokenEnds() []impl.Network {
	var out []impl.Network
	for k := range diamond().Links {
		for _, put := range []int{-3, -2, -1, 0, 1, 2, 3, 4, 5, 6, 1 << 32, -1 << 63, 1<<63 - 1} {
			for field := range 4 {
				out = append(out, changed(diamond(), func(n *impl.Network) {
					l := &n.Links[k]
					part := []*int{&l.From, &l.Out, &l.To, &l.In}[field]
					if *part == put {
						l.Tokens = []int{1000000}
					}
					*part = put
				}))
			}
		}
	}
	return out
}

// drawnCounts are numbers of ports whose links are at most thirty, whichever of them are linked to each other.
func drawnCounts(random *rand.Rand) (ins, outs []int) {
	left := 30
	for range random.Intn(13) {
		a, b := random.Intn(4), random.Intn(4)
		if random.Intn(3) == 0 {
			a, b = 1, 1
		}
		if a+b > left {
			a, b = 0, 0
		}
		left -= a + b
		ins, outs = append(ins, a), append(outs, b)
	}
	return ins, outs
}

// drawnNetwork has up to as many processes and links as there may be.
func drawnNetwork(random *rand.Rand) impl.Network {
	var programs []impl.Program
	ins, outs := drawnCounts(random)
	for k := range ins {
		programs = append(programs, drawnProgram(random, ins[k], outs[k]))
	}
	return drawnLinks(random, programs)
}

// drawnLinks makes a network of programs, with links in any order, between any ports.
func drawnLinks(random *rand.Rand, programs []impl.Program) impl.Network {
	n := impl.Network{Programs: programs}
	var sources, targets [][2]int
	for k, p := range programs {
		for port := range p.Ins {
			targets = append(targets, [2]int{k, port})
		}
		for port := range p.Outs {
			sources = append(sources, [2]int{k, port})
		}
	}
	random.Shuffle(len(sources), func(i, k int) { sources[i], sources[k] = sources[k], sources[i] })
	random.Shuffle(len(targets), func(i, k int) { targets[i], targets[k] = targets[k], targets[i] })
	inner := 0
	if most := min(len(sources), len(targets)); most > 0 {
		inner = random.Intn(most + 1)
	}
	for i, s := range sources {
		to := [2]int{-1, 0}
		if i < inner {
			to = targets[i]
		}
		n.Links = append(n.Links, link(s[0], s[1], to[0], to[1], drawnStream(random, 4)...))
	}
	for _, to := range targets[inner:] {
		n.Links = append(n.Links, link(-1, 0, to[0], to[1], drawnStream(random, 4)...))
	}
	random.Shuffle(len(n.Links), func(i, k int) { n.Links[i], n.Links[k] = n.Links[k], n.Links[i] })
	return n
}

// drawnNetworks are the same ones in each run.
func drawnNetworks(count int) []impl.Network {
	random := rand.New(rand.NewSource(9))
	out := make([]impl.Network, count)
	for i := range out {
		out[i] = drawnNetwork(random)
	}
	return out
}
