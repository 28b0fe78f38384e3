package tests

import (
	"math/rand"
	"slices"
	"testing"

	"loop.example/g03224/impl"
)

// ports is a program that has them, and does nothing.
func ports(ins, outs int) impl.Program {
	return program(ins, outs, in(impl.OpHalt))
}

// host is a network of one process, whose links are its inputs and outputs, in the order of its ports.
func host(ins, outs int) impl.Network {
	return single(ports(ins, outs), make([][]int, ins)...)
}

// crossed has a process between two others, with links to both and from both, to itself, from outside and to outside.
func crossed() impl.Network {
	return impl.Network{
		Programs: []impl.Program{impl.SampleProgram("through"), ports(3, 3), impl.SampleProgram("copy")},
		Links: []impl.Link{
			link(1, 1, 1, 1, 1), link(2, 0, 1, 2, 2), link(-1, 0, 1, 0, 3), link(1, 0, 0, 0, 4),
			link(0, 0, 2, 0, 5), link(1, 2, -1, 0, 6), link(2, 1, -1, 0, 7),
		},
	}
}

// turned is a template for a process with three ports on each side. One of its processes has several
// inputs and outputs, whose links stand in another order than its ports, and there are tokens on its inner links.
func turned() impl.Network {
	return impl.Network{
		Programs: []impl.Program{impl.SampleProgram("steps"), ports(3, 3)},
		Links: []impl.Link{
			link(1, 2, -1, 0), link(-1, 0, 1, 1), link(1, 1, 0, 0, 8, 9), link(-1, 0, 1, 0),
			link(0, 0, -1, 0), link(1, 0, -1, 0), link(-1, 0, 1, 2),
		},
	}
}

// crossedAndTurned is what crossed is when its process 1 has grown into turned.
func crossedAndTurned() impl.Network {
	return impl.Network{
		Programs: []impl.Program{impl.SampleProgram("through"), impl.SampleProgram("copy"), impl.SampleProgram("steps"), ports(3, 3)},
		Links: []impl.Link{
			link(2, 0, 3, 0, 1), link(1, 0, 3, 2, 2), link(-1, 0, 3, 1, 3), link(3, 2, 0, 0, 4),
			link(0, 0, 1, 0, 5), link(3, 0, -1, 0, 6), link(1, 1, -1, 0, 7), link(3, 1, 2, 0, 8, 9),
		},
	}
}

// wantNoGrowth looks at all the functions that fail if a network or a template is not what it should be.
func wantNoGrowth(t *testing.T, label string, n impl.Network, k int, m impl.Network) {
	t.Helper()
	wantBool(t, label+": IsTemplate", impl.IsTemplate(n, k, m), false)
	got, ok := impl.ExpandNetwork(n, k, m)
	wantNoNetwork(t, label+": ExpandNetwork", got, ok)
	wantNoGrownState(t, label+": ExpandState", n, startByHand(n), k, m)
}

func wantNoGrownState(t *testing.T, label string, n impl.Network, s impl.State, k int, m impl.Network) {
	t.Helper()
	got, ok := impl.ExpandState(n, s, k, m)
	wantState(t, label, got, impl.State{})
	wantBool(t, label, ok, false)
}

func wantGrownState(t *testing.T, label string, n impl.Network, s impl.State, k int, m impl.Network, want impl.State) {
	t.Helper()
	got, ok := impl.ExpandState(n, s, k, m)
	wantState(t, label, got, want)
	wantBool(t, label, ok, true)
}

// portName names a port of a process of a network that grows, or of its template, without telling an index that changes.
type portName struct {
	template bool
	process  int
	port     int
}

// expandedByHand gives every process a name, and looks for its index at the end.
func expandedByHand(n impl.Network, k int, m impl.Network) (impl.Network, bool) {
	var out impl.Network
	index := map[portName]int{{process: -1}: -1, {template: true, process: -1}: -1}
	for i, p := range n.Programs {
		if i != k {
			index[portName{process: i}] = len(out.Programs)
			out.Programs = append(out.Programs, p)
		}
	}
	for i, p := range m.Programs {
		index[portName{template: true, process: i}] = len(out.Programs)
		out.Programs = append(out.Programs, p)
	}
	add := func(from, to portName, tokens []int) {
		out.Links = append(out.Links, link(index[portName{from.template, from.process, 0}], from.port,
			index[portName{to.template, to.process, 0}], to.port, tokens...))
	}
	var sources, targets []portName
	for _, l := range m.Links {
		if l.From == -1 {
			targets = append(targets, portName{true, l.To, l.In})
		}
		if l.To == -1 {
			sources = append(sources, portName{true, l.From, l.Out})
		}
	}
	for _, l := range n.Links {
		from, to := portName{false, l.From, l.Out}, portName{false, l.To, l.In}
		if l.From == k {
			from = sources[l.Out]
		}
		if l.To == k {
			to = targets[l.In]
		}
		add(from, to, l.Tokens)
	}
	for _, l := range m.Links {
		if l.From != -1 && l.To != -1 {
			add(portName{true, l.From, l.Out}, portName{true, l.To, l.In}, l.Tokens)
		}
	}
	return out, len(out.Programs) <= 12 && len(out.Links) <= 30
}

// isTemplateByHand takes networks that are valid.
func isTemplateByHand(n impl.Network, k int, m impl.Network) bool {
	if k < 0 || k >= len(n.Programs) {
		return false
	}
	inputs, outputs := 0, 0
	for _, l := range m.Links {
		if (l.From == -1 || l.To == -1) && len(l.Tokens) > 0 {
			return false
		}
		if l.From == -1 {
			inputs++
		}
		if l.To == -1 {
			outputs++
		}
	}
	return inputs == n.Programs[k].Ins && outputs == n.Programs[k].Outs
}

// expandedStateByHand tells the state of the network that has grown.
func expandedStateByHand(s impl.State, k int, m impl.Network) impl.State {
	out := cloneState(s)
	out.Actors = slices.Delete(out.Actors, k, k+1)
	out.Actors = append(out.Actors, startByHand(m).Actors...)
	for _, l := range m.Links {
		if l.From != -1 && l.To != -1 {
			out.Queues, out.Sent = append(out.Queues, slices.Clone(l.Tokens)), append(out.Sent, slices.Clone(l.Tokens))
		}
	}
	return out
}

func splicedByHand(n impl.Network, k int) impl.Network {
	out := cloneNetwork(n)
	last := len(n.Programs)
	out.Programs = append(out.Programs, program(1, 1, in(impl.OpRead, 0, 0), in(impl.OpWrite, 0, 0), in(impl.OpJump, 0, 0)))
	out.Links = append(out.Links, link(last, 0, n.Links[k].To, n.Links[k].In))
	out.Links[k].To, out.Links[k].In = last, 0
	return out
}

// droppedByHand also tells which links are left.
func droppedByHand(n impl.Network, k int) (impl.Network, []int) {
	out, left := cloneNetwork(n), []int(nil)
	out.Programs = slices.Delete(out.Programs, k, k+1)
	out.Links = nil
	away := func(process int) bool { return process == k || process == -1 }
	for i, l := range n.Links {
		if away(l.From) && away(l.To) {
			continue
		}
		if l.From == k {
			l.From, l.Out = -1, 0
		}
		if l.To == k {
			l.To, l.In = -1, 0
		}
		if l.From > k {
			l.From--
		}
		if l.To > k {
			l.To--
		}
		out.Links, left = append(out.Links, l), append(left, i)
	}
	return out, left
}

// drawnTemplate has as many inputs and outputs as told, if there may be such a one.
func drawnTemplate(random *rand.Rand, ins, outs int) impl.Network {
	for range 1000 {
		var programs []impl.Program
		for range random.Intn(5) {
			programs = append(programs, drawnProgram(random, random.Intn(4), random.Intn(4)))
		}
		m := drawnLinks(random, programs)
		if isTemplateByHand(host(ins, outs), 0, withoutTokensOutside(m)) {
			return withoutTokensOutside(m)
		}
	}
	return host(ins, outs)
}

func withoutTokensOutside(m impl.Network) impl.Network {
	out := cloneNetwork(m)
	for i, l := range m.Links {
		if l.From == -1 || l.To == -1 {
			out.Links[i].Tokens = nil
		}
	}
	return out
}

// likeThrough are networks of one input and one output that pass their tokens on.
func likeThrough() []impl.Network {
	return []impl.Network{
		network([]string{"through"}, link(-1, 0, 0, 0), link(0, 0, -1, 0)),
		network([]string{"through", "through"}, link(1, 0, 0, 0), link(0, 0, -1, 0), link(-1, 0, 1, 0)),
		network([]string{"sums", "steps"}, link(-1, 0, 0, 0), link(0, 0, 1, 0), link(1, 0, -1, 0)),
		network([]string{"sums", "steps"}, link(0, 0, -1, 0), link(1, 0, 0, 0), link(-1, 0, 1, 0)),
		network([]string{"copy", "sink"}, link(0, 0, 1, 0), link(-1, 0, 0, 0), link(0, 1, -1, 0)),
		network([]string{"split", "alternate"}, link(-1, 0, 0, 0), link(0, 1, 1, 1), link(0, 0, 1, 0), link(1, 0, -1, 0)),
	}
}

// likeProgram is a template whose processes do together what a process with the program does.
func likeProgram(random *rand.Rand, p impl.Program) impl.Network {
	m := impl.Network{Programs: []impl.Program{p}}
	for port := range p.Ins {
		from := lengthened(random, &m, [2]int{-1, 0})
		m.Links = append(m.Links, link(from[0], from[1], 0, port))
	}
	for port := range p.Outs {
		from := lengthened(random, &m, [2]int{0, port})
		m.Links = append(m.Links, link(from[0], from[1], -1, 0))
	}
	shuffleInner(random, m)
	out, ok := impl.PermuteNetwork(m, random.Perm(len(m.Programs)))
	if !ok {
		// There are too many processes.
		return likeProgram(random, p)
	}
	return out
}

// lengthened puts a network like through behind an end now and then, and returns the end from which to go on.
func lengthened(random *rand.Rand, m *impl.Network, from [2]int) [2]int {
	if random.Intn(2) == 0 {
		return from
	}
	part := likeThrough()[random.Intn(len(likeThrough()))]
	first, last := len(m.Programs), from
	for _, l := range part.Links {
		source, target := [2]int{first + l.From, l.Out}, [2]int{first + l.To, l.In}
		if l.To == -1 {
			last = source
			continue
		}
		if l.From == -1 {
			source = from
		}
		m.Links = append(m.Links, link(source[0], source[1], target[0], target[1]))
	}
	m.Programs = append(m.Programs, part.Programs...)
	return last
}

// shuffleInner leaves inputs and outputs in their orders, which tell their ports.
func shuffleInner(random *rand.Rand, m impl.Network) {
	var inputs, outputs []impl.Link
	for _, l := range m.Links {
		if l.From == -1 {
			inputs = append(inputs, l)
		} else if l.To == -1 {
			outputs = append(outputs, l)
		}
	}
	random.Shuffle(len(m.Links), func(i, k int) { m.Links[i], m.Links[k] = m.Links[k], m.Links[i] })
	for i, l := range m.Links {
		if l.From == -1 {
			m.Links[i], inputs = inputs[0], inputs[1:]
		} else if l.To == -1 {
			m.Links[i], outputs = outputs[0], outputs[1:]
		}
	}
}
