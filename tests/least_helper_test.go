package tests

import (
	"math/rand"
	"slices"
	"testing"

	"loop.example/g03224/impl"
)

func wantStreams(t *testing.T, label string, got [][]int, ok bool, want ...[]int) {
	t.Helper()
	if !ok || !sameLists(got, want) {
		t.Errorf("%s: got %v, %v, want %v", label, got, ok, want)
	}
}

func wantNoStreams(t *testing.T, label string, got [][]int, ok bool) {
	t.Helper()
	if ok || len(got) > 0 {
		t.Errorf("%s: got %v, %v, want nothing and false", label, got, ok)
	}
}

func wantLeast(t *testing.T, label string, n impl.Network, rounds int, want ...[]int) {
	t.Helper()
	got, count, ok := impl.LeastStreams(n)
	wantStreams(t, label, got, ok, want...)
	if count != rounds {
		t.Errorf("%s: got %d rounds, want %d", label, count, rounds)
	}
}

// wantNoLeast looks at all the functions that fail together with LeastStreams.
func wantNoLeast(t *testing.T, label string, n impl.Network) {
	t.Helper()
	got, rounds, ok := impl.LeastStreams(n)
	wantNoStreams(t, label, got, ok)
	if rounds != 0 {
		t.Errorf("%s: got %d rounds", label, rounds)
	}
	got, ok = impl.ObserveNetwork(n)
	wantNoStreams(t, label, got, ok)
	waits, ok := impl.WaitsOf(n)
	wantNothing(t, label, waits, ok)
}

func wantWaits(t *testing.T, label string, n impl.Network, want ...int) {
	t.Helper()
	got, ok := impl.WaitsOf(n)
	wantListOk(t, label, got, ok, want...)
}

// tokensOf are the histories with which rounds begin.
func tokensOf(n impl.Network) [][]int {
	out := make([][]int, len(n.Links))
	for k, l := range n.Links {
		out[k] = slices.Clone(l.Tokens)
	}
	return out
}

// single is a network of one program: its inputs have these streams, and then come its outputs.
func single(p impl.Program, inputs ...[]int) impl.Network {
	n := impl.Network{Programs: []impl.Program{p}}
	for port := range p.Ins {
		n.Links = append(n.Links, link(-1, 0, 0, port, inputs[port]...))
	}
	for port := range p.Outs {
		n.Links = append(n.Links, link(0, port, -1, 0))
	}
	return n
}

// spender halts after so many instructions.
func spender(instructions int) impl.Program {
	// A turn takes three instructions; what lies before and behind it takes three more.
	code := []impl.Instr{in(impl.OpSet, 0, instructions/3-1), in(impl.OpSet, 1, 1)}
	for range instructions % 3 {
		code = append(code, in(impl.OpSet, 2, 0))
	}
	turn := len(code)
	return program(0, 0, append(code, in(impl.OpZero, 0, turn+3), in(impl.OpSub, 0, 0, 1), in(impl.OpJump, 0, turn))...)
}

// writer writes so many tokens 7, and halts.
func writer(tokens int) impl.Program {
	return program(0, 1, in(impl.OpSet, 0, tokens), in(impl.OpSet, 1, 1), in(impl.OpSet, 2, 7),
		in(impl.OpZero, 0, 7), in(impl.OpWrite, 2, 0), in(impl.OpSub, 0, 0, 1), in(impl.OpJump, 0, 3))
}

// countdown writes to itself, token by token, the numbers below the first one, down to 0. Each round makes one of them.
func countdown(first int) impl.Network {
	p := program(1, 1, in(impl.OpSet, 1, 1), in(impl.OpRead, 0, 0), in(impl.OpZero, 0, 6),
		in(impl.OpSub, 0, 0, 1), in(impl.OpWrite, 0, 0), in(impl.OpJump, 0, 1))
	return impl.Network{Programs: []impl.Program{p}, Links: []impl.Link{link(0, 0, 0, 0, first)}}
}

func countedDown(first int) []int {
	out := ramp(0, first+1)
	slices.Reverse(out)
	return out
}

// adding has the sums of its input behind the process that adds the last sum to each token: add and copy, in a ring.
func adding(tokens ...int) impl.Network {
	return network([]string{"add", "copy"},
		link(1, 1, -1, 0), link(-1, 0, 0, 0, tokens...), link(1, 0, 0, 1, 0), link(0, 0, 1, 0))
}

// roundByHand is the chapter's definition, by means of functions of the chapters before.
func roundByHand(n impl.Network, h [][]int) ([][]int, bool) {
	made := tokensOf(n)
	for k, p := range n.Programs {
		inputs := make([][]int, p.Ins)
		for port := range inputs {
			i, _ := impl.LinkTo(n, k, port)
			inputs[port] = h[i]
		}
		outputs, _, why, ok := impl.RunProcess(p, inputs, 3000)
		if !ok || why == impl.WantStep || why == impl.WantWrite {
			return nil, false
		}
		for port, s := range outputs {
			i, _ := impl.LinkFrom(n, k, port)
			made[i] = append(made[i], s...)
		}
	}
	return made, !slices.ContainsFunc(made, func(s []int) bool { return len(s) > 400 })
}

// leastByHand does not give up after many rounds.
func leastByHand(n impl.Network) ([][]int, int, bool) {
	h := tokensOf(n)
	for rounds := 1; ; rounds++ {
		made, ok := roundByHand(n, h)
		if !ok {
			return nil, 0, false
		}
		if sameLists(made, h) {
			return made, rounds, true
		}
		h = made
	}
}

// player executes a network one instruction at a time: no process is run again from its beginning.
type player struct {
	n      impl.Network
	actors []impl.Actor
	steps  []int
	waits  []int
	queues [][]int
	sent   [][]int
	failed bool
}

// step lets the process k execute an instruction, and reports whether it could.
func (p *player) step(k int) bool {
	code := p.n.Programs[k]
	want, port := impl.WantOf(code, p.actors[k])
	p.waits[k] = -1
	token, source, target := 0, -1, -1
	switch want {
	case impl.WantHalt:
		return false
	case impl.WantRead:
		source, _ = impl.LinkTo(p.n, k, port)
		if len(p.queues[source]) == 0 {
			p.waits[k] = source
			return false
		}
		token, p.queues[source] = p.queues[source][0], p.queues[source][1:]
	case impl.WantWrite:
		target, _ = impl.LinkFrom(p.n, k, port)
		p.failed = p.failed || len(p.sent[target]) == 400
	}
	p.failed = p.failed || p.steps[k] == 3000
	p.steps[k]++
	next, written, _ := impl.StepActor(code, p.actors[k], token)
	p.actors[k] = next
	if target >= 0 {
		p.queues[target] = append(p.queues[target], written)
		p.sent[target] = append(p.sent[target], written)
	}
	return true
}

// play lets processes step in a drawn order, until none can, or one goes beyond what a round allows it.
func play(random *rand.Rand, n impl.Network) *player {
	p := &player{n: n, steps: make([]int, len(n.Programs)), waits: make([]int, len(n.Programs))}
	p.queues, p.sent = tokensOf(n), tokensOf(n)
	for _, code := range n.Programs {
		p.actors = append(p.actors, impl.NewActor(code))
	}
	for moves := true; moves; {
		moves = false
		for _, k := range random.Perm(len(n.Programs)) {
			for range 1 + random.Intn(20) {
				if p.failed {
					return p
				}
				if !p.step(k) {
					break
				}
				moves = true
			}
		}
	}
	return p
}

// drawnReader is a sample, or a program that begins with a read, so that it waits sooner or later.
func drawnReader(random *rand.Rand) impl.Program {
	if random.Intn(3) > 0 {
		p := impl.SampleProgram(sampleNames[random.Intn(len(sampleNames))])
		if p.Ins > 0 {
			return p
		}
	}
	p := drawnProgram(random, 1+random.Intn(3), random.Intn(4))
	p.Code[0] = in(impl.OpRead, random.Intn(4), random.Intn(p.Ins))
	return p
}

// smallNetworks have few processes, most of which wait for their inputs; they are the same ones in each run.
func smallNetworks(count int) []impl.Network {
	random := rand.New(rand.NewSource(14))
	out := make([]impl.Network, count)
	for i := range out {
		programs := make([]impl.Program, random.Intn(6))
		for k := range programs {
			programs[k] = drawnReader(random)
			if random.Intn(20) == 0 {
				programs[k] = drawnProgram(random, random.Intn(4), random.Intn(4))
			}
		}
		out[i] = drawnLinks(random, programs)
		if i%2 == 0 {
			lengthen(random, out[i])
		}
	}
	return out
}

// lengthen puts more tokens on the inputs, so that those that go round in a cycle take many rounds.
func lengthen(random *rand.Rand, n impl.Network) {
	for k, l := range n.Links {
		if l.From == -1 {
			n.Links[k].Tokens = append(l.Tokens, drawnStream(random, 30)...)
		} else if len(l.Tokens) == 0 {
			n.Links[k].Tokens = []int{drawnToken(random)}
		}
	}
}

// settlingNetworks are those of the small ones that have least streams.
func settlingNetworks(count int) []impl.Network {
	return slices.DeleteFunc(smallNetworks(count), func(n impl.Network) bool {
		_, _, ok := impl.LeastStreams(n)
		return !ok
	})
}
