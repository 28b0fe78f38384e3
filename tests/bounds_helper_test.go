package tests

import (
	"math"
	"math/rand"
	"slices"
	"testing"

	"loop.example/g03224/impl"
)

// bounded is all that RunParks returns, and RunBounded but for the capacities.
type bounded struct {
	s    impl.State
	caps []int
	why  int
}

func runBounded(n impl.Network, s impl.State, caps []int, most int) bounded {
	end, why := impl.RunBounded(n, s, caps, most)
	return bounded{end, caps, why}
}

func runParks(n impl.Network, s impl.State, caps []int, most int) bounded {
	end, raised, why := impl.RunParks(n, s, caps, most)
	return bounded{end, raised, why}
}

func wantBounded(t *testing.T, label string, got, want bounded) {
	t.Helper()
	if !sameState(got.s, want.s) || !slices.Equal(got.caps, want.caps) || got.why != want.why {
		t.Errorf("%s: got %v, want %v", label, got, want)
	}
}

func wantRaised(t *testing.T, label string, n impl.Network, s impl.State, caps []int, want int) {
	t.Helper()
	raised := slices.Clone(caps)
	raised[want]++
	got, k, ok := impl.RaiseCapacity(n, s, caps)
	if !ok || k != want || !slices.Equal(got, raised) {
		t.Errorf("%s: got %v, %d, %v, want %v, %d", label, got, k, ok, raised, want)
	}
}

func wantNotRaised(t *testing.T, label string, n impl.Network, s impl.State, caps []int) {
	t.Helper()
	got, k, ok := impl.RaiseCapacity(n, s, caps)
	wantNothing(t, label, got, ok)
	wantCount(t, label, k, 0)
}

// wantNoBounds looks at all the functions of a state and capacities that return the zero value if one of them is not valid.
func wantNoBounds(t *testing.T, label string, n impl.Network, s impl.State, caps []int) {
	t.Helper()
	for _, k := range []int{-1, 0, 1} {
		wantBool(t, label+": CanStepBounded", impl.CanStepBounded(n, s, caps, k), false)
	}
	wantBool(t, label+": IsJammed", impl.IsJammed(n, s, caps), false)
	wantNotRaised(t, label+": RaiseCapacity", n, s, caps)
	for _, most := range []int{-1, 0, 5, math.MaxInt} {
		got, why := impl.RunBounded(n, s, caps, most)
		wantBounded(t, label+": RunBounded", bounded{s: got, why: why}, bounded{})
		wantBounded(t, label+": RunParks", runParks(n, s, caps, most), bounded{})
	}
}

// boundedByHand follows the words of the chapter, step by step.
type boundedByHand struct {
	byHand
	caps []int
}

func boundsByHand(n impl.Network, s impl.State, caps []int) *boundedByHand {
	return &boundedByHand{byHand{n, cloneState(s)}, slices.Clone(caps)}
}

// held tells the inner link to which the process k wants to write and that has no room, or -1.
func (h *boundedByHand) held(k int) int {
	want, i := h.next(k)
	if want != impl.WantWrite || h.n.Links[i].From == -1 || h.n.Links[i].To == -1 || len(h.s.Queues[i]) < h.caps[i] {
		return -1
	}
	return i
}

func (h *boundedByHand) canWithin(k int) bool {
	return h.can(k) && h.held(k) < 0
}

func (h *boundedByHand) stopped() bool {
	return !slices.ContainsFunc(ramp(0, len(h.n.Programs)), h.canWithin)
}

func (h *boundedByHand) jammed() bool {
	return h.stopped() && !h.quiet()
}

func (h *boundedByHand) run(most int) int {
	for made := 0; made < most && !h.stopped(); {
		for k := range h.n.Programs {
			if made < most && h.canWithin(k) {
				h.step(k)
				made++
			}
		}
	}
	switch {
	case h.quiet():
		return impl.BoundQuiet
	case h.stopped():
		return impl.BoundJammed
	}
	return impl.BoundBusy
}

// toRaise is the link whose capacity is to be raised, or -1.
func (h *boundedByHand) toRaise() int {
	if !h.jammed() {
		return -1
	}
	best := -1
	for i := range h.n.Links {
		wanted := false
		for k := range h.n.Programs {
			wanted = wanted || h.can(k) && h.held(k) == i
		}
		if wanted && (best < 0 || h.caps[i] < h.caps[best]) {
			best = i
		}
	}
	if h.caps[best] == 400 {
		return -1
	}
	return best
}

func (h *boundedByHand) parks(most int) int {
	for first := h.s.Steps; ; {
		why := h.run(most - (h.s.Steps - first))
		i := h.toRaise()
		if i < 0 {
			return why
		}
		h.caps[i]++
	}
}

func (h *boundedByHand) peaks(most int) []int {
	peaks := make([]int, len(h.n.Links))
	look := func() {
		for i, queue := range h.s.Queues {
			peaks[i] = max(peaks[i], len(queue))
		}
	}
	look()
	for made := 0; made < most && !h.quiet(); {
		for k := range h.n.Programs {
			if made < most && h.can(k) {
				h.step(k)
				made++
				look()
			}
		}
	}
	return peaks
}

// drawnCaps are mostly tight.
func drawnCaps(random *rand.Rand, n impl.Network) []int {
	var caps []int
	for _, l := range n.Links {
		more := []int{0, 0, 1, 2, random.Intn(6), random.Intn(401)}[random.Intn(6)]
		caps = append(caps, min(len(l.Tokens)+more, 400))
	}
	return caps
}

// tightCaps leave no more room than the tokens at first need.
func tightCaps(n impl.Network) []int {
	return impl.UniformCapacities(n, 0)
}

// scantNetworks are small networks with at most one token on each inner link, so that capacities can be tight,
// and with many on the inputs.
func scantNetworks(count int) []impl.Network {
	random := rand.New(rand.NewSource(39))
	networks := smallNetworks(count)
	for _, n := range networks {
		for i, l := range n.Links {
			if l.From == -1 {
				n.Links[i].Tokens = drawnStream(random, 30)
			} else if l.To >= 0 && len(l.Tokens) > 0 {
				n.Links[i].Tokens = l.Tokens[:random.Intn(2)]
			}
		}
	}
	return networks
}

// boundedRun is a run with capacities that is to be made.
type boundedRun struct {
	runCase
	caps []int
}

// boundedRuns begin at first, in jams, and in states that need not be on any way.
func boundedRuns(random *rand.Rand) []boundedRun {
	var out []boundedRun
	for _, n := range slices.Concat(scantNetworks(300), drawnNetworks(80)) {
		start, caps := impl.StartState(n), drawnCaps(random, n)
		tight := boundsByHand(n, start, tightCaps(n))
		tight.run(20000)
		out = append(out, boundedRun{runCase{n, start}, caps}, boundedRun{runCase{n, tight.s}, tight.caps},
			boundedRun{runCase{n, drawnState(random, n)}, caps})
	}
	return out
}

// scheduledWithin runs a network with capacities in a drawn order until no process can step.
func scheduledWithin(random *rand.Rand, n impl.Network, s impl.State, caps []int) impl.State {
	h := boundsByHand(n, s, caps)
	for !h.stopped() {
		k := random.Intn(len(n.Programs))
		for range 1 + random.Intn(30) {
			if !h.canWithin(k) {
				break
			}
			h.step(k)
		}
	}
	return h.s
}

// fillers have a process for each link, which leads back to it and is never read; the link comes to it in the order that is told.
func fillers(order ...int) impl.Network {
	n := impl.Network{Programs: slices.Repeat([]impl.Program{program(1, 1, in(impl.OpWrite, 0, 0), in(impl.OpJump))}, len(order))}
	for _, k := range order {
		n.Links = append(n.Links, link(k, 0, k, 0))
	}
	return n
}

// needing is a network that needs room for so many tokens on its link 1, and for one on its link 0, if there are any.
func needing(tokens int) impl.Network {
	writes := program(0, 2, in(impl.OpSet, 0, tokens), in(impl.OpSet, 1, 1), in(impl.OpZero, 0, 6), in(impl.OpWrite, 2, 0),
		in(impl.OpSub, 0, 0, 1), in(impl.OpJump, 0, 2), in(impl.OpWrite, 2, 1), in(impl.OpHalt))
	reads := program(2, 0, in(impl.OpRead, 0, 1), in(impl.OpRead, 0, 0), in(impl.OpJump, 0, 1))
	return impl.Network{Programs: []impl.Program{writes, reads}, Links: []impl.Link{link(0, 1, 1, 1), link(0, 0, 1, 0)}}
}
