package tests

import (
	"math"
	"runtime"
	"slices"
	"sync"
	"testing"

	"loop.example/g03224/impl"
)

func TestConstantsOfBounds(t *testing.T) {
	wantList(t, "how runs end", []int{impl.BoundQuiet, impl.BoundJammed, impl.BoundBusy}, 1, 2, 3)
}

// noCapacities are lists that are no capacities of the network of middle, each for one reason.
func noCapacities() map[string][]int {
	return map[string][]int{
		"none":               nil,
		"one missing":        {2, 1},
		"one too many":       {2, 1, 1, 0},
		"too few at inputs":  {1, 1, 1},
		"too few":            {2, 0, 1},
		"too few at outputs": {2, 1, 0},
		"below 0":            {-1, 1, 1},
		"inner below 0":      {2, -1, 1},
		"far below 0":        {2, math.MinInt, 1},
		"outputs below 0":    {2, 1, -400},
		"too many at inputs": {401, 1, 1},
		"too many":           {2, 401, 1},
		"too many outputs":   {2, 1, 401},
		"far too many":       {2, math.MaxInt, 1},
	}
}

func TestAreCapacities(t *testing.T) {
	n, _ := middle()
	for _, caps := range [][]int{{2, 1, 1}, {400, 400, 400}, {3, 1, 1}, {2, 2, 1}, {2, 1, 2}, {2, 400, 1}} {
		wantBool(t, "capacities", impl.AreCapacities(n, caps), true)
	}
	for label, caps := range noCapacities() {
		wantBool(t, label, impl.AreCapacities(n, caps), false)
	}
	full := network([]string{"through"}, link(-1, 0, 0, 0, repeated(1, 400)...), link(0, 0, -1, 0))
	wantBool(t, "as many as possible", impl.AreCapacities(full, []int{400, 0}), true)
	wantBool(t, "one too few", impl.AreCapacities(full, []int{399, 0}), false)
	wantBool(t, "nothing", impl.AreCapacities(impl.Network{}, nil), true)
	wantBool(t, "nothing, but empty", impl.AreCapacities(impl.Network{}, []int{}), true)
	wantBool(t, "of no link", impl.AreCapacities(impl.Network{}, []int{0}), false)
	wantBool(t, "many links", impl.AreCapacities(fullLinks(), ramp(3, 30)), true)
}

func TestUniformCapacities(t *testing.T) {
	n, _ := middle()
	cases := []struct {
		c    int
		want []int
	}{
		{0, []int{2, 1, 1}}, {1, []int{2, 1, 1}}, {2, []int{2, 2, 2}}, {3, []int{3, 3, 3}}, {399, repeated(399, 3)}, {400, repeated(400, 3)},
		{-1, nil}, {401, nil}, {math.MinInt, nil}, {math.MaxInt, nil},
	}
	for _, c := range cases {
		got := impl.UniformCapacities(n, c.c)
		wantList(t, "uniform", got, c.want...)
		wantBool(t, "uniform", impl.AreCapacities(n, got), c.want != nil)
	}
	wantList(t, "nothing", impl.UniformCapacities(impl.Network{}, 7))
	wantList(t, "own tokens", impl.UniformCapacities(network([]string{"through"}, link(0, 0, 0, 0, repeated(1, 400)...)), 0), 400)
}

func TestBoundsOfNoNetworks(t *testing.T) {
	for _, bad := range slices.Concat(noNetworks(), []impl.Network{network([]string{"sink"})}) {
		caps := repeated(400, len(bad.Links))
		wantBool(t, "no network", impl.AreCapacities(bad, caps), false)
		wantNoBounds(t, "no network", bad, startByHand(bad), caps)
		for _, c := range []int{-1, 0, 3, 400} {
			wantList(t, "no network", impl.UniformCapacities(bad, c))
			least, ok := impl.LeastUniform(bad, c, 100)
			wantNoIndex(t, "no network", least, ok)
			peaks, quiet := impl.PeaksOf(bad, c)
			wantNothing(t, "no network", peaks, quiet)
		}
	}
}

func TestBoundsOfNoStates(t *testing.T) {
	n, s := middle()
	for label, bad := range noStates() {
		wantNoBounds(t, label, n, bad, repeated(400, 3))
		wantNoBounds(t, label, n, bad, []int{2, 1, 1})
	}
	wantNoBounds(t, "of another network", diamond(), s, repeated(400, 9))
	wantNoBounds(t, "of no processes", impl.Network{}, s, nil)
}

func TestBoundsOfNoCapacities(t *testing.T) {
	n, s := middle()
	jam := jammedState()
	for label, bad := range noCapacities() {
		wantNoBounds(t, label, n, s, bad)
		wantNoBounds(t, label, n, jam, bad)
	}
	wantNoBounds(t, "of another network", diamond(), impl.StartState(diamond()), []int{2, 1, 1})
	wantNoBounds(t, "of no links", fullProcesses(), impl.StartState(fullProcesses()), []int{0})
}

// jammedState is one of the network of middle: the process 0 wants to write to the inner link, and the process 1,
// which is at its last place, does not read from it.
func jammedState() impl.State {
	return impl.State{
		Actors: []impl.Actor{actor(2, 1, 1), actor(4, 9)},
		Queues: [][]int{{2}, {1}, {5, 9}},
		Sent:   [][]int{{1, 2}, {9, 1}, {5, 9}},
		Steps:  6,
	}
}

func TestCanStepBoundedAtAWrite(t *testing.T) {
	n := network([]string{"through", "through"}, link(-1, 0, 0, 0), link(0, 0, 1, 0), link(1, 0, -1, 0))
	cases := []struct {
		sent, read, capacity int
		want                 bool
	}{
		{0, 0, 0, false}, {0, 0, 1, true}, {0, 0, 400, true},
		{1, 0, 1, false}, {1, 0, 2, true}, {2, 1, 1, false}, {2, 1, 2, true}, {2, 2, 0, false}, {2, 2, 1, true},
		// More is waiting than there is room.
		{3, 0, 1, false}, {3, 0, 2, false}, {3, 0, 3, false}, {3, 0, 4, true}, {400, 1, 0, false},
		{399, 0, 399, false}, {399, 0, 400, true}, {399, 398, 2, true}, {399, 398, 1, false},
		// No more can be sent in any case.
		{400, 0, 400, false}, {400, 400, 400, false}, {400, 399, 2, false},
	}
	for _, c := range cases {
		s := impl.State{
			Actors: []impl.Actor{actor(1, 5), actor(0)},
			Queues: [][]int{nil, repeated(7, c.sent-c.read), nil},
			Sent:   [][]int{nil, repeated(7, c.sent), nil},
		}
		caps := []int{0, c.capacity, 0}
		wantBool(t, "a write", impl.CanStepBounded(n, s, caps, 0), c.want)
		// The process at the other end reads, whatever the capacity.
		wantBool(t, "a read", impl.CanStepBounded(n, s, caps, 1), c.sent > c.read)
		wantBool(t, "jammed", impl.IsJammed(n, s, caps), c.sent == c.read && c.sent < 400 && !c.want)
	}
}

func TestCanStepBoundedOutside(t *testing.T) {
	n := network([]string{"through"}, link(-1, 0, 0, 0, 4), link(0, 0, -1, 0))
	for sent, want := range map[int]bool{0: true, 1: true, 7: true, 399: true, 400: false} {
		s := impl.State{Actors: []impl.Actor{actor(1)}, Queues: [][]int{{4}, repeated(7, sent)}, Sent: [][]int{{4}, repeated(7, sent)}}
		for _, capacity := range []int{0, 1, 8, 400} {
			wantBool(t, "an output", impl.CanStepBounded(n, s, []int{1, capacity}, 0), want)
			wantBool(t, "an output", impl.IsJammed(n, s, []int{1, capacity}), false)
		}
	}
	for _, capacity := range []int{1, 2, 400} {
		wantBool(t, "an input", impl.CanStepBounded(n, impl.StartState(n), []int{capacity, 0}, 0), true)
		empty := impl.State{Actors: []impl.Actor{actor(0)}, Queues: [][]int{nil, nil}, Sent: [][]int{{4}, nil}}
		wantBool(t, "an input that is empty", impl.CanStepBounded(n, empty, []int{capacity, 0}, 0), false)
	}
}

func TestCanStepBoundedElsewhere(t *testing.T) {
	// Nothing but a write asks for room, and a link back to the same process is an inner one.
	code := []impl.Instr{in(impl.OpWrite, 0, 0), in(impl.OpSet, 0, 1), in(impl.OpAdd, 0, 1, 1), in(impl.OpJump, 0, 0), in(impl.OpZero, 0, 0),
		in(impl.OpBelow, 0, 0), in(impl.OpRead, 0, 0), in(impl.OpHalt)}
	n := impl.Network{Programs: []impl.Program{program(1, 1, code...)}, Links: []impl.Link{link(0, 0, 0, 0, 3)}}
	for place := range 9 {
		s := impl.StartState(n)
		s.Actors[0].Pc = place
		wantBool(t, "no room", impl.CanStepBounded(n, s, []int{1}, 0), place >= 1 && place <= 6)
		wantBool(t, "no room", impl.IsJammed(n, s, []int{1}), place == 0)
		wantBool(t, "room", impl.CanStepBounded(n, s, []int{2}, 0), place <= 6)
		wantBool(t, "room", impl.IsJammed(n, s, []int{2}), false)
		s.Steps = 20000
		wantBool(t, "after all steps", impl.CanStepBounded(n, s, []int{2}, 0), false)
		wantBool(t, "after all steps", impl.IsJammed(n, s, []int{1}), false)
		s.Steps = 19999
		wantBool(t, "before the last step", impl.IsJammed(n, s, []int{1}), place == 0)
	}
	n, s := middle()
	for _, k := range []int{-1, -2, 2, 3, 12, 1 << 32, math.MinInt, math.MaxInt} {
		wantBool(t, "no process", impl.CanStepBounded(n, s, repeated(400, 3), k), false)
	}
	wantBool(t, "nothing", impl.CanStepBounded(impl.Network{}, impl.State{}, nil, 0), false)
}

func TestIsJammed(t *testing.T) {
	n, s := middle()
	wantBool(t, "it can read", impl.IsJammed(n, s, []int{2, 1, 1}), false)
	wantBool(t, "a jam", impl.IsJammed(n, jammedState(), []int{2, 1, 2}), true)
	wantBool(t, "room for one", impl.IsJammed(n, jammedState(), []int{2, 2, 2}), false)
	for place := range 4 {
		other := changedState(jammedState(), func(s *impl.State) { s.Actors[1].Pc = place })
		wantBool(t, "another goes on", impl.IsJammed(n, other, []int{2, 1, 2}), false)
	}
	fill := fillers(0, 1, 2)
	start := impl.StartState(fill)
	cases := []struct {
		caps []int
		want bool
	}{
		{[]int{0, 0, 0}, true}, {[]int{0, 1, 0}, false}, {[]int{1, 0, 0}, false}, {[]int{0, 0, 1}, false}, {[]int{1, 1, 1}, false},
	}
	for _, c := range cases {
		wantBool(t, "links without room", impl.IsJammed(fill, start, c.caps), c.want)
	}
	halted := impl.Network{Programs: []impl.Program{program(0, 0, in(impl.OpHalt)), fill.Programs[0], impl.SampleProgram("sink")},
		Links: []impl.Link{link(1, 0, 1, 0), link(-1, 0, 2, 0)}}
	wantBool(t, "others halt and wait", impl.IsJammed(halted, impl.StartState(halted), []int{0, 0}), true)
	for label, n := range map[string]impl.Network{
		"nothing": {}, "all halt": fullProcesses(), "all wait": network([]string{"through"}, link(0, 0, 0, 0)),
		"no inner links": network([]string{"through"}, link(0, 0, -1, 0), link(-1, 0, 0, 0, 1)),
	} {
		wantBool(t, label, impl.IsJammed(n, impl.StartState(n), tightCaps(n)), false)
	}
}

// parted has a process that writes twice what the other one passes on.
func parted() impl.Network {
	return network([]string{"twice", "through"}, link(-1, 0, 0, 0, 1, 2), link(0, 0, 1, 0), link(1, 0, -1, 0))
}

func TestRunBounded(t *testing.T) {
	n := parted()
	cases := []struct {
		most   int
		places []int
		queues []int
		why    int
	}{
		{math.MinInt, []int{0, 0}, []int{2, 0, 0}, impl.BoundBusy}, {-1, []int{0, 0}, []int{2, 0, 0}, impl.BoundBusy},
		{0, []int{0, 0}, []int{2, 0, 0}, impl.BoundBusy}, {1, []int{1, 0}, []int{1, 0, 0}, impl.BoundBusy},
		{2, []int{2, 0}, []int{1, 1, 0}, impl.BoundBusy}, {3, []int{2, 1}, []int{1, 0, 0}, impl.BoundBusy},
		{11, []int{2, 2}, []int{0, 1, 2}, impl.BoundBusy},
		// The process 0 is held, and the process 1 has its turn twice.
		{12, []int{2, 0}, []int{0, 1, 2}, impl.BoundBusy}, {13, []int{2, 1}, []int{0, 0, 2}, impl.BoundBusy},
		{14, []int{3, 1}, []int{0, 1, 2}, impl.BoundBusy}, {19, []int{0, 2}, []int{0, 0, 4}, impl.BoundBusy},
		{20, []int{0, 0}, []int{0, 0, 4}, impl.BoundQuiet}, {21, []int{0, 0}, []int{0, 0, 4}, impl.BoundQuiet},
		{math.MaxInt, []int{0, 0}, []int{0, 0, 4}, impl.BoundQuiet},
	}
	for _, c := range cases {
		got, why := impl.RunBounded(n, impl.StartState(n), []int{2, 1, 0}, c.most)
		wantCount(t, "room for one", why, c.why)
		wantCount(t, "room for one", got.Steps, min(max(c.most, 0), 20))
		wantList(t, "room for one", places(got), c.places...)
		wantList(t, "room for one", []int{len(got.Queues[0]), len(got.Queues[1]), len(got.Queues[2])}, c.queues...)
	}
	got, _ := impl.RunBounded(n, impl.StartState(n), []int{2, 1, 0}, 100)
	wantState(t, "room for one", got, impl.State{
		Actors: []impl.Actor{actor(0, 2), actor(0, 2)},
		Queues: [][]int{nil, nil, {1, 1, 2, 2}},
		Sent:   [][]int{{1, 2}, {1, 1, 2, 2}, {1, 1, 2, 2}},
		Steps:  20,
	})
}

func TestBoundedTurnsInOrder(t *testing.T) {
	n := walkers(2, 0, 4, 3)
	for most, want := range [][]int{{0, 0, 0, 0}, {1, 0, 0, 0}, {1, 0, 1, 0}, {1, 0, 1, 1}, {2, 0, 1, 1}, {2, 0, 2, 1},
		{2, 0, 2, 2}, {2, 0, 3, 2}, {2, 0, 3, 3}, {2, 0, 4, 3}, {2, 0, 4, 3}} {
		got, why := impl.RunBounded(n, impl.StartState(n), nil, most)
		wantList(t, "turns", places(got), want...)
		wantBool(t, "turns", why == impl.BoundQuiet, most >= 9)
		parked := runParks(n, impl.StartState(n), nil, most)
		wantBounded(t, "turns", parked, bounded{got, nil, why})
	}
	// Turns begin with the process 0, wherever others have ended.
	got, _ := impl.RunBounded(n, impl.StartState(n), nil, 2)
	got, _ = impl.RunBounded(n, got, nil, 1)
	wantList(t, "turns again", places(got), 2, 0, 1, 0)
}

func TestRunBoundedToAJam(t *testing.T) {
	n := parted()
	jam := bounded{impl.State{
		Actors: []impl.Actor{actor(1, 1), actor(0)},
		Queues: [][]int{{2}, nil, nil},
		Sent:   [][]int{{1, 2}, nil, nil},
		Steps:  1,
	}, []int{2, 0, 0}, impl.BoundJammed}
	for _, most := range []int{1, 2, 100, math.MaxInt} {
		wantBounded(t, "no room", runBounded(n, impl.StartState(n), jam.caps, most), jam)
	}
	wantBounded(t, "just begun", runBounded(n, impl.StartState(n), jam.caps, 0), bounded{impl.StartState(n), jam.caps, impl.BoundBusy})
	for _, most := range []int{math.MinInt, -1, 0, 1, 100, math.MaxInt} {
		wantBounded(t, "jammed before", runBounded(n, jam.s, jam.caps, most), jam)
	}
	end, _ := impl.RunTurns(n, impl.StartState(n), 100)
	for _, most := range []int{math.MinInt, -1, 0, 1, 100, math.MaxInt} {
		// What is quiet is so with any capacities.
		wantBounded(t, "quiet before", runBounded(n, end, jam.caps, most), bounded{end, jam.caps, impl.BoundQuiet})
	}
	wantBounded(t, "nothing", runBounded(impl.Network{}, impl.State{Steps: 5}, nil, 3), bounded{impl.State{Steps: 5}, nil, impl.BoundQuiet})
	// A ring with a token needs room to pass it on.
	ring := network([]string{"through", "through"}, link(0, 0, 1, 0), link(1, 0, 0, 0, 5))
	for _, c := range [][]int{{0, 1, impl.BoundJammed, 1}, {1, 1, impl.BoundQuiet, 400*3 + 399*3 + 1}} {
		got, why := impl.RunBounded(ring, impl.StartState(ring), c[:2], 20000)
		wantCount(t, "a ring", why, c[2])
		wantCount(t, "a ring", got.Steps, c[3])
	}
}

func TestRunBoundedBeyondTheCapacities(t *testing.T) {
	n := network([]string{"through", "through"}, link(-1, 0, 0, 0), link(0, 0, 1, 0), link(1, 0, -1, 0))
	s := impl.State{
		Actors: []impl.Actor{actor(1, 5), actor(0)},
		Queues: [][]int{nil, {7, 8, 9}, nil},
		Sent:   [][]int{nil, {6, 7, 8, 9}, nil},
		Steps:  40,
	}
	// So many steps are made when the process 0 writes, and so many wait before that.
	for capacity, at := range map[int]int{1: 7, 2: 4, 3: 1, 4: 0, 400: 0} {
		caps := []int{0, capacity, 0}
		got, why := impl.RunBounded(n, s, caps, at)
		wantCount(t, "not yet written", why, impl.BoundBusy)
		wantList(t, "not yet written", got.Sent[1], 6, 7, 8, 9)
		got, _ = impl.RunBounded(n, s, caps, at+1)
		wantList(t, "written", got.Sent[1], 6, 7, 8, 9, 5)
		wantList(t, "written", got.Queues[1], append([]int{7, 8, 9}[(at+2)/3:], 5)...)
		got, why = impl.RunBounded(n, s, caps, 100)
		wantCount(t, "all", why, impl.BoundQuiet)
		wantState(t, "all", got, impl.State{
			Actors: []impl.Actor{actor(0, 5), actor(0, 5)}, Queues: [][]int{nil, nil, {7, 8, 9, 5}}, Sent: [][]int{nil, {6, 7, 8, 9, 5}, {7, 8, 9, 5}},
			Steps: 54})
	}
	got, why := impl.RunBounded(n, s, []int{0, 0, 0}, 100)
	wantCount(t, "no room at all", why, impl.BoundJammed)
	wantStreams(t, "no room at all", got.Sent, true, nil, []int{6, 7, 8, 9}, []int{7, 8, 9})
}

func TestRunBoundedToTheLimits(t *testing.T) {
	endless := impl.Network{Programs: slices.Repeat([]impl.Program{program(0, 0, in(impl.OpJump))}, 2)}
	for most, why := range map[int]int{19999: impl.BoundBusy, 20000: impl.BoundQuiet, math.MaxInt: impl.BoundQuiet} {
		got, end := impl.RunBounded(endless, impl.StartState(endless), nil, most)
		wantCount(t, "endless", end, why)
		wantCount(t, "endless", got.Steps, min(most, 20000))
		got, _, end = impl.RunParks(endless, impl.StartState(endless), nil, most)
		wantCount(t, "endless", end, why)
		wantCount(t, "endless", got.Steps, min(most, 20000))
	}
	for capacity := range 401 {
		if capacity%57 > 0 && capacity < 399 {
			continue
		}
		n := fillers(0)
		got, why := impl.RunBounded(n, impl.StartState(n), []int{capacity}, 20000)
		wantCount(t, "filled", len(got.Queues[0]), capacity)
		wantCount(t, "filled", got.Steps, 2*capacity)
		wantBool(t, "filled", why == impl.BoundQuiet, capacity == 400)
	}
	// The last step of all leaves a jam that is none, as no process can step any more.
	n := fillers(0)
	s := impl.StartState(n)
	s.Steps = 19998
	got, why := impl.RunBounded(n, s, []int{1}, 100)
	wantCount(t, "the last step", why, impl.BoundQuiet)
	wantCount(t, "the last step", got.Steps, 20000)
	s.Steps = 19997
	got, why = impl.RunBounded(n, s, []int{1}, 100)
	wantCount(t, "a step before", why, impl.BoundJammed)
	wantCount(t, "a step before", got.Steps, 19999)
}

func TestRaiseCapacity(t *testing.T) {
	n := fillers(0, 1, 2)
	s := impl.StartState(n)
	caps := []int{3, 1, 2}
	for _, want := range []int{1, 1, 2, 0, 1, 2, 0} {
		wantNotRaised(t, "not yet jammed", n, s, caps)
		s, _ = impl.RunBounded(n, s, caps, 1000)
		wantRaised(t, "the least one", n, s, caps, want)
		caps, _, _ = impl.RaiseCapacity(n, s, caps)
	}
	// It is the order of the links that counts, not that of the processes.
	n = fillers(2, 0, 1)
	wantRaised(t, "the first one", n, impl.StartState(n), []int{0, 0, 0}, 0)
	s, _ = impl.RunBounded(n, impl.StartState(n), []int{2, 1, 1}, 1000)
	wantRaised(t, "the first of two", n, s, []int{2, 1, 1}, 1)
	s, _ = impl.RunBounded(n, impl.StartState(n), []int{2, 2, 1}, 1000)
	wantRaised(t, "the last one", n, s, []int{2, 2, 1}, 2)
}

func TestRaiseCapacityOfOthers(t *testing.T) {
	// The link 0 is full, but its process has halted; the link 2 is an output; from the link 3 a process wants to read.
	n := impl.Network{
		Programs: []impl.Program{program(0, 1, in(impl.OpHalt)), program(1, 2, in(impl.OpWrite, 0, 1), in(impl.OpJump)), program(2, 0, in(impl.OpRead, 0, 1))},
		Links:    []impl.Link{link(0, 0, 2, 0, 1, 2), link(1, 1, 1, 0, 1, 2, 3), link(1, 0, -1, 0), link(-1, 0, 2, 1)},
	}
	wantRaised(t, "others", n, impl.StartState(n), []int{2, 3, 0, 0}, 1)
	// Over the link 0 all was sent that can be sent, so its process could not step without capacities.
	n = fillers(0, 1)
	s := impl.State{
		Actors: slices.Repeat([]impl.Actor{actor(0)}, 2),
		Queues: [][]int{{7, 7}, {7, 7, 7}},
		Sent:   [][]int{repeated(7, 400), {7, 7, 7}},
	}
	wantRaised(t, "all was sent", n, s, []int{2, 3}, 1)
	s.Sent[0] = repeated(7, 399)
	wantRaised(t, "not yet all was sent", n, s, []int{2, 3}, 0)
}

func TestRaiseCapacityAgain(t *testing.T) {
	n := fillers(0)
	s := impl.State{Actors: []impl.Actor{actor(0)}, Queues: [][]int{{1, 2, 3}}, Sent: [][]int{{1, 2, 3}}}
	for capacity := range 4 {
		wantRaised(t, "more than there is room", n, s, []int{capacity}, 0)
	}
	wantNotRaised(t, "room", n, s, []int{4})
	most := impl.State{Actors: []impl.Actor{actor(0)}, Queues: [][]int{repeated(1, 399)}, Sent: [][]int{repeated(1, 399)}}
	wantRaised(t, "the last time", n, most, []int{399}, 0)
	wantNotRaised(t, "all room", n, most, []int{400})
	full := impl.State{Actors: []impl.Actor{actor(0)}, Queues: [][]int{repeated(1, 400)}, Sent: [][]int{repeated(1, 400)}}
	for _, capacity := range []int{0, 399, 400} {
		wantNotRaised(t, "full", n, full, []int{capacity})
	}
	wantNotRaised(t, "nothing", impl.Network{}, impl.State{}, nil)
	end, _ := impl.RunTurns(parted(), impl.StartState(parted()), 100)
	wantNotRaised(t, "quiet", parted(), end, []int{2, 0, 0})
	s.Steps = 20000
	wantNotRaised(t, "after all steps", n, s, []int{2})
}

func TestRunParks(t *testing.T) {
	n := parted()
	want, _ := impl.RunTurns(n, impl.StartState(n), 100)
	for _, most := range []int{20, 21, 1000, math.MaxInt} {
		wantBounded(t, "room as needed", runParks(n, impl.StartState(n), []int{2, 0, 0}, most), bounded{want, []int{2, 1, 0}, impl.BoundQuiet})
		// Room that is there is kept, and not used if it is not needed.
		wantBounded(t, "more room", runParks(n, impl.StartState(n), []int{3, 2, 1}, most), bounded{want, []int{3, 2, 1}, impl.BoundQuiet})
		wantBounded(t, "quiet", runParks(n, want, []int{2, 0, 0}, most), bounded{want, []int{2, 0, 0}, impl.BoundQuiet})
	}
	for tokens := range 60 {
		n := needing(tokens)
		got := runParks(n, impl.StartState(n), []int{0, 0}, 20000)
		wantList(t, "as much as is needed", got.caps, 1, tokens)
		wantCount(t, "as much as is needed", got.why, impl.BoundQuiet)
		wantCount(t, "as much as is needed", got.s.Steps, 6*tokens+5)
	}
	n = fillers(0, 1)
	got := runParks(n, impl.StartState(n), []int{5, 0}, math.MaxInt)
	wantList(t, "all there is", got.caps, 400, 400)
	wantCount(t, "all there is", got.why, impl.BoundQuiet)
	wantCount(t, "all there is", got.s.Steps, 1600)
	wantBounded(t, "nothing", runParks(impl.Network{}, impl.State{Steps: 5}, nil, 3), bounded{impl.State{Steps: 5}, nil, impl.BoundQuiet})
}

func TestRunParksStops(t *testing.T) {
	n := parted()
	start := impl.StartState(n)
	for _, most := range []int{math.MinInt, -1, 0} {
		wantBounded(t, "no steps", runParks(n, start, []int{2, 0, 0}, most), bounded{start, []int{2, 0, 0}, impl.BoundBusy})
	}
	// After the last step the state is jammed, and the capacity is raised; then no step is left.
	jam, _ := impl.RunBounded(n, start, []int{2, 0, 0}, 1)
	wantBounded(t, "one step", runParks(n, start, []int{2, 0, 0}, 1), bounded{jam, []int{2, 1, 0}, impl.BoundBusy})
	for _, most := range []int{math.MinInt, -1, 0} {
		wantBounded(t, "jammed before", runParks(n, jam, []int{2, 0, 0}, most), bounded{jam, []int{2, 1, 0}, impl.BoundBusy})
	}
	for most := range 20 {
		got := runParks(n, start, []int{2, 0, 0}, most)
		wantCount(t, "steps together", got.s.Steps, most)
		wantCount(t, "steps together", got.why, impl.BoundBusy)
	}
	// Steps that were made before do not count, and the greatest number is not too great.
	for _, most := range []int{19, 20, math.MaxInt} {
		got := runParks(n, jam, []int{2, 0, 0}, most)
		wantCount(t, "later", got.s.Steps, 20)
		wantCount(t, "later", got.why, impl.BoundQuiet)
	}
	// As long as more tokens wait than there is room for, it is raised without a step.
	s := impl.State{Actors: []impl.Actor{actor(0)}, Queues: [][]int{{1, 2, 3}}, Sent: [][]int{{1, 2, 3}}}
	wantBounded(t, "room for all", runParks(fillers(0), s, []int{0}, 0), bounded{s, []int{4}, impl.BoundBusy})
	late := changedState(s, func(s *impl.State) { s.Steps = 19999 })
	got := runParks(fillers(0), late, []int{0}, 100)
	wantList(t, "the last step", got.caps, 4)
	wantCount(t, "the last step", got.s.Steps, 20000)
	wantCount(t, "the last step", got.why, impl.BoundQuiet)
}

func TestLeastUniform(t *testing.T) {
	for _, tokens := range []int{2, 7, 31, 49, 50} {
		steps := 6*tokens + 5
		for _, limit := range []int{tokens, tokens + 1, 50} {
			if limit > 50 {
				continue
			}
			for _, most := range []int{steps, steps + 1, math.MaxInt} {
				got, ok := impl.LeastUniform(needing(tokens), limit, most)
				wantIndex(t, "as much as is needed", got, ok, tokens)
			}
		}
		for _, limit := range []int{tokens - 1, 1, 0, -1, 51, 400, math.MinInt, math.MaxInt} {
			got, ok := impl.LeastUniform(needing(tokens), limit, 20000)
			wantNoIndex(t, "too low a limit, or none", got, ok)
		}
		for _, most := range []int{steps - 1, 0, -1, math.MinInt} {
			got, ok := impl.LeastUniform(needing(tokens), 50, most)
			wantNoIndex(t, "too few steps", got, ok)
		}
	}
	got, ok := impl.LeastUniform(needing(51), 50, 20000)
	wantNoIndex(t, "too much is needed", got, ok)
	got, ok = impl.LeastUniform(needing(0), 50, 20000)
	wantIndex(t, "one for the last token", got, ok, 1)
}

func TestLeastUniformWithoutRoom(t *testing.T) {
	for _, limit := range []int{0, 1, 50} {
		got, ok := impl.LeastUniform(impl.Network{}, limit, -1)
		wantIndex(t, "nothing", got, ok, 0)
		got, ok = impl.LeastUniform(single(impl.SampleProgram("twice"), ramp(0, 100)), limit, 20000)
		wantIndex(t, "no inner links", got, ok, 0)
		// All its tokens have room, and no more are needed.
		got, ok = impl.LeastUniform(network([]string{"through", "through"}, link(0, 0, 1, 0, 7), link(1, 0, 0, 0)), limit, 20000)
		wantBool(t, "a ring", ok && got == 1, limit > 0)
		endless := impl.Network{Programs: []impl.Program{program(0, 0, in(impl.OpJump))}}
		got, ok = impl.LeastUniform(endless, limit, 20000)
		wantIndex(t, "endless", got, ok, 0)
		got, ok = impl.LeastUniform(endless, limit, 19999)
		wantNoIndex(t, "endless", got, ok)
	}
	for _, limit := range []int{-1, 51, math.MinInt, math.MaxInt} {
		got, ok := impl.LeastUniform(impl.Network{}, limit, 20000)
		wantNoIndex(t, "no limit", got, ok)
	}
	// Where tokens lie already, there is room for them.
	held := network([]string{"count", "sink"}, link(0, 0, 1, 0, 1, 2, 3))
	got, ok := impl.LeastUniform(held, 0, 20000)
	wantIndex(t, "room for tokens", got, ok, 0)
}

func TestPeaksOf(t *testing.T) {
	cases := []struct {
		most  int
		want  []int
		quiet bool
	}{
		{math.MinInt, []int{2, 0, 0}, false}, {-1, []int{2, 0, 0}, false}, {0, []int{2, 0, 0}, false}, {1, []int{2, 0, 0}, false},
		{2, []int{2, 1, 0}, false}, {5, []int{2, 1, 1}, false}, {11, []int{2, 1, 2}, false}, {12, []int{2, 2, 2}, false},
		{19, []int{2, 2, 4}, false}, {20, []int{2, 2, 4}, true}, {math.MaxInt, []int{2, 2, 4}, true},
	}
	for _, c := range cases {
		got, quiet := impl.PeaksOf(parted(), c.most)
		wantList(t, "peaks", got, c.want...)
		wantBool(t, "peaks", quiet, c.quiet)
	}
	got, quiet := impl.PeaksOf(needing(30), 20000)
	wantListOk(t, "in the middle", got, quiet, 1, 30)
	got, quiet = impl.PeaksOf(network([]string{"sink"}, link(-1, 0, 0, 0, ramp(0, 100)...)), 20000)
	wantListOk(t, "at first", got, quiet, 100)
	got, quiet = impl.PeaksOf(fillers(1, 0), 20000)
	wantListOk(t, "in the end", got, quiet, 400, 400)
	got, quiet = impl.PeaksOf(impl.Network{}, -1)
	wantListOk(t, "nothing", got, quiet)
	got, quiet = impl.PeaksOf(network([]string{"through"}, link(0, 0, 0, 0, 1, 2)), 20)
	wantList(t, "a ring", got, 2)
	wantBool(t, "a ring", quiet, false)
	endless := impl.Network{Programs: []impl.Program{program(1, 0, in(impl.OpJump))}, Links: []impl.Link{link(-1, 0, 0, 0, 4)}}
	for _, most := range []int{19999, 20000} {
		got, quiet = impl.PeaksOf(endless, most)
		wantList(t, "endless", got, 1)
		wantBool(t, "endless", quiet, most == 20000)
	}
}

func TestMemoryOfBounds(t *testing.T) {
	for _, n := range []impl.Network{parted(), adding(1, 2, 3), diamond(), countdown(20), fillers(1, 0), needing(5)} {
		n = roomy(n)
		for _, most := range []int{0, 1, 30, 20000} {
			caps := guard(tightCaps(n))
			s, _ := impl.RunBounded(n, impl.StartState(n), caps.list, most)
			s = roomyState(s)
			network, before := spread(n), spreadState(s)
			calls := map[string]func(){
				"UniformCapacities": func() { scribble(impl.UniformCapacities(n, 3)) },
				"RunBounded":        func() { s, _ := impl.RunBounded(n, s, caps.list, 40); checkOwnState(t, "RunBounded", s) },
				"no steps":          func() { s, _ := impl.RunBounded(n, s, caps.list, 0); checkOwnState(t, "no steps", s) },
				"RaiseCapacity":     func() { raised, _, _ := impl.RaiseCapacity(n, s, caps.list); scribble(raised) },
				"RunParks": func() {
					s, raised, _ := impl.RunParks(n, s, caps.list, 40)
					checkOwnState(t, "RunParks", s)
					scribble(raised)
				},
				"no parks": func() {
					s, raised, _ := impl.RunParks(n, s, caps.list, -1)
					scribble(raised)
					checkOwnState(t, "no parks", s)
				},
				"PeaksOf": func() { peaks, _ := impl.PeaksOf(n, 40); scribble(peaks) },
				"others": func() {
					impl.AreCapacities(n, caps.list)
					impl.CanStepBounded(n, s, caps.list, 0)
					impl.IsJammed(n, s, caps.list)
					impl.LeastUniform(n, 2, 40)
				},
			}
			for label, call := range calls {
				call()
				if !sameNetwork(spread(n), network) || !sameState(spreadState(s), before) || caps.changed() {
					t.Fatalf("%s: an argument is changed, or shares memory with the result", label)
				}
			}
		}
	}
}

func TestBoundsOfSharedLists(t *testing.T) {
	// The same memory as tokens, as queues, as what was sent, as registers, and as capacities.
	shared := []int{1, 2, 3, 4}
	n := network([]string{"through", "through"}, link(-1, 0, 0, 0), link(0, 0, 1, 0, 1, 2), link(1, 0, 0, 0), link(1, 0, -1, 0))
	n.Programs[1] = impl.SampleProgram("copy")
	n.Programs[0] = program(2, 1, in(impl.OpRead, 0, 0), in(impl.OpWrite, 0, 0), in(impl.OpJump))
	n.Links[2].In, n.Links[3].Out = 1, 1
	s := impl.State{Actors: []impl.Actor{{Regs: shared}, {Regs: shared}}, Queues: make([][]int, 4), Sent: make([][]int, 4)}
	n.Links[0].Tokens, n.Links[1].Tokens = shared[:1], shared[:2]
	s.Queues[0], s.Sent[0], s.Queues[1], s.Sent[1] = shared[:1], shared[:1], shared[:2], shared[:2]
	got := runParks(n, s, shared, 1000)
	wantStreams(t, "shared", got.s.Sent, got.why == impl.BoundQuiet, []int{1}, []int{1, 2, 1}, []int{1, 2, 1}, []int{1, 2, 1})
	wantList(t, "shared", got.caps, 1, 2, 3, 4)
	checkOwnState(t, "shared", got.s)
	scribble(got.caps)
	wantList(t, "shared", shared, 1, 2, 3, 4)
}

func TestNoGoroutineIsLeftByBounds(t *testing.T) {
	before := runtime.NumGoroutine()
	for _, n := range []impl.Network{parted(), adding(1, 2, 3), diamond(), fullProcesses(), {}, fillers(0, 1)} {
		s, caps := impl.StartState(n), tightCaps(n)
		for range 20 {
			impl.CanStepBounded(n, s, caps, 0)
			impl.IsJammed(n, s, caps)
			impl.RunBounded(n, s, caps, 10)
			impl.RaiseCapacity(n, s, caps)
			impl.RunParks(n, s, caps, 10)
			impl.LeastUniform(n, 2, 10)
			impl.PeaksOf(n, 10)
		}
	}
	if !goroutinesAtMost(before) {
		t.Errorf("%d goroutines before, and %d behind", before, runtime.NumGoroutine())
	}
}

func TestBoundsAtTheSameTime(t *testing.T) {
	n := diamond()
	start, caps := impl.StartState(n), tightCaps(n)
	want := runParks(n, start, caps, 300)
	peaks, quiet := impl.PeaksOf(n, 300)
	var callers sync.WaitGroup
	for range 20 {
		callers.Go(func() {
			wantBounded(t, "at the same time", runParks(n, start, caps, 300), want)
			got, ok := impl.PeaksOf(n, 300)
			wantList(t, "at the same time", got, peaks...)
			wantBool(t, "at the same time", ok, quiet)
		})
	}
	callers.Wait()
}
