package tests

import (
	"math/rand"
	"slices"
	"testing"

	"loop.example/g03224/impl"
)

func TestCapacitiesByHand(t *testing.T) {
	random := rand.New(rand.NewSource(31))
	can, held, jams, raised := 0, 0, 0, 0
	for _, c := range boundedRuns(random) {
		caps := c.caps
		wantBool(t, "capacities", impl.AreCapacities(c.n, caps), true)
		hand := boundsByHand(c.n, c.s, caps)
		for k := -1; k <= len(c.n.Programs); k++ {
			wantBool(t, "can step", impl.CanStepBounded(c.n, c.s, caps, k), hand.canWithin(k))
			if hand.canWithin(k) {
				can++
			} else if hand.can(k) {
				held++
			}
		}
		wantBool(t, "jammed", impl.IsJammed(c.n, c.s, caps), hand.jammed())
		if hand.jammed() {
			jams++
		}
		if i := hand.toRaise(); i >= 0 {
			raised++
			wantRaised(t, "raised", c.n, c.s, caps, i)
		} else {
			wantNotRaised(t, "not raised", c.n, c.s, caps)
		}
	}
	if can < 1000 || held < 150 || jams < 80 || raised < 80 {
		t.Errorf("%d processes can step, %d are held; %d states are jammed, and %d capacities were raised", can, held, jams, raised)
	}
}

func TestBoundedRunsByHand(t *testing.T) {
	random := rand.New(rand.NewSource(32))
	ways := map[int]int{}
	raised := 0
	for _, c := range boundedRuns(random) {
		caps := c.caps
		most := []int{random.Intn(50) - 5, random.Intn(1000), 20000}[random.Intn(3)]
		hand := boundsByHand(c.n, c.s, caps)
		why := hand.run(most)
		ways[why]++
		got := runBounded(c.n, c.s, caps, most)
		wantBounded(t, "a bounded run", got, bounded{hand.s, caps, why})
		wantBool(t, "a state", impl.IsState(c.n, got.s), true)

		hand = boundsByHand(c.n, c.s, caps)
		why = hand.parks(most)
		got = runParks(c.n, c.s, caps, most)
		wantBounded(t, "room as needed", got, bounded{hand.s, hand.caps, why})
		wantBool(t, "a state", impl.IsState(c.n, got.s) && impl.AreCapacities(c.n, got.caps), true)
		if !slices.Equal(hand.caps, caps) {
			raised++
		}
	}
	if ways[impl.BoundQuiet] < 200 || ways[impl.BoundJammed] < 200 || ways[impl.BoundBusy] < 100 || raised < 200 {
		t.Errorf("runs ended so: %v; %d needed more room", ways, raised)
	}
}

func TestPeaksByHand(t *testing.T) {
	random := rand.New(rand.NewSource(33))
	ended, stopped, passing := 0, 0, 0
	for _, n := range slices.Concat(scantNetworks(200), smallNetworks(200), drawnNetworks(150)) {
		most := []int{random.Intn(50) - 5, random.Intn(1000), 20000}[random.Intn(3)]
		hand := boundsByHand(n, impl.StartState(n), nil)
		want := hand.peaks(most)
		got, quiet := impl.PeaksOf(n, most)
		wantList(t, "peaks", got, want...)
		wantBool(t, "peaks", quiet, hand.quiet())
		if quiet {
			ended++
		} else {
			stopped++
		}
		for i, queue := range hand.s.Queues {
			if want[i] > max(len(queue), len(n.Links[i].Tokens)) {
				passing++
			}
		}
	}
	if ended < 100 || stopped < 100 || passing < 100 {
		t.Errorf("%d runs ended quiet, %d did not, and %d peaks were on the way", ended, stopped, passing)
	}
}

func TestLeastUniformByHand(t *testing.T) {
	random := rand.New(rand.NewSource(34))
	found, some, none := 0, 0, 0
	for _, n := range slices.Concat(scantNetworks(800), drawnNetworks(50)) {
		limit, most := random.Intn(8), []int{random.Intn(500), 20000}[random.Intn(2)]
		want := -1
		for c := 0; c <= limit && want < 0; c++ {
			hand := boundsByHand(n, impl.StartState(n), impl.UniformCapacities(n, c))
			if hand.run(most) == impl.BoundQuiet {
				want = c
			}
		}
		got, ok := impl.LeastUniform(n, limit, most)
		if want < 0 {
			none++
			wantNoIndex(t, "not enough", got, ok)
			continue
		}
		found++
		wantIndex(t, "enough", got, ok, want)
		if want > 0 {
			some++
		}
	}
	if found < 300 || some < 50 || none < 100 {
		t.Errorf("%d networks have a least room, %d of them more than none; %d have none", found, some, none)
	}
}

// boundCase is a small network with least streams, which becomes quiet in time, its state in the end, and capacities.
type boundCase struct {
	n    impl.Network
	end  impl.State
	caps []int
}

func boundCases(random *rand.Rand, count int) []boundCase {
	var out []boundCase
	networks := slices.DeleteFunc(scantNetworks(count), func(n impl.Network) bool {
		_, _, ok := impl.LeastStreams(n)
		return !ok
	})
	for _, n := range networks {
		end, _ := impl.RunTurns(n, impl.StartState(n), 20000)
		if end.Steps < 20000 {
			out = append(out, boundCase{n, end, tightCaps(n)}, boundCase{n, end, drawnCaps(random, n)})
		}
	}
	return out
}

// P6: capacities change nothing but how far a network comes.
func TestCapacitiesChangeNothingElse(t *testing.T) {
	random := rand.New(rand.NewSource(35))
	jams, quiets := 0, 0
	for _, c := range boundCases(random, 600) {
		start := impl.StartState(c.n)
		least, _, _ := impl.LeastStreams(c.n)
		got := runBounded(c.n, start, c.caps, 20000)
		wantBool(t, "below", impl.AreBelow(c.n, got.s.Sent, least) && impl.IsState(c.n, got.s), true)
		wantBool(t, "jammed", impl.IsJammed(c.n, got.s, c.caps), got.why == impl.BoundJammed)
		wantBool(t, "quiet", impl.IsQuiet(c.n, got.s), got.why == impl.BoundQuiet)
		if got.why == impl.BoundJammed {
			jams++
		} else {
			quiets++
			wantState(t, "quiet", got.s, c.end)
		}
		// Where it jams makes no difference to what comes later without capacities.
		end, _ := impl.RunTurns(c.n, got.s, 20000)
		wantState(t, "later", end, c.end)
		// In any order, as far as there is room, it comes as far.
		wantState(t, "another order", scheduledWithin(random, c.n, start, c.caps), got.s)
		// With more room, it comes as far at least.
		more := slices.Clone(c.caps)
		for i := range more {
			more[i] = min(400, more[i]+random.Intn(3))
		}
		further, _ := impl.RunBounded(c.n, start, more, 20000)
		wantBool(t, "more room", impl.AreBelow(c.n, got.s.Sent, further.Sent), true)
		wantBool(t, "cut off", onTheWay(c, random.Intn(got.s.Steps+1), got.s), true)
	}
	if jams < 200 || quiets < 200 {
		t.Errorf("%d runs were jammed, and %d ended quiet", jams, quiets)
	}
}

// onTheWay reports whether a run that is cut off is on the way to its end, and has kept to the capacities.
func onTheWay(c boundCase, most int, end impl.State) bool {
	got, _ := impl.RunBounded(c.n, impl.StartState(c.n), c.caps, most)
	for i, l := range c.n.Links {
		if l.From >= 0 && l.To >= 0 && len(got.Queues[i]) > c.caps[i] {
			return false
		}
	}
	return got.Steps == most && impl.AreBelow(c.n, got.Sent, end.Sent)
}

// P6: with capacities that are raised when it is jammed, it comes to the least streams.
func TestRaisedCapacitiesAreEnough(t *testing.T) {
	random := rand.New(rand.NewSource(36))
	raised, most := 0, 0
	for _, c := range boundCases(random, 600) {
		least, _, _ := impl.LeastStreams(c.n)
		start := impl.StartState(c.n)
		onTheWay, _ := impl.RunSchedule(c.n, start, drawnSchedule(random, len(c.n.Programs), 60))
		for _, s := range []impl.State{start, onTheWay} {
			got := runParks(c.n, s, c.caps, 20000)
			wantCount(t, "enough", got.why, impl.BoundQuiet)
			wantStreams(t, "enough", got.s.Sent, impl.IsQuiet(c.n, got.s), least...)
			wantState(t, "enough", got.s, c.end)
			for i, l := range c.n.Links {
				inner := l.From >= 0 && l.To >= 0
				wantBool(t, "raised", got.caps[i] == c.caps[i] || inner && got.caps[i] > c.caps[i] && got.caps[i] <= 400, true)
				if got.caps[i] > c.caps[i] {
					raised++
					most = max(most, got.caps[i]-c.caps[i])
				}
			}
			// The capacities that it came to are enough from the beginning.
			again := runBounded(c.n, s, got.caps, 20000)
			wantBounded(t, "again", again, bounded{c.end, got.caps, impl.BoundQuiet})
		}
	}
	if raised < 500 || most < 20 {
		t.Errorf("%d capacities were raised, by at most %d", raised, most)
	}
}

// P6 with least streams for which there are not enough steps.
func TestRaisedCapacitiesWithTooFewSteps(t *testing.T) {
	n := impl.Network{Programs: slices.Repeat([]impl.Program{spender(3000)}, 6)}
	slow := program(1, 1, append(spender(2990).Code, in(impl.OpRead, 0, 0), in(impl.OpWrite, 0, 0))...)
	n.Programs = append(n.Programs, slow, slow)
	n.Links = []impl.Link{link(-1, 0, 6, 0, 4), link(6, 0, 7, 0), link(7, 0, -1, 0)}
	least, _, ok := impl.LeastStreams(n)
	wantStreams(t, "least streams", least, ok, []int{4}, []int{4}, []int{4})
	got := runParks(n, impl.StartState(n), []int{1, 0, 0}, 20000)
	wantCount(t, "too few steps", got.why, impl.BoundQuiet)
	wantCount(t, "too few steps", got.s.Steps, 20000)
	wantBool(t, "too few steps", impl.AreBelow(n, got.s.Sent, least), true)
	wantList(t, "not jammed in time", got.caps, 1, 0, 0)
}

// With as much room as a run without capacities ever takes, it is the same run.
func TestPeaksAreEnoughRoom(t *testing.T) {
	random := rand.New(rand.NewSource(37))
	for _, n := range slices.Concat(scantNetworks(300), drawnNetworks(100)) {
		start := impl.StartState(n)
		most := []int{random.Intn(200), 20000}[random.Intn(2)]
		want, quiet := impl.RunTurns(n, start, most)
		peaks, ok := impl.PeaksOf(n, most)
		wantBool(t, "peaks", ok == quiet && impl.AreCapacities(n, peaks), true)
		for _, caps := range [][]int{peaks, impl.UniformCapacities(n, 400)} {
			got, why := impl.RunBounded(n, start, caps, most)
			wantState(t, "enough room", got, want)
			wantBool(t, "enough room", why == impl.BoundQuiet, quiet)
		}
	}
}

// More waits at first than the capacities allow, and that does not make a difference later.
func TestStatesBeyondTheCapacities(t *testing.T) {
	random := rand.New(rand.NewSource(38))
	beyond := 0
	for _, c := range boundCases(random, 300) {
		s, _ := impl.RunEager(c.n, impl.StartState(c.n), random.Intn(c.end.Steps+1))
		for i, l := range c.n.Links {
			if l.From >= 0 && l.To >= 0 && len(s.Queues[i]) > c.caps[i] {
				beyond++
			}
		}
		got := runBounded(c.n, s, c.caps, 20000)
		wantState(t, "another order", scheduledWithin(random, c.n, s, c.caps), got.s)
		for i, l := range c.n.Links {
			if l.From >= 0 && l.To >= 0 && len(got.s.Sent[i]) > len(s.Sent[i]) {
				wantBool(t, "kept to", len(got.s.Queues[i]) <= c.caps[i], true)
			}
		}
		wantState(t, "room as needed", runParks(c.n, s, c.caps, 20000).s, c.end)
	}
	if beyond < 50 {
		t.Errorf("only %d queues were longer than their capacity", beyond)
	}
}
