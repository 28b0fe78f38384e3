package tests

import (
	"math/rand"
	"slices"
	"testing"

	"loop.example/g03224/impl"
)

// runCase is a network and a state of it.
type runCase struct {
	n impl.Network
	s impl.State
}

// runCases have states at first, on the way, and such as need not be on any way.
func runCases(random *rand.Rand) []runCase {
	var out []runCase
	for _, n := range slices.Concat(smallNetworks(500), drawnNetworks(200)) {
		start := impl.StartState(n)
		onTheWay, _ := impl.RunSchedule(n, start, drawnSchedule(random, len(n.Programs), 300))
		out = append(out, runCase{n, start}, runCase{n, onTheWay}, runCase{n, drawnState(random, n)})
	}
	return out
}

func TestStatesByHand(t *testing.T) {
	random := rand.New(rand.NewSource(22))
	can, cannot, quiet := 0, 0, 0
	for _, c := range runCases(random) {
		hand := byHand{c.n, cloneState(c.s)}
		wantBool(t, "a state", impl.IsState(c.n, c.s), true)
		wantBool(t, "quiet", impl.IsQuiet(c.n, c.s), hand.quiet())
		wantList(t, "blocked", impl.BlockedOn(c.n, c.s), hand.blocked()...)
		if hand.quiet() {
			quiet++
		}
		for k := -1; k <= len(c.n.Programs); k++ {
			hand := byHand{c.n, cloneState(c.s)}
			wantBool(t, "can step", impl.CanStep(c.n, c.s, k), hand.can(k))
			got, ok := impl.StepNetwork(c.n, c.s, k)
			wantBool(t, "a step", ok, hand.can(k))
			if !hand.can(k) {
				cannot++
				wantState(t, "no step", got, impl.State{})
				continue
			}
			can++
			hand.step(k)
			wantState(t, "a step", got, hand.s)
		}
	}
	if can < 2000 || cannot < 2000 || quiet < 100 {
		t.Errorf("%d steps could be made, %d could not, and %d states are quiet", can, cannot, quiet)
	}
}

func TestRunsByHand(t *testing.T) {
	random := rand.New(rand.NewSource(23))
	ended, stopped := 0, 0
	for _, c := range runCases(random) {
		most := []int{random.Intn(50) - 5, random.Intn(1000), 20000}[random.Intn(3)]
		hand := byHand{c.n, cloneState(c.s)}
		hand.turns(most)
		got, quiet := impl.RunTurns(c.n, c.s, most)
		wantState(t, "turns", got, hand.s)
		wantBool(t, "turns", quiet, hand.quiet())
		if quiet {
			ended++
		} else {
			stopped++
		}
		hand = byHand{c.n, cloneState(c.s)}
		hand.eager(most)
		got, quiet = impl.RunEager(c.n, c.s, most)
		wantState(t, "eager", got, hand.s)
		wantBool(t, "eager", quiet, hand.quiet())

		schedule := drawnSchedule(random, len(c.n.Programs), random.Intn(300))
		hand = byHand{c.n, cloneState(c.s)}
		want := hand.schedule(schedule)
		got, made := impl.RunSchedule(c.n, c.s, schedule)
		wantState(t, "a schedule", got, hand.s)
		wantCount(t, "a schedule", made, want)
		wantBool(t, "a schedule", impl.IsState(c.n, got), true)
	}
	if ended < 300 || stopped < 300 {
		t.Errorf("%d runs ended quiet, and %d did not", ended, stopped)
	}
}

func TestDemandsByHand(t *testing.T) {
	random := rand.New(rand.NewSource(24))
	met, failed, steps := 0, 0, 0
	for _, c := range runCases(random) {
		for link := range c.n.Links {
			count := len(c.s.Sent[link]) + []int{-1, 0, 1, 2, random.Intn(20), 400}[random.Intn(6)]
			most := []int{random.Intn(40) - 2, random.Intn(500), 20000}[random.Intn(3)]
			hand := byHand{c.n, cloneState(c.s)}
			want := hand.demand(link, count, most)
			got, ok := impl.RunDemand(c.n, c.s, link, count, most)
			wantState(t, "a demand", got, hand.s)
			wantBool(t, "a demand", ok, want)
			wantBool(t, "a demand", impl.IsState(c.n, got), true)
			steps += got.Steps - c.s.Steps
			if ok {
				met++
			} else {
				failed++
			}
		}
	}
	if met < 2000 || failed < 2000 || steps < 50000 {
		t.Errorf("%d demands were met, and %d failed, with %d steps", met, failed, steps)
	}
}

func TestRunsAreSchedules(t *testing.T) {
	random := rand.New(rand.NewSource(25))
	for _, c := range runCases(random) {
		// A step is a schedule of one element, and a schedule that is cut in two is the same one.
		schedule := drawnSchedule(random, len(c.n.Programs), 60)
		cut := random.Intn(61)
		whole, made := impl.RunSchedule(c.n, c.s, schedule)
		first, before := impl.RunSchedule(c.n, c.s, schedule[:cut])
		second, behind := impl.RunSchedule(c.n, first, schedule[cut:])
		wantState(t, "cut", second, whole)
		wantCount(t, "cut", before+behind, made)
		stepwise := c.s
		for _, k := range schedule {
			if impl.CanStep(c.n, stepwise, k) {
				stepwise, _ = impl.StepNetwork(c.n, stepwise, k)
			}
		}
		wantState(t, "step by step", stepwise, whole)
		// So is an eager run, and a demand.
		most := random.Intn(60)
		whole, _ = impl.RunEager(c.n, c.s, 60)
		first, _ = impl.RunEager(c.n, c.s, most)
		second, _ = impl.RunEager(c.n, first, 60-most)
		wantState(t, "eager, cut", second, whole)
		if len(c.n.Links) > 0 {
			link := random.Intn(len(c.n.Links))
			whole, met := impl.RunDemand(c.n, c.s, link, 30, 60)
			first, _ = impl.RunDemand(c.n, c.s, link, 30, most)
			second, ok := impl.RunDemand(c.n, first, link, 30, 60-most)
			wantState(t, "a demand, cut", second, whole)
			wantBool(t, "a demand, cut", ok, met)
		}
	}
}

// P5: what was sent is a prefix of the least streams under every schedule, and in the end it is these.
func TestEverySchedule(t *testing.T) {
	random := rand.New(rand.NewSource(26))
	ended, most := 0, 0
	for _, n := range settlingNetworks(1000) {
		least, _, _ := impl.LeastStreams(n)
		below := func(s impl.State) {
			if !impl.AreBelow(n, s.Sent, least) || !impl.IsState(n, s) {
				t.Fatalf("%v: %v is sent, and the least streams are %v", n, s.Sent, least)
			}
		}
		start := impl.StartState(n)
		below(start)
		waits, _ := impl.WaitsOf(n)
		want, quiet := impl.RunTurns(n, start, 20000)
		wantBool(t, "quiet", quiet, true)
		if want.Steps == 20000 {
			continue
		}
		ended++
		most = max(most, want.Steps)
		ways := ends(n, start)
		for _, label := range []string{"a schedule", "another schedule"} {
			ways[label] = scheduledToQuiet(random, n, start, below)
		}
		for label, got := range ways {
			wantState(t, label, got, want)
			wantStreams(t, label, got.Sent, impl.IsQuiet(n, got), least...)
			wantList(t, label, impl.BlockedOn(n, got), waits...)
		}
		// A run that is cut off is on the way.
		got, _ := impl.RunTurns(n, start, random.Intn(want.Steps+1))
		below(got)
		got, _ = impl.RunEager(n, start, random.Intn(want.Steps+1))
		below(got)
	}
	if ended < 400 || most < 500 {
		t.Errorf("%d networks became quiet, after at most %d steps", ended, most)
	}
}

// Without least streams, too, all schedules that end in time end in the same state.
func TestEveryScheduleEndsTheSame(t *testing.T) {
	random := rand.New(rand.NewSource(27))
	ended := 0
	for _, c := range runCases(random) {
		want, quiet := impl.RunTurns(c.n, c.s, 20000)
		wantBool(t, "quiet", quiet, true)
		if want.Steps == 20000 {
			continue
		}
		if _, _, ok := impl.LeastStreams(c.n); !ok {
			ended++
		}
		for label, got := range ends(c.n, c.s) {
			wantState(t, label, got, want)
		}
		wantState(t, "a schedule", scheduledToQuiet(random, c.n, c.s, func(impl.State) {}), want)
	}
	if ended < 50 {
		t.Errorf("only %d networks without least streams became quiet", ended)
	}
}

// P5 with least streams that take more steps than there are.
func TestLeastStreamsThatAreNotReached(t *testing.T) {
	n := impl.Network{Programs: slices.Repeat([]impl.Program{spender(3000)}, 10)}
	slow := program(1, 1, append(spender(2990).Code, in(impl.OpRead, 0, 0), in(impl.OpWrite, 0, 0))...)
	n.Programs = append(n.Programs, slow, slow)
	n.Links = []impl.Link{link(-1, 0, 11, 0, 4), link(11, 0, 10, 0), link(10, 0, -1, 0)}
	least, _, ok := impl.LeastStreams(n)
	wantStreams(t, "least streams", least, ok, []int{4}, []int{4}, []int{4})
	random := rand.New(rand.NewSource(28))
	below := func(s impl.State) { wantBool(t, "below", impl.AreBelow(n, s.Sent, least), true) }
	ways := ends(n, impl.StartState(n))
	ways["a schedule"] = scheduledToQuiet(random, n, impl.StartState(n), below)
	for label, got := range ways {
		below(got)
		wantCount(t, label, got.Steps, 20000)
		wantBool(t, label, impl.IsQuiet(n, got), true)
	}
	// One that serves the last ones first has sent all, another one has not.
	wantStreams(t, "the last one first", ways["the last one first"].Sent, true, least...)
	wantStreams(t, "eager", ways["eager"].Sent, true, []int{4}, nil, nil)
	// A demand runs just the processes that it needs.
	got, met := impl.RunDemand(n, impl.StartState(n), 2, 1, 20000)
	wantStreams(t, "a demand", got.Sent, met, least...)
	wantCount(t, "a demand", got.Steps, 2*2992)
}

// P5: a demand is met if and only if as many tokens are sent in the end.
func TestDemandsAreMet(t *testing.T) {
	random := rand.New(rand.NewSource(29))
	met, failed, lazy := 0, 0, 0
	for _, n := range settlingNetworks(600) {
		start := impl.StartState(n)
		want, _ := impl.RunTurns(n, start, 20000)
		if want.Steps == 20000 {
			continue
		}
		onTheWay, _ := impl.RunSchedule(n, start, drawnSchedule(random, len(n.Programs), 30))
		for link := range n.Links {
			all := len(want.Sent[link])
			for _, count := range []int{0, random.Intn(all + 1), all, all + 1, 401} {
				s := []impl.State{start, onTheWay}[random.Intn(2)]
				got, ok := impl.RunDemand(n, s, link, count, 20000)
				if ok != (count <= all) {
					t.Errorf("%v: %d tokens over the link %d, which are %d in the end: got %v", n, count, link, all, ok)
				}
				if ok {
					met++
					// Not one token more is sent than was demanded.
					wantCount(t, "tokens", len(got.Sent[link]), max(count, len(s.Sent[link])))
				} else {
					failed++
					wantCount(t, "all tokens", len(got.Sent[link]), all)
				}
				if ok && got.Steps < want.Steps {
					lazy++
				}
				wantBool(t, "below", areBelow(got.Sent, want.Sent) && impl.IsState(n, got), true)
				end, _ := impl.RunTurns(n, got, 20000)
				wantState(t, "behind a demand", end, want)
			}
		}
	}
	if met < 2000 || failed < 2000 || lazy < 1000 {
		t.Errorf("%d demands were met, %d of them early, and %d failed", met, lazy, failed)
	}
}

func TestRunsOfRenumberedNetworks(t *testing.T) {
	random := rand.New(rand.NewSource(30))
	for _, c := range runCases(random) {
		order := random.Perm(len(c.n.Programs))
		n, _ := impl.PermuteNetwork(c.n, order)
		s := changedState(c.s, func(s *impl.State) {
			for k, process := range order {
				s.Actors[k] = c.s.Actors[process]
			}
		})
		wantBool(t, "renumbered", impl.IsState(n, s), true)
		// The same processes take turns, under other indices.
		schedule := drawnSchedule(random, len(order), 100)
		named := slices.Clone(schedule)
		for i, k := range schedule {
			if k >= 0 && k < len(order) {
				named[i] = order[k]
			}
		}
		got, made := impl.RunSchedule(n, s, schedule)
		want, count := impl.RunSchedule(c.n, c.s, named)
		wantCount(t, "renumbered", made, count)
		wantStreams(t, "renumbered", got.Sent, true, want.Sent...)
		wantStreams(t, "renumbered", got.Queues, true, want.Queues...)
		for k, process := range order {
			wantBool(t, "renumbered", sameActor(got.Actors[k], want.Actors[process]), true)
		}
	}
}
