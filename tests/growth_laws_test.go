package tests

import (
	"math/rand"
	"slices"
	"testing"

	"loop.example/g03224/impl"
)

func TestExpandedByHand(t *testing.T) {
	random := rand.New(rand.NewSource(46))
	grown, tooLarge, others := 0, 0, 0
	for _, n := range slices.Concat(smallNetworks(300), drawnNetworks(300)) {
		for k := -1; k <= len(n.Programs); k++ {
			m := drawnNetwork(random)
			if k >= 0 && k < len(n.Programs) && random.Intn(4) > 0 {
				m = drawnTemplate(random, n.Programs[k].Ins, n.Programs[k].Outs)
			}
			want := isTemplateByHand(n, k, m)
			wantBool(t, "a template", impl.IsTemplate(n, k, m), want)
			got, ok := impl.ExpandNetwork(n, k, m)
			if !want {
				others++
				wantNoNetwork(t, "no template", got, ok)
				continue
			}
			result, fits := expandedByHand(n, k, m)
			if !fits {
				tooLarge++
				wantNoNetwork(t, "too large", got, ok)
				continue
			}
			grown++
			wantNetwork(t, "grown", got, ok, result)
			wantBool(t, "grown", isNetworkByCounting(got), true)
		}
	}
	if grown < 1000 || tooLarge < 200 || others < 1000 {
		t.Errorf("%d networks grew, %d would be too large, and %d have no template", grown, tooLarge, others)
	}
}

func TestExpandedStatesByHand(t *testing.T) {
	random := rand.New(rand.NewSource(47))
	grown, others, steps := 0, 0, 0
	for _, c := range runCases(random) {
		for k := range c.n.Programs {
			s := cloneState(c.s)
			if random.Intn(3) > 0 {
				s.Actors[k] = actor(0, 0, 0, 0, 0)
			}
			m := likeProgram(random, c.n.Programs[k])
			result, fits := expandedByHand(c.n, k, m)
			if !fits || !sameActor(s.Actors[k], actor(0, 0, 0, 0, 0)) {
				others++
				wantNoGrownState(t, "no state", c.n, s, k, m)
				continue
			}
			grown++
			want := expandedStateByHand(s, k, m)
			wantGrownState(t, "grown", c.n, s, k, m, want)
			wantBool(t, "grown", impl.IsState(result, want), true)
			steps += want.Steps
		}
	}
	if grown < 1000 || others < 500 || steps < 100000 {
		t.Errorf("%d states grew, after %d steps, and %d did not", grown, steps, others)
	}
}

func TestSplicedAndDroppedByHand(t *testing.T) {
	spliced, dropped, full := 0, 0, 0
	for _, n := range slices.Concat(smallNetworks(300), drawnNetworks(500)) {
		for k := range n.Links {
			got, ok := impl.SpliceThrough(n, k)
			if len(n.Programs) == 12 || len(n.Links) == 30 {
				full++
				wantNoNetwork(t, "full", got, ok)
				continue
			}
			spliced++
			wantNetwork(t, "spliced", got, ok, splicedByHand(n, k))
			wantBool(t, "spliced", isNetworkByCounting(got), true)
		}
		for k := range n.Programs {
			dropped++
			want, _ := droppedByHand(n, k)
			got, ok := impl.DropProcess(n, k)
			wantNetwork(t, "dropped", got, ok, want)
			wantBool(t, "dropped", isNetworkByCounting(got), true)
		}
	}
	if spliced < 3000 || dropped < 2000 || full < 300 {
		t.Errorf("%d links were spliced, %d were in full networks, and %d processes were dropped", spliced, full, dropped)
	}
}

// A process that grows into one of the same kind is only put behind all others.
func TestGrowthIntoTheSame(t *testing.T) {
	random := rand.New(rand.NewSource(48))
	for _, n := range drawnNetworks(300) {
		s := drawnState(random, n)
		for k, p := range n.Programs {
			m := single(p, make([][]int, p.Ins)...)
			order := slices.Delete(ramp(0, len(n.Programs)), k, k+1)
			want, _ := impl.PermuteNetwork(n, append(order, k))
			got, ok := impl.ExpandNetwork(n, k, m)
			wantNetwork(t, "the same", got, ok, want)
			first := changedState(s, func(s *impl.State) { s.Actors[k] = impl.NewActor(p) })
			last := changedState(first, func(s *impl.State) { s.Actors = append(slices.Delete(s.Actors, k, k+1), impl.NewActor(p)) })
			wantGrownState(t, "the same", n, first, k, m, last)
		}
	}
}

// fedFromOutside gives the links that became inputs the rest of their least streams.
func fedFromOutside(n, dropped impl.Network, left []int, least [][]int) impl.Network {
	for i, k := range left {
		if dropped.Links[i].From == -1 {
			rest, _ := impl.RestOf(n.Links[k].Tokens, least[k])
			dropped, _ = impl.FeedNetwork(dropped, i, rest)
		}
	}
	return dropped
}

// P8 for processes that grow, once and again.
func TestGrowthMakesNoDifference(t *testing.T) {
	random := rand.New(rand.NewSource(49))
	grown, again, sent := 0, 0, 0
	for _, n := range settlingNetworks(800) {
		least, _, _ := impl.LeastStreams(n)
		waits, _ := impl.WaitsOf(n)
		for k, p := range n.Programs {
			larger, ok := impl.ExpandNetwork(n, k, likeProgram(random, p))
			if !ok {
				continue
			}
			got, _, ok := impl.LeastStreams(larger)
			if !ok {
				continue
			}
			grown++
			wantStreams(t, "grown", got[:len(n.Links)], true, least...)
			if slices.ContainsFunc(least, func(s []int) bool { return len(s) > 0 }) {
				sent++
			}
			others, _ := impl.WaitsOf(larger)
			wantList(t, "those that are left", others[:len(n.Programs)-1], slices.Delete(slices.Clone(waits), k, k+1)...)
			next := random.Intn(len(larger.Programs))
			larger, ok = impl.ExpandNetwork(larger, next, likeProgram(random, larger.Programs[next]))
			if more, _, settles := impl.LeastStreams(larger); ok && settles {
				again++
				wantStreams(t, "grown again", more[:len(got)], true, got...)
			}
		}
	}
	if grown < 1000 || again < 500 || sent < 800 {
		t.Errorf("%d processes grew in networks that settle, %d of them again; in %d networks something is sent", grown, again, sent)
	}
}

// P8 for links into which a process is put.
func TestSplicesMakeNoDifference(t *testing.T) {
	spliced, sent := 0, 0
	for _, n := range settlingNetworks(600) {
		least, _, _ := impl.LeastStreams(n)
		for k := range n.Links {
			larger, ok := impl.SpliceThrough(n, k)
			wantBool(t, "spliced", ok, true)
			got, _, ok := impl.LeastStreams(larger)
			if !ok {
				continue
			}
			spliced++
			if len(n.Links[k].Tokens) > 0 && len(least[k]) > len(n.Links[k].Tokens) {
				sent++
			}
			wantStreams(t, "spliced", got, true, append(slices.Clone(least), least[k])...)
		}
	}
	if spliced < 1000 || sent < 100 {
		t.Errorf("%d links were spliced in networks that settle, %d of them with tokens and more sent", spliced, sent)
	}
}

// P8 for processes that are dropped while their streams come from outside.
func TestDropsMakeNoDifference(t *testing.T) {
	dropped, fed := 0, 0
	for _, n := range settlingNetworks(1000) {
		least, _, _ := impl.LeastStreams(n)
		for k := range n.Programs {
			smaller, _ := impl.DropProcess(n, k)
			_, left := droppedByHand(n, k)
			full := fedFromOutside(n, smaller, left, least)
			var want [][]int
			for _, i := range left {
				want = append(want, least[i])
			}
			got, _, ok := impl.LeastStreams(full)
			dropped++
			if !sameNetwork(full, smaller) {
				fed++
			}
			wantStreams(t, "dropped", got, ok, want...)
		}
	}
	if dropped < 1000 || fed < 200 {
		t.Errorf("%d processes were dropped, %d of them had sent something", dropped, fed)
	}
}

// P8 while a network runs: it grows before the process that grows has begun.
func TestGrowthOfRunsMakesNoDifference(t *testing.T) {
	random := rand.New(rand.NewSource(50))
	grown, begun := 0, 0
	for _, n := range settlingNetworks(500) {
		start := impl.StartState(n)
		want, _ := impl.RunTurns(n, start, 20000)
		for k, p := range n.Programs {
			m := likeProgram(random, p)
			larger, ok := impl.ExpandNetwork(n, k, m)
			if _, _, settles := impl.LeastStreams(larger); !ok || !settles || want.Steps == 20000 {
				continue
			}
			schedule := slices.DeleteFunc(drawnSchedule(random, len(n.Programs), 200), func(process int) bool { return process == k })
			s, made := impl.RunSchedule(n, start, schedule)
			s, ok = impl.ExpandState(n, s, k, m)
			if !ok || !impl.IsState(larger, s) {
				// No run from there would come to an end.
				t.Fatalf("%v: process %d grows into %v, and the state becomes %v, %v", n, k, m, s, ok)
			}
			ends := []impl.State{scheduledToQuiet(random, larger, s, func(impl.State) {})}
			turns, _ := impl.RunTurns(larger, s, 20000)
			for _, got := range append(ends, turns) {
				if got.Steps == 20000 {
					continue
				}
				grown++
				if made > 0 {
					begun++
				}
				wantStreams(t, "grown", got.Sent[:len(n.Links)], true, want.Sent...)
				for i, a := range slices.Delete(slices.Clone(want.Actors), k, k+1) {
					wantBool(t, "those that are left", sameActor(got.Actors[i], a), true)
				}
			}
		}
	}
	if grown < 1000 || begun < 500 {
		t.Errorf("%d runs came to their end after they grew, %d of them on the way", grown, begun)
	}
}
