package tests

import (
	"math/rand"
	"slices"
	"testing"

	"loop.example/g03224/impl"
)

func TestRoundsByHand(t *testing.T) {
	random := rand.New(rand.NewSource(15))
	made, failed := 0, 0
	for _, n := range slices.Concat(smallNetworks(1500), drawnNetworks(500)) {
		h := drawnStreams(random, len(n.Links), 12)
		want, fine := roundByHand(n, h)
		got, ok := impl.RoundOf(n, h)
		if !fine {
			failed++
			wantNoStreams(t, "a round that fails", got, ok)
			continue
		}
		made++
		wantStreams(t, "a round", got, ok, want...)
		if impl.IsFixed(n, h) != sameLists(h, want) {
			t.Errorf("IsFixed(%v, %v): got %v", n, h, !sameLists(h, want))
		}
	}
	if made < 500 || failed < 200 {
		t.Errorf("%d rounds were made, and %d failed", made, failed)
	}
}

func TestLeastStreamsByHand(t *testing.T) {
	found, failed, many := 0, 0, 0
	for _, n := range slices.Concat(smallNetworks(1500), drawnNetworks(300)) {
		want, rounds, ok := leastByHand(n)
		if !ok || rounds > 300 {
			failed++
			wantNoLeast(t, "no least streams", n)
			continue
		}
		found++
		if rounds > 5 {
			many++
		}
		wantLeast(t, "least streams", n, rounds, want...)
		var outputs [][]int
		for _, k := range impl.OutputsOf(n) {
			outputs = append(outputs, want[k])
		}
		seen, ok := impl.ObserveNetwork(n)
		wantStreams(t, "seen", seen, ok, outputs...)
	}
	if found < 500 || failed < 200 || many < 30 {
		t.Errorf("%d networks have least streams, %d of them after many rounds, and %d have none", found, many, failed)
	}
}

// It makes no difference in which order processes are executed.
func TestLeastStreamsArePlayed(t *testing.T) {
	random := rand.New(rand.NewSource(16))
	found, waiting, halted := 0, 0, 0
	for _, n := range slices.Concat(smallNetworks(1000), drawnNetworks(300)) {
		p := play(random, n)
		_, rounds, ok := leastByHand(n)
		if p.failed == ok {
			t.Errorf("%v: fails when it is played: %v, and by rounds: %v", n, p.failed, !ok)
		}
		if p.failed || rounds > 300 {
			wantNoLeast(t, "no least streams", n)
			continue
		}
		found++
		wantLeast(t, "played", n, rounds, p.sent...)
		wantWaits(t, "waits", n, p.waits...)
		for _, k := range p.waits {
			if k < 0 {
				halted++
			} else {
				waiting++
			}
		}
	}
	if found < 500 || waiting < 500 || halted < 50 {
		t.Errorf("%d networks were played, with %d processes that wait and %d that have halted", found, waiting, halted)
	}
}

func TestLeastStreamsAreMadeOfThemselves(t *testing.T) {
	networks := settlingNetworks(1500)
	if len(networks) < 500 {
		t.Errorf("only %d networks have least streams", len(networks))
	}
	for _, n := range networks {
		least, _, _ := impl.LeastStreams(n)
		if !impl.AreHistories(n, least) || !impl.IsFixed(n, least) {
			t.Errorf("%v: %v are not made of themselves", n, least)
		}
		again, ok := impl.RoundOf(n, least)
		wantStreams(t, "one round more", again, ok, least...)
	}
}

// risen does rounds up to one that changes nothing. They have to rise, and to stay below the least streams.
func risen(t *testing.T, n impl.Network, h, least [][]int) int {
	t.Helper()
	for rounds := 1; ; rounds++ {
		if !impl.AreBelow(n, h, least) {
			t.Fatalf("%v: %v are not below %v", n, h, least)
		}
		next, ok := impl.RoundOf(n, h)
		if !ok || !impl.AreBelow(n, h, next) {
			t.Fatalf("%v: the round from %v leads to %v", n, h, next)
		}
		if sameLists(h, next) {
			wantStreams(t, "risen", h, true, least...)
			return rounds
		}
		h = next
	}
}

func TestRoundsComeFromBelow(t *testing.T) {
	random := rand.New(rand.NewSource(17))
	for _, n := range settlingNetworks(1000) {
		least, rounds, _ := impl.LeastStreams(n)
		if got := risen(t, n, tokensOf(n), least); got != rounds {
			t.Errorf("%v: %d rounds, but %d are told", n, got, rounds)
		}
		// From nothing, the first round makes the tokens at least.
		if got := risen(t, n, make([][]int, len(n.Links)), least); got > rounds+1 {
			t.Errorf("%v: %d rounds from nothing, and %d from the tokens", n, got, rounds)
		}
		fromAnythingBelow(t, n, prefixesOf(random, least), least, rounds)
	}
}

// fromAnythingBelow does rounds that need not rise at first, but stay below.
func fromAnythingBelow(t *testing.T, n impl.Network, h, least [][]int, rounds int) {
	t.Helper()
	for range rounds + 1 {
		next, ok := impl.RoundOf(n, h)
		if !ok || !impl.AreBelow(n, next, least) {
			t.Fatalf("%v: the round from %v leads to %v", n, h, next)
		}
		h = next
	}
	wantStreams(t, "from below", h, true, least...)
}

func TestLeastAmongFixed(t *testing.T) {
	random := rand.New(rand.NewSource(18))
	others := 0
	for _, n := range settlingNetworks(1500) {
		least, _, _ := impl.LeastStreams(n)
		h, ok := drawnStreams(random, len(n.Links), 10), true
		for round := 0; ok && round < 50; round++ {
			if impl.IsFixed(n, h) {
				if !impl.AreBelow(n, least, h) {
					t.Errorf("%v: %v are not below %v", n, least, h)
				}
				if !impl.AreBelow(n, h, least) {
					others++
				}
				break
			}
			h, ok = impl.RoundOf(n, h)
		}
	}
	if others < 20 {
		t.Errorf("only %d others are fixed", others)
	}
}

func TestMoreTokensFromOutside(t *testing.T) {
	random := rand.New(rand.NewSource(19))
	longer, seen := 0, 0
	for _, n := range settlingNetworks(1500) {
		least, _, _ := impl.LeastStreams(n)
		outputs, _ := impl.ObserveNetwork(n)
		fed := n
		for _, k := range impl.InputsOf(n) {
			fed, _ = impl.FeedNetwork(fed, k, drawnStream(random, 6))
		}
		more, _, ok := impl.LeastStreams(fed)
		if !ok {
			continue
		}
		if !impl.AreBelow(n, least, more) {
			t.Errorf("%v: %v are not below %v", n, least, more)
		}
		others, _ := impl.ObserveNetwork(fed)
		if !areBelow(outputs, others) {
			t.Errorf("%v: seen is %v, but %v with more tokens", n, outputs, others)
		}
		if !sameLists(least, more) {
			longer++
		}
		if !sameLists(outputs, others) {
			seen++
		}
	}
	if longer < 300 || seen < 100 {
		t.Errorf("%d networks sent more, and more of %d was seen", longer, seen)
	}
}

func TestLeastStreamsOfRenumberedNetworks(t *testing.T) {
	random := rand.New(rand.NewSource(20))
	for _, n := range settlingNetworks(800) {
		order := random.Perm(len(n.Programs))
		renumbered, _ := impl.PermuteNetwork(n, order)
		least, rounds, _ := impl.LeastStreams(n)
		wantLeast(t, "renumbered", renumbered, rounds, least...)
		waits, _ := impl.WaitsOf(n)
		want := make([]int, len(order))
		for k, process := range order {
			want[k] = waits[process]
		}
		wantWaits(t, "renumbered", renumbered, want...)
	}
}

func TestLeastStreamsOfJoinedNetworks(t *testing.T) {
	networks := smallNetworks(800)
	joined := 0
	for i, a := range networks {
		b := networks[(i+1)%len(networks)]
		n, ok := impl.JoinNetworks(a, b)
		if !ok {
			continue
		}
		left, first, ok := impl.LeastStreams(a)
		right, second, fine := impl.LeastStreams(b)
		if !ok || !fine {
			wantNoLeast(t, "one of two fails", n)
			continue
		}
		joined++
		wantLeast(t, "joined", n, max(first, second), slices.Concat(left, right)...)
		waits, _ := impl.WaitsOf(a)
		others, _ := impl.WaitsOf(b)
		for _, k := range others {
			if k >= 0 {
				k += len(a.Links)
			}
			waits = append(waits, k)
		}
		wantWaits(t, "joined", n, waits...)
	}
	if joined < 100 {
		t.Errorf("only %d networks were joined", joined)
	}
}

func TestLeastStreamsOfChains(t *testing.T) {
	doubled := func(s []int) []int {
		out, _ := impl.HoldStream(s, 2)
		return out
	}
	same := func(s []int) []int { return s }
	makers := map[string]func([]int) []int{"through": same, "sums": impl.SumsOf, "steps": impl.StepsOf, "twice": doubled}
	names := []string{"through", "sums", "steps", "twice"}
	random := rand.New(rand.NewSource(21))
	for range 300 {
		s := drawnStream(random, 6)
		want := [][]int{s}
		var programs []impl.Program
		for range 1 + random.Intn(5) {
			name := names[random.Intn(len(names))]
			programs = append(programs, impl.SampleProgram(name))
			want = append(want, makers[name](want[len(want)-1]))
		}
		n, _ := impl.ChainNetwork(programs, s)
		// Each round makes the stream of one link more, and the last one changes nothing.
		rounds := len(programs) + 1
		if len(s) == 0 {
			rounds = 1
		}
		wantLeast(t, "a chain", n, rounds, want...)
		wantWaits(t, "a chain", n, ramp(0, len(programs))...)
		seen, ok := impl.ObserveNetwork(n)
		wantStreams(t, "the end of a chain", seen, ok, want[len(programs)])
	}
}
