package tests

import (
	"math/rand"
	"slices"
	"testing"

	"loop.example/g03224/impl"
)

// wantSame compares with what was found by hand, which may be nothing.
func wantSame(t *testing.T, label string, got []int, ok bool, want []int, wantOk bool) {
	t.Helper()
	if wantOk {
		wantListOk(t, label, got, ok, want...)
	} else {
		wantNothing(t, label, got, ok)
	}
}

// anyGraph has rates that seldom fit.
func anyGraph(random *rand.Rand) impl.Graph {
	g := graph(random.Intn(9))
	for range random.Intn(8) * min(g.Nodes, 1) {
		g.Edges = append(g.Edges, edge(random.Intn(g.Nodes), random.Intn(g.Nodes), 1+random.Intn(5), 1+random.Intn(5), random.Intn(51)))
	}
	return g
}

func TestGraphsByHand(t *testing.T) {
	random := rand.New(rand.NewSource(41))
	graphs := drawnGraphs(3000)
	for range 3000 {
		graphs = append(graphs, anyGraph(random))
	}
	ways := map[string]int{}
	note := func(label string, ok bool) {
		if ok {
			ways[label]++
		} else {
			ways["no "+label]++
		}
	}
	for _, g := range graphs {
		wantBool(t, "a graph", impl.IsGraph(g), true)
		got, ok := impl.RepetitionOf(g)
		want, wantOk := repetitionByHand(g)
		wantSame(t, "a repetition", got, ok, want, wantOk)
		note("repetition", wantOk)

		got, ok = impl.ScheduleOf(g)
		want, wantOk = scheduleByHand(g)
		wantSame(t, "a schedule", got, ok, want, wantOk)
		note("schedule", wantOk)

		n, ok := impl.NetworkOf(g)
		wantNet, wantOk := networkByHand(g)
		if wantOk {
			wantNetwork(t, "a network", n, ok, wantNet)
		} else {
			wantNoNetwork(t, "a network", n, ok)
		}
		note("network", wantOk)
	}
	for _, label := range []string{"repetition", "no repetition", "schedule", "no schedule", "network", "no network"} {
		if ways[label] < 1000 {
			t.Errorf("the graphs have %v", ways)
		}
	}
}

// TestLeastRepetitions tries all numbers that are less.
func TestLeastRepetitions(t *testing.T) {
	fits := func(g impl.Graph, numbers []int) bool {
		return !slices.ContainsFunc(g.Edges, func(e impl.Edge) bool {
			return numbers[e.From]*e.Make != numbers[e.To]*e.Take
		})
	}
	looked, more := 0, 0
	for _, g := range drawnGraphs(3000) {
		repetition, ok := impl.RepetitionOf(g)
		if !ok || g.Nodes > 3 {
			continue
		}
		wantBool(t, "a repetition", fits(g, repetition) && !slices.Contains(repetition, 0), true)
		most := append(slices.Clone(repetition), 1, 1, 1)
		for a := range most[0] + 1 {
			for b := range most[1] + 1 {
				for c := range most[2] + 1 {
					less := []int{a, b, c}[:g.Nodes]
					if !slices.Contains(less, 0) && !slices.Equal(less, repetition) {
						looked++
						wantBool(t, "lesser numbers", fits(g, less), false)
					}
				}
			}
		}
		if len(g.Edges) > 2 {
			more++
		}
	}
	if looked < 5000 || more < 100 {
		t.Errorf("looked at %d numbers; %d graphs have more edges", looked, more)
	}
}

func TestFiringsByHand(t *testing.T) {
	random := rand.New(rand.NewSource(42))
	fired, stopped, ended := 0, 0, 0
	for _, g := range drawnGraphs(1500) {
		tokens := firstTokens(g)
		var schedule []int
		for range random.Intn(60) {
			k := random.Intn(g.Nodes+2) - 1
			if random.Intn(4) == 0 && len(tokens) > 0 {
				tokens[random.Intn(len(tokens))] = random.Intn(8)
			}
			got, ok := impl.FireNode(g, tokens, k)
			want, wantOk := firedByHand(g, tokens, k)
			wantSame(t, "after a firing", got, ok, want, wantOk)
			if wantOk {
				fired++
				tokens = want
			} else {
				stopped++
			}
		}
		for tokens = firstTokens(g); len(schedule) < 40; {
			k := random.Intn(g.Nodes + 1)
			after, ok := firedByHand(g, tokens, k)
			if ok {
				tokens = after
			}
			if ok || random.Intn(40) == 0 {
				schedule = append(schedule, k)
			}
		}
		end, peaks, ok := impl.RunFirings(g, schedule)
		wantEnd, wantPeaks, wantOk := firingsByHand(g, schedule)
		wantSame(t, "the end", end, ok, wantEnd, wantOk)
		wantSame(t, "peaks", peaks, ok, wantPeaks, wantOk)
		if wantOk {
			ended++
		}
	}
	if fired < 5000 || stopped < 5000 || ended < 300 {
		t.Errorf("%d firings, %d without; %d schedules came to their end", fired, stopped, ended)
	}
}

// TestSchedulesLeadBack is P7 for graphs.
func TestSchedulesLeadBack(t *testing.T) {
	random := rand.New(rand.NewSource(43))
	scheduled, moved := 0, 0
	for _, g := range drawnGraphs(3000) {
		schedule, ok := impl.ScheduleOf(g)
		if !ok {
			continue
		}
		scheduled++
		repetition, _ := impl.RepetitionOf(g)
		counts := repeated(0, g.Nodes)
		for _, k := range schedule {
			counts[k]++
		}
		wantList(t, "as often as the repetition says", counts, repetition...)
		end, peaks, ok := impl.RunFirings(g, schedule)
		wantListOk(t, "back at the start", end, ok, firstTokens(g)...)
		if !slices.Equal(peaks, end) {
			moved++
		}
		if twice := slices.Repeat(schedule, 2); len(twice) <= 1600 {
			end, again, ok := impl.RunFirings(g, twice)
			wantListOk(t, "and again", end, ok, firstTokens(g)...)
			wantList(t, "and again", again, peaks...)
		}
		loops := impl.CompressSchedule(schedule)
		expanded, ok := impl.ExpandSchedule(loops)
		wantListOk(t, "compressed and expanded", expanded, ok, schedule...)
		other := anotherSchedule(random, g, repetition)
		end, _, ok = impl.RunFirings(g, other)
		wantCount(t, "another schedule", len(other), len(schedule))
		wantListOk(t, "back by another schedule", end, ok, firstTokens(g)...)
	}
	if scheduled < 1000 || moved < 700 {
		t.Errorf("%d schedules, %d of them move tokens", scheduled, moved)
	}
}

// anotherSchedule lets any node fire that can and has to.
func anotherSchedule(random *rand.Rand, g impl.Graph, repetition []int) []int {
	var schedule []int
	tokens, left := firstTokens(g), slices.Clone(repetition)
	for {
		next := -1
		for _, k := range random.Perm(g.Nodes) {
			if _, can := firedByHand(g, tokens, k); can && left[k] > 0 {
				next = k
			}
		}
		if next < 0 {
			return schedule
		}
		tokens, _ = firedByHand(g, tokens, next)
		left[next]--
		schedule = append(schedule, next)
	}
}

// smallGraphs have networks whose streams and steps have room for a repetition.
func smallGraphs(count int) []impl.Graph {
	var out []impl.Graph
	for _, g := range drawnGraphs(count) {
		n, ok := networkByHand(g)
		repetition, whole := repetitionByHand(g)
		if !ok || !whole {
			continue
		}
		steps := 0
		for k, p := range n.Programs {
			steps += repetition[k] * len(p.Code)
		}
		for _, e := range g.Edges {
			ok = ok && e.Tokens+repetition[e.From]*e.Make <= 400
		}
		if ok && steps <= 20000 {
			out = append(out, g)
		}
	}
	return out
}

// TestNetworksLeadBack is P7 for networks: they run firing by firing, and as many tokens wait as on the edges.
func TestNetworksLeadBack(t *testing.T) {
	scheduled, moved := 0, 0
	for _, g := range smallGraphs(2500) {
		schedule, ok := impl.ScheduleOf(g)
		n, isNetwork := impl.NetworkOf(g)
		if !ok || !isNetwork {
			continue
		}
		scheduled++
		tokens := firstTokens(g)
		s, steps := impl.StartState(n), 0
		for i, k := range schedule {
			length := len(n.Programs[k].Code)
			made := 0
			s, made = impl.RunSchedule(n, s, repeated(k, length))
			wantCount(t, "the steps of a firing", made, length)
			steps += made
			tokens, _ = impl.FireNode(g, tokens, k)
			if i%7 == 0 || i == len(schedule)-1 {
				wantList(t, "after a firing", lengthsOf(s.Queues), tokens...)
			}
		}
		want := impl.StartState(n)
		for i, e := range g.Edges {
			want.Sent[i] = repeated(0, len(s.Sent[i]))
			wantCount(t, "what was sent", len(s.Sent[i]), e.Tokens+countOfNode(schedule, e.From)*e.Make)
		}
		want.Steps = steps
		wantState(t, "back at the start", s, want)
		if len(g.Edges) > 0 {
			moved++
		}
	}
	if scheduled < 300 || moved < 200 {
		t.Errorf("%d schedules, %d of them move tokens", scheduled, moved)
	}
}

func lengthsOf(lists [][]int) []int {
	var out []int
	for _, s := range lists {
		out = append(out, len(s))
	}
	return out
}

func countOfNode(schedule []int, node int) int {
	count := 0
	for _, k := range schedule {
		if k == node {
			count++
		}
	}
	return count
}

// TestNetworksUnderAnySchedule lets each process make the steps of its firings, in any order. All of them can be made
// just where there is a schedule of firings.
func TestNetworksUnderAnySchedule(t *testing.T) {
	random := rand.New(rand.NewSource(44))
	back, stuck := 0, 0
	for _, g := range smallGraphs(1200) {
		_, want := impl.ScheduleOf(g)
		n, _ := impl.NetworkOf(g)
		repetition, _ := impl.RepetitionOf(g)
		left := repeated(0, g.Nodes)
		for k, p := range n.Programs {
			left[k] = repetition[k] * len(p.Code)
		}
		hand := &byHand{n, startByHand(n)}
		can := func(k int) bool { return left[k] > 0 && hand.can(k) }
		for {
			order := random.Perm(g.Nodes)
			i := slices.IndexFunc(order, can)
			if i < 0 {
				break
			}
			for range 1 + random.Intn(4) {
				if can(order[i]) {
					hand.step(order[i])
					left[order[i]]--
				}
			}
		}
		wantBool(t, "all steps", !slices.ContainsFunc(left, func(steps int) bool { return steps > 0 }), want)
		if want {
			back++
			wantList(t, "back at the start", lengthsOf(hand.s.Queues), firstTokens(g)...)
		} else {
			stuck++
		}
	}
	if back < 150 || stuck < 60 {
		t.Errorf("%d networks came back, %d did not", back, stuck)
	}
}

func TestCompressedSchedules(t *testing.T) {
	random := rand.New(rand.NewSource(45))
	whole, tooLong := 0, 0
	for range 2000 {
		var schedule []int
		for range random.Intn(1 + random.Intn(60)) {
			length := 1 + random.Intn(3)
			if random.Intn(20) == 0 {
				length = random.Intn(600)
			}
			schedule = append(schedule, repeated(random.Intn(5)-1, length)...)
		}
		loops := impl.CompressSchedule(schedule)
		var back []int
		for i, l := range loops {
			back = append(back, repeated(l.Node, l.Times)...)
			wantBool(t, "a longest run", l.Times > 0 && (i == 0 || loops[i-1].Node != l.Node), true)
		}
		wantList(t, "all runs", back, schedule...)
		got, ok := impl.ExpandSchedule(loops)
		wantSame(t, "expanded", got, ok, schedule, len(schedule) <= 1600)
		if ok {
			whole++
		} else {
			tooLong++
		}
	}
	if whole < 1000 || tooLong < 20 {
		t.Errorf("%d schedules, %d too long ones", whole, tooLong)
	}
}
