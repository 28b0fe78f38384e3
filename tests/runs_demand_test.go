package tests

import (
	"math"
	"testing"

	"loop.example/g03224/impl"
)

// wantDemand looks at how many steps were made for a demand, and at what was sent.
func wantDemand(t *testing.T, label string, n impl.Network, link, count, most int, met bool, steps int, sent ...[]int) {
	t.Helper()
	got, ok := impl.RunDemand(n, impl.StartState(n), link, count, most)
	if ok != met || got.Steps != steps || !sameLists(got.Sent, sent) || !impl.IsState(n, got) {
		t.Errorf("%s: %d over the link %d with %d steps: got %v, %v, want %v, %v, %d", label, count, link, most, got, ok, sent, met, steps)
	}
}

func TestDemandsInAChain(t *testing.T) {
	cases := []struct {
		link, count int
		met         bool
		steps       int
		first       int
		second      int
	}{
		// The input has what it has.
		{0, 0, true, 0, 1, 0}, {0, 2, true, 0, 1, 0}, {0, 3, false, 0, 1, 0}, {0, math.MaxInt, false, 0, 1, 0},
		{1, math.MinInt, true, 0, 1, 0}, {1, -1, true, 0, 1, 0}, {1, 0, true, 0, 1, 0}, {1, 1, true, 0, 1, 0},
		{1, 2, true, 3, 2, 0}, {1, 3, true, 7, 3, 0}, {1, 4, false, 8, 3, 0}, {1, 500, false, 8, 3, 0}, {1, math.MaxInt, false, 8, 3, 0},
		// What is there already is used first, and then one token more is demanded each time.
		{2, 0, true, 0, 1, 0}, {2, 1, true, 2, 1, 1}, {2, 2, true, 3, 1, 2}, {2, 3, true, 9, 2, 3}, {2, 4, true, 10, 2, 4},
		{2, 5, true, 17, 3, 5}, {2, 6, true, 18, 3, 6}, {2, 7, false, 20, 3, 6}, {2, math.MaxInt, false, 20, 3, 6},
	}
	first, second := []int{9, 1, 3}, []int{9, 9, 1, 1, 3, 3}
	for _, c := range cases {
		sent := [][]int{{1, 2}, first[:c.first], second[:c.second]}
		wantDemand(t, "a chain", chain(), c.link, c.count, 20000, c.met, c.steps, sent...)
		wantDemand(t, "just enough", chain(), c.link, c.count, c.steps, c.met, c.steps, sent...)
		wantDemand(t, "far more than enough", chain(), c.link, c.count, math.MaxInt, c.met, c.steps, sent...)
	}
}

func TestDemandsWithTooFewSteps(t *testing.T) {
	for most := range 9 {
		got, met := impl.RunDemand(chain(), impl.StartState(chain()), 2, 3, most)
		wantBool(t, "too few steps", met, false)
		wantCount(t, "too few steps", got.Steps, most)
	}
	for _, most := range []int{0, -1, math.MinInt} {
		wantDemand(t, "no steps", chain(), 2, 1, most, false, 0, []int{1, 2}, []int{9}, nil)
		wantDemand(t, "no steps needed", chain(), 1, 1, most, true, 0, []int{1, 2}, []int{9}, nil)
	}
	// Steps that were made before do not count here.
	s, _ := impl.RunTurns(chain(), impl.StartState(chain()), 4)
	got, met := impl.RunDemand(chain(), s, 2, 3, 5)
	wantBool(t, "later", met, true)
	wantCount(t, "later", got.Steps, 9)
}

func TestDemandsThatFail(t *testing.T) {
	wantDemand(t, "an own link", network([]string{"through"}, link(0, 0, 0, 0)), 0, 1, 20000, false, 0, nil)
	wantDemand(t, "an own link with a token", network([]string{"through"}, link(0, 0, 0, 0, 5)), 0, 400, 20000, true, 398*3+2, repeated(5, 400))
	wantDemand(t, "an own link with all tokens", network([]string{"through"}, link(0, 0, 0, 0, 5)), 0, 401, 20000, false, 399*3+1, repeated(5, 400))
	wantDemand(t, "a ring", network([]string{"through", "through"}, link(0, 0, 1, 0), link(1, 0, 0, 0)), 1, 1, 20000, false, 0, nil, nil)
	// The process 0 wants to read from the link 1, over which there is a demand already when one over its link 2 comes to it.
	wantDemand(t, "a ring behind", network([]string{"copy", "through"},
		link(0, 0, -1, 0), link(1, 0, 0, 0), link(0, 1, 1, 0)), 0, 1, 20000, false, 0, nil, nil, nil)
	wantDemand(t, "halted", single(program(0, 1, in(impl.OpHalt))), 0, 1, 20000, false, 0, nil)
	wantDemand(t, "halted in the end", single(writer(3)), 0, 4, 20000, false, 3+4*3+1, repeated(7, 3))
	wantDemand(t, "endless", single(program(0, 1, in(impl.OpJump))), 0, 1, math.MaxInt, false, 20000, nil)
	counting := network([]string{"count"}, link(0, 0, -1, 0))
	wantDemand(t, "all tokens", counting, 0, 400, 20000, true, 1597, ramp(0, 400))
	wantDemand(t, "more than all tokens", counting, 0, 401, 20000, false, 1600, ramp(0, 400))
	// What the process 1 cannot write is what the process 0 waits for.
	full := network([]string{"sink", "copy", "through"}, link(1, 0, 0, 0, repeated(8, 400)...), link(-1, 0, 1, 0, 1), link(1, 1, 2, 0), link(2, 0, -1, 0))
	wantDemand(t, "behind one that cannot write", full, 3, 1, 20000, false, 1, repeated(8, 400), []int{1}, nil, nil)
	wantDemand(t, "nothing from outside", network([]string{"add"}, link(0, 0, -1, 0), link(-1, 0, 0, 0, 1), link(-1, 0, 0, 1)),
		0, 1, 20000, false, 1, nil, []int{1}, nil)
}

func TestDemandsLeaveOthersAlone(t *testing.T) {
	n, _ := impl.JoinNetworks(chain(), chain())
	got, met := impl.RunDemand(n, impl.StartState(n), 5, 6, 20000)
	alone, _ := impl.RunDemand(chain(), impl.StartState(chain()), 2, 6, 20000)
	wantBool(t, "one of two", met, true)
	start := impl.StartState(chain())
	wantState(t, "one of two", got, impl.State{
		Actors: append(start.Actors, alone.Actors...), Queues: append(start.Queues, alone.Queues...),
		Sent: append(start.Sent, alone.Sent...), Steps: alone.Steps})
	// Of two that could go on, only that one does whose token is wanted; and it stops when that is sent.
	pick := network([]string{"pick", "count", "count", "through"}, link(0, 0, -1, 0), link(3, 0, 0, 0), link(1, 0, 0, 1), link(2, 0, 0, 2), link(-1, 0, 3, 0, 0, 0, 1))
	wantDemand(t, "one way", pick, 0, 1, 20000, true, 2+1+4, []int{0}, []int{0}, []int{0}, nil, []int{0, 0, 1})
	wantDemand(t, "this way again", pick, 0, 2, 20000, true, 7+12, []int{0, 1}, []int{0, 0}, []int{0, 1}, nil, []int{0, 0, 1})
	got, met = impl.RunDemand(pick, impl.StartState(pick), 0, 3, 20000)
	wantBool(t, "the other way", met, true)
	wantStreams(t, "the other way", got.Sent, true, []int{0, 1, 0}, []int{0, 0, 1}, []int{0, 1}, []int{0}, []int{0, 0, 1})
}

func TestDemandsAfterAllSteps(t *testing.T) {
	s := impl.StartState(chain())
	s.Steps = 20000
	got, met := impl.RunDemand(chain(), s, 1, 1, 10)
	wantState(t, "met already", got, s)
	wantBool(t, "met already", met, true)
	for link := range 3 {
		got, met = impl.RunDemand(chain(), s, link, 3, 10)
		wantState(t, "too late", got, s)
		wantBool(t, "too late", met, false)
	}
	s.Steps = 19998
	got, met = impl.RunDemand(chain(), s, 2, 1, 10)
	wantBool(t, "in time", met, true)
	wantCount(t, "in time", got.Steps, 20000)
	got, met = impl.RunDemand(chain(), s, 2, 2, 10)
	wantBool(t, "a step too late", met, false)
	wantCount(t, "a step too late", got.Steps, 20000)
}

func TestDemandsOverNoLinks(t *testing.T) {
	for _, link := range []int{-1, 3, 30, 1 << 32, math.MinInt, math.MaxInt} {
		for _, count := range []int{-1, 0, 1} {
			got, met := impl.RunDemand(chain(), impl.StartState(chain()), link, count, 100)
			wantState(t, "no link", got, impl.State{})
			wantBool(t, "no link", met, false)
		}
	}
	got, met := impl.RunDemand(fullProcesses(), impl.StartState(fullProcesses()), 0, 0, 10)
	wantState(t, "no links", got, impl.State{})
	wantBool(t, "no links", met, false)
}
