package tests

import (
	"math"
	"runtime"
	"slices"
	"sync"
	"testing"
	"time"

	"loop.example/g03224/impl"
)

func TestConstantsOfRuns(t *testing.T) {
	wantList(t, "limits", []int{impl.MaxTotal}, 20000)
}

func actor(pc int, regs ...int) impl.Actor {
	return impl.Actor{Pc: pc, Regs: append(regs, repeated(0, 4-len(regs))...)}
}

// middle is a network with tokens on an input, on an inner link and on an output, and a state of it on the way.
func middle() (impl.Network, impl.State) {
	n := network([]string{"sums", "twice"}, link(-1, 0, 0, 0, 1, 2), link(0, 0, 1, 0, 9), link(1, 0, -1, 0, 5))
	return n, impl.State{
		Actors: []impl.Actor{actor(0, 1, 1), actor(2, 9)},
		Queues: [][]int{{2}, {1}, {5, 9}},
		Sent:   [][]int{{1, 2}, {9, 1}, {5, 9}},
		Steps:  6,
	}
}

func TestStartState(t *testing.T) {
	n, _ := middle()
	wantState(t, "at first", impl.StartState(n), impl.State{
		Actors: []impl.Actor{actor(0), actor(0)},
		Queues: [][]int{{1, 2}, {9}, {5}},
		Sent:   [][]int{{1, 2}, {9}, {5}},
	})
	full := network([]string{"sink"}, link(-1, 0, 0, 0, repeated(-999999, 400)...))
	wantState(t, "full", impl.StartState(full), impl.State{
		Actors: []impl.Actor{actor(0)}, Queues: tokensOf(full), Sent: tokensOf(full)})
	wantState(t, "nothing", impl.StartState(impl.Network{}), impl.State{})
	wantState(t, "no links", impl.StartState(fullProcesses()), impl.State{Actors: slices.Repeat([]impl.Actor{actor(0)}, 12)})
	for _, n := range []impl.Network{n, full, {}, fullProcesses(), fullLinks(), diamond(), countdown(3)} {
		wantState(t, "at first", impl.StartState(n), startByHand(n))
		wantBool(t, "a state", impl.IsState(n, impl.StartState(n)), true)
	}
}

func TestRunsOfNoNetworks(t *testing.T) {
	for _, bad := range noNetworks() {
		wantState(t, "no network", impl.StartState(bad), impl.State{})
		wantNoRuns(t, "no network", bad, startByHand(bad))
	}
	// This one lacks a link, but nothing in the state tells.
	wantNoRuns(t, "a port without a link", network([]string{"sink"}), impl.State{Actors: []impl.Actor{actor(0)}})
}

func TestIsState(t *testing.T) {
	n, s := middle()
	fine := map[string]func(*impl.State){
		"as it is":        func(s *impl.State) {},
		"all is read":     func(s *impl.State) { s.Queues[0], s.Queues[1] = nil, []int{} },
		"nothing is read": func(s *impl.State) { s.Queues[0], s.Queues[1] = []int{1, 2}, []int{9, 1} },
		"nothing is written": func(s *impl.State) {
			s.Sent[1], s.Queues[1], s.Sent[2], s.Queues[2] = []int{9}, nil, []int{5}, []int{5}
		},
		"more than is likely":   func(s *impl.State) { s.Sent[1], s.Queues[1] = []int{9, 7, 7, 7}, []int{7, 7} },
		"an end twice":          func(s *impl.State) { s.Sent[1], s.Queues[1] = []int{9, 3, 9}, []int{9} },
		"all tokens":            func(s *impl.State) { s.Sent[1], s.Queues[1] = repeated(9, 400), repeated(9, 400) },
		"all tokens, none left": func(s *impl.State) { s.Sent[1], s.Queues[1] = repeated(9, 400), nil },
		"all tokens outside":    func(s *impl.State) { s.Sent[2], s.Queues[2] = repeated(5, 400), repeated(5, 400) },
		"at the last place":     func(s *impl.State) { s.Actors[0].Pc = 4 },
		"great registers":       func(s *impl.State) { s.Actors[1].Regs = []int{999999, -999999, 999999, -999999} },
		"no steps":              func(s *impl.State) { s.Steps = 0 },
		"all steps":             func(s *impl.State) { s.Steps = 20000 },
	}
	for label, change := range fine {
		wantBool(t, label, impl.IsState(n, changedState(s, change)), true)
	}
	wantBool(t, "nothing", impl.IsState(impl.Network{}, impl.State{}), true)
	wantBool(t, "nothing, some steps", impl.IsState(impl.Network{}, impl.State{Steps: 7}), true)
	wantBool(t, "nothing, but empty", impl.IsState(impl.Network{}, impl.State{Actors: []impl.Actor{}, Queues: [][]int{}, Sent: [][]int{}}), true)
}

// noStates are states that are not valid for the network of middle, each for one reason.
func noStates() map[string]impl.State {
	_, s := middle()
	out := map[string]impl.State{"none": {}}
	for label, change := range map[string]func(*impl.State){
		"no actors":             func(s *impl.State) { s.Actors = nil },
		"an actor missing":      func(s *impl.State) { s.Actors = s.Actors[:1] },
		"an actor too many":     func(s *impl.State) { s.Actors = append(s.Actors, actor(0)) },
		"before the places":     func(s *impl.State) { s.Actors[0].Pc = -1 },
		"behind the places":     func(s *impl.State) { s.Actors[0].Pc = 5 },
		"far behind the places": func(s *impl.State) { s.Actors[1].Pc = math.MaxInt },
		"a place of another":    func(s *impl.State) { s.Actors[1].Pc = 5 },
		"a register missing":    func(s *impl.State) { s.Actors[0].Regs = s.Actors[0].Regs[:3] },
		"a register too many":   func(s *impl.State) { s.Actors[1].Regs = append(s.Actors[1].Regs, 0) },
		"no registers":          func(s *impl.State) { s.Actors[1].Regs = nil },
		"too great a register":  func(s *impl.State) { s.Actors[1].Regs[3] = 1000000 },
		"too small a register":  func(s *impl.State) { s.Actors[0].Regs[0] = -1000000 },
		"no queues":             func(s *impl.State) { s.Queues = nil },
		"a queue missing":       func(s *impl.State) { s.Queues = s.Queues[:2] },
		"a queue too many":      func(s *impl.State) { s.Queues = append(s.Queues, nil) },
		"nothing sent":          func(s *impl.State) { s.Sent = nil },
		"a sent one missing":    func(s *impl.State) { s.Sent = s.Sent[:2] },
		"a sent one too many":   func(s *impl.State) { s.Sent = append(s.Sent, nil) },
		"both too many":         func(s *impl.State) { s.Queues, s.Sent = append(s.Queues, nil), append(s.Sent, nil) },
		"no tokens sent":        func(s *impl.State) { s.Sent[1], s.Queues[1] = nil, nil },
		"other tokens sent":     func(s *impl.State) { s.Sent[1], s.Queues[1] = []int{8, 1}, []int{1} },
		"other tokens outside":  func(s *impl.State) { s.Sent[2], s.Queues[2] = []int{4, 9}, []int{4, 9} },
		"a token not sent":      func(s *impl.State) { s.Sent[0] = []int{1}; s.Queues[0] = []int{1} },
		"more from outside":     func(s *impl.State) { s.Sent[0], s.Queues[0] = []int{1, 2, 3}, []int{3} },
		"another from outside":  func(s *impl.State) { s.Sent[0], s.Queues[0] = []int{1, 3}, []int{3} },
		"a token read early":    func(s *impl.State) { s.Queues[0] = []int{1} },
		"another one queued":    func(s *impl.State) { s.Queues[1] = []int{2} },
		"more queued than sent": func(s *impl.State) { s.Queues[1] = []int{0, 9, 1} },
		"queued in order":       func(s *impl.State) { s.Queues[1] = []int{1, 9} },
		"read outside":          func(s *impl.State) { s.Queues[2] = []int{9} },
		"all read outside":      func(s *impl.State) { s.Queues[2] = nil },
		"more queued outside":   func(s *impl.State) { s.Queues[2] = []int{5, 9, 9} },
		"steps below 0":         func(s *impl.State) { s.Steps = -1 },
		"too many steps":        func(s *impl.State) { s.Steps = 20001 },
		"far too few steps":     func(s *impl.State) { s.Steps = math.MinInt },
		"far too many steps":    func(s *impl.State) { s.Steps = math.MaxInt },
		"too long":              func(s *impl.State) { s.Sent[1], s.Queues[1] = repeated(9, 401), repeated(9, 401) },
		"too long, all read":    func(s *impl.State) { s.Sent[1], s.Queues[1] = repeated(9, 401), nil },
		"too long outside":      func(s *impl.State) { s.Sent[2], s.Queues[2] = repeated(5, 401), repeated(5, 401) },
		"no token":              func(s *impl.State) { s.Sent[1], s.Queues[1] = []int{9, 1000000}, []int{1000000} },
		"no token, read":        func(s *impl.State) { s.Sent[1], s.Queues[1] = []int{9, -1000000}, nil },
		"no token outside":      func(s *impl.State) { s.Sent[2], s.Queues[2] = []int{5, 1 << 40}, []int{5, 1 << 40} },
	} {
		out[label] = changedState(s, change)
	}
	return out
}

func TestRunsOfNoStates(t *testing.T) {
	n, s := middle()
	for label, bad := range noStates() {
		wantNoRuns(t, label, n, bad)
	}
	wantNoRuns(t, "of another network", diamond(), s)
	wantNoRuns(t, "of no processes", impl.Network{}, s)
	wantNoRuns(t, "no actor for nothing", impl.Network{}, impl.State{Actors: []impl.Actor{actor(0)}})
	wantNoRuns(t, "no link of nothing", impl.Network{}, impl.State{Queues: [][]int{nil}, Sent: [][]int{nil}})
	wantNoRuns(t, "steps of nothing", impl.Network{}, impl.State{Steps: 20001})
}

// every is a network of one process, which has an instruction of each operation, with a state of it at a place.
func every(place int, regs []int, read, written []int) (impl.Network, impl.State) {
	code := []impl.Instr{in(impl.OpRead, 1, 0), in(impl.OpWrite, 2, 0), in(impl.OpSet, 0, -4), in(impl.OpAdd, 3, 0, 1),
		in(impl.OpSub, 3, 0, 1), in(impl.OpMul, 3, 0, 1), in(impl.OpRest, 3, 0, 1), in(impl.OpJump, 0, 2),
		in(impl.OpZero, 0, 1), in(impl.OpBelow, 0, 12), in(impl.OpHalt), in(impl.OpHalt)}
	n := single(program(1, 1, code...), read)
	return n, impl.State{Actors: []impl.Actor{{Pc: place, Regs: regs}}, Queues: [][]int{read, written}, Sent: [][]int{read, written}, Steps: 10}
}

func TestSteps(t *testing.T) {
	cases := []struct {
		label      string
		place      int
		next       int
		regs, want []int
	}{
		{"set", 2, 3, []int{1, 2, 3, 4}, []int{-4, 2, 3, 4}},
		{"add", 3, 4, []int{999999, 2, 3, 4}, []int{999999, 2, 3, -999998}},
		{"sub", 4, 5, []int{1, 2, 3, 4}, []int{1, 2, 3, -1}},
		{"mul", 5, 6, []int{5, 2, 3, 4}, []int{5, 2, 3, 10}},
		{"rest", 6, 7, []int{-5, 3, 3, 4}, []int{-5, 3, 3, 1}},
		{"jump", 7, 2, []int{1, 2, 3, 4}, []int{1, 2, 3, 4}},
		{"zero", 8, 1, []int{0, 2, 3, 4}, []int{0, 2, 3, 4}},
		{"not zero", 8, 9, []int{1, 2, 3, 4}, []int{1, 2, 3, 4}},
		{"below", 9, 12, []int{-1, 2, 3, 4}, []int{-1, 2, 3, 4}},
		{"not below", 9, 10, []int{0, 2, 3, 4}, []int{0, 2, 3, 4}},
	}
	for _, c := range cases {
		n, s := every(c.place, c.regs, []int{8, 9}, []int{6})
		wantBool(t, c.label, impl.CanStep(n, s, 0), true)
		got, ok := impl.StepNetwork(n, s, 0)
		wantBool(t, c.label, ok, true)
		want := changedState(s, func(s *impl.State) { s.Actors[0], s.Steps = impl.Actor{Pc: c.next, Regs: c.want}, 11 })
		wantState(t, c.label, got, want)
		wantList(t, c.label, impl.BlockedOn(n, s), -1)
	}
}

func TestStepsOverLinks(t *testing.T) {
	n, s := every(0, []int{1, 2, 3, 4}, []int{8, 9}, []int{6})
	got, ok := impl.StepNetwork(n, s, 0)
	wantBool(t, "read", ok, true)
	read := changedState(s, func(s *impl.State) {
		s.Actors[0], s.Queues[0], s.Steps = actor(1, 1, 8, 3, 4), []int{9}, 11
	})
	wantState(t, "read", got, read)
	got, ok = impl.StepNetwork(n, got, 0)
	wantBool(t, "write", ok, true)
	written := changedState(read, func(s *impl.State) {
		s.Actors[0].Pc, s.Queues[1], s.Sent[1], s.Steps = 2, []int{6, 3}, []int{6, 3}, 12
	})
	wantState(t, "write", got, written)
	// A link from a process to itself: what it writes goes behind what it has still to read.
	n = network([]string{"through"}, link(0, 0, 0, 0, 5, 6))
	got, made := impl.RunSchedule(n, impl.StartState(n), []int{0, 0})
	wantCount(t, "a link back", made, 2)
	wantState(t, "a link back", got, impl.State{Actors: []impl.Actor{actor(2, 5)}, Queues: [][]int{{6, 5}}, Sent: [][]int{{5, 6, 5}}, Steps: 2})
}

func TestStepsThatCannotBe(t *testing.T) {
	type refused struct {
		label string
		n     impl.Network
		s     impl.State
	}
	var cases []refused
	refuse := func(label string, n impl.Network, s impl.State) { cases = append(cases, refused{label, n, s}) }
	for label, place := range map[string]int{"halt": 10, "halt behind": 11, "the last place": 12} {
		n, s := every(place, []int{0, 0, 0, 0}, []int{8}, []int{6})
		refuse(label, n, s)
	}
	n, s := every(0, []int{1, 2, 3, 4}, []int{8, 9}, []int{6})
	s.Queues[0] = nil
	refuse("nothing to read", n, s)
	n, s = every(1, []int{1, 2, 3, 4}, nil, repeated(7, 400))
	refuse("all is written", n, s)
	for place := range 10 {
		n, s := every(place, []int{1, 2, 3, 4}, []int{8}, []int{6})
		s.Steps = 20000
		refuse("all steps", n, s)
	}
	n = network([]string{"through"}, link(0, 0, 0, 0))
	// All was written and all of it read again.
	refuse("all was written", n, impl.State{Actors: []impl.Actor{actor(1)}, Queues: [][]int{nil}, Sent: [][]int{repeated(7, 400)}})
	for _, c := range cases {
		wantBool(t, c.label, impl.IsState(c.n, c.s), true)
		wantBool(t, c.label, impl.CanStep(c.n, c.s, 0), false)
		wantBool(t, c.label, impl.IsQuiet(c.n, c.s), true)
		got, ok := impl.StepNetwork(c.n, c.s, 0)
		wantState(t, c.label, got, impl.State{})
		wantBool(t, c.label, ok, false)
		got, made := impl.RunSchedule(c.n, c.s, repeated(0, 10))
		wantState(t, c.label, got, c.s)
		wantCount(t, c.label, made, 0)
		got, quiet := impl.RunTurns(c.n, c.s, 10)
		wantState(t, c.label, got, c.s)
		wantBool(t, c.label, quiet, true)
		got, quiet = impl.RunEager(c.n, c.s, 10)
		wantState(t, c.label, got, c.s)
		wantBool(t, c.label, quiet, true)
	}
}

func TestStepsAtTheLimits(t *testing.T) {
	n, s := every(1, []int{1, 2, 3, 4}, nil, repeated(7, 399))
	got, ok := impl.StepNetwork(n, s, 0)
	wantBool(t, "the last write", ok && impl.CanStep(n, s, 0) && !impl.IsQuiet(n, s), true)
	wantList(t, "the last write", got.Sent[1], append(repeated(7, 399), 3)...)
	n, s = every(0, []int{1, 2, 3, 4}, []int{5}, nil)
	got, ok = impl.StepNetwork(n, s, 0)
	wantBool(t, "the last token", ok && len(got.Queues[0]) == 0, true)
	s.Steps = 19999
	got, ok = impl.StepNetwork(n, s, 0)
	wantBool(t, "the last step", ok && impl.CanStep(n, s, 0) && got.Steps == 20000 && impl.IsQuiet(n, got), true)
	// A queue may hold as many tokens as may be sent.
	n = network([]string{"through", "sink"}, link(-1, 0, 0, 0, 1), link(0, 0, 1, 0, repeated(7, 399)...))
	got, made := impl.RunSchedule(n, impl.StartState(n), repeated(0, 10))
	wantCount(t, "a full queue", made, 3)
	wantList(t, "a full queue", got.Queues[1], append(repeated(7, 399), 1)...)
}

func TestNoProcessSteps(t *testing.T) {
	n, s := middle()
	for _, k := range []int{-1, -2, 2, 3, 12, 1 << 32, math.MinInt, math.MaxInt} {
		wantBool(t, "no process", impl.CanStep(n, s, k), false)
		got, ok := impl.StepNetwork(n, s, k)
		wantState(t, "no process", got, impl.State{})
		wantBool(t, "no process", ok, false)
		got, made := impl.RunSchedule(n, s, []int{k, k})
		wantState(t, "no process", got, s)
		wantCount(t, "no process", made, 0)
	}
	wantBool(t, "nothing", impl.CanStep(impl.Network{}, impl.State{}, 0), false)
}

func TestIsQuiet(t *testing.T) {
	halt := program(0, 0, in(impl.OpHalt))
	on := program(0, 0, in(impl.OpSet, 0, 1))
	cases := []struct {
		programs []impl.Program
		want     bool
	}{
		{nil, true}, {[]impl.Program{halt}, true}, {[]impl.Program{on}, false}, {[]impl.Program{halt, halt, on}, false},
		{[]impl.Program{on, halt}, false}, {[]impl.Program{halt, on, halt}, false}, {[]impl.Program{halt, halt}, true},
	}
	for _, c := range cases {
		n := impl.Network{Programs: c.programs}
		wantBool(t, "quiet", impl.IsQuiet(n, impl.StartState(n)), c.want)
	}
}

func TestRunSchedule(t *testing.T) {
	n := chain()
	start := impl.StartState(n)
	cases := []struct {
		schedule []int
		made     int
		queues   [][]int
		places   []int
	}{
		{nil, 0, [][]int{{1, 2}, {9}, nil}, []int{0, 0}},
		{[]int{}, 0, [][]int{{1, 2}, {9}, nil}, []int{0, 0}},
		{[]int{0}, 1, [][]int{{2}, {9}, nil}, []int{1, 0}},
		{[]int{1}, 1, [][]int{{1, 2}, nil, nil}, []int{0, 1}},
		{[]int{0, 1, 0, 1, 0}, 5, [][]int{{2}, {1}, {9}}, []int{3, 2}},
		{[]int{0, 5, 0, -1, 0, 2}, 3, [][]int{{2}, {9, 1}, nil}, []int{3, 0}},
		// The process 1 waits for its second token, and what was told it in between is not made up for.
		{[]int{1, 1, 1, 1, 1, 1, 1, 0, 0, 0, 1}, 8, [][]int{{2}, nil, {9, 9}}, []int{3, 1}},
		{repeated(0, 100), 8, [][]int{nil, {9, 1, 3}, nil}, []int{0, 0}},
	}
	for _, c := range cases {
		got, made := impl.RunSchedule(n, start, c.schedule)
		wantCount(t, "a schedule", made, c.made)
		wantCount(t, "a schedule", got.Steps, c.made)
		wantStreams(t, "a schedule", got.Queues, impl.IsState(n, got), c.queues...)
		wantList(t, "a schedule", []int{got.Actors[0].Pc, got.Actors[1].Pc}, c.places...)
	}
	// Only the steps that are made here are told.
	late := changedState(start, func(s *impl.State) { s.Steps = 19998 })
	got, made := impl.RunSchedule(n, late, repeated(0, 5))
	wantCount(t, "late", made, 2)
	wantCount(t, "late", got.Steps, 20000)
	got, made = impl.RunSchedule(impl.Network{}, impl.State{Steps: 3}, []int{0, 1, -1})
	wantState(t, "nothing", got, impl.State{Steps: 3})
	wantCount(t, "nothing", made, 0)
}

// places are where the actors of a state are.
func places(s impl.State) []int {
	var out []int
	for _, a := range s.Actors {
		out = append(out, a.Pc)
	}
	return out
}

// walkers have a process that halts after each of these numbers of instructions.
func walkers(lengths ...int) impl.Network {
	var n impl.Network
	for _, length := range lengths {
		n.Programs = append(n.Programs, program(0, 0, append(slices.Repeat([]impl.Instr{in(impl.OpSet, 0, 1)}, length), in(impl.OpHalt))...))
	}
	return n
}

func TestTurnsInOrder(t *testing.T) {
	n := walkers(2, 0, 4, 3)
	cases := []struct {
		most         int
		turns, eager []int
		quiet        bool
	}{
		{math.MinInt, []int{0, 0, 0, 0}, []int{0, 0, 0, 0}, false}, {-1, []int{0, 0, 0, 0}, []int{0, 0, 0, 0}, false},
		{0, []int{0, 0, 0, 0}, []int{0, 0, 0, 0}, false}, {1, []int{1, 0, 0, 0}, []int{1, 0, 0, 0}, false},
		{2, []int{1, 0, 1, 0}, []int{2, 0, 0, 0}, false}, {3, []int{1, 0, 1, 1}, []int{2, 0, 1, 0}, false},
		{4, []int{2, 0, 1, 1}, []int{2, 0, 2, 0}, false}, {6, []int{2, 0, 2, 2}, []int{2, 0, 4, 0}, false},
		{7, []int{2, 0, 3, 2}, []int{2, 0, 4, 1}, false}, {8, []int{2, 0, 3, 3}, []int{2, 0, 4, 2}, false},
		{9, []int{2, 0, 4, 3}, []int{2, 0, 4, 3}, true}, {10, []int{2, 0, 4, 3}, []int{2, 0, 4, 3}, true},
		{math.MaxInt, []int{2, 0, 4, 3}, []int{2, 0, 4, 3}, true},
	}
	for _, c := range cases {
		got, quiet := impl.RunTurns(n, impl.StartState(n), c.most)
		wantList(t, "turns", places(got), c.turns...)
		wantBool(t, "turns", quiet, c.quiet)
		got, quiet = impl.RunEager(n, impl.StartState(n), c.most)
		wantList(t, "eager", places(got), c.eager...)
		wantBool(t, "eager", quiet, c.quiet)
	}
	// Turns begin with the process 0, wherever others have ended.
	got, _ := impl.RunTurns(n, impl.StartState(n), 2)
	got, _ = impl.RunTurns(n, got, 1)
	wantList(t, "turns again", places(got), 2, 0, 1, 0)
}

func TestTurnsOfWaitingProcesses(t *testing.T) {
	// The process 1 reads in the same round what the process 0 has written.
	n := network([]string{"through", "sink"}, link(-1, 0, 0, 0, 5), link(0, 0, 1, 0))
	for most, want := range [][]int{{0, 0}, {1, 0}, {2, 0}, {2, 1}, {0, 1}, {0, 0}} {
		got, quiet := impl.RunTurns(n, impl.StartState(n), most)
		wantList(t, "turns", places(got), want...)
		wantBool(t, "turns", quiet, most == 5)
	}
}

func TestEagerGoesBack(t *testing.T) {
	// The process 0 reads what the process 1 writes, and goes on at once.
	n := network([]string{"sink", "through"}, link(1, 0, 0, 0), link(-1, 0, 1, 0, 5, 6))
	got, _ := impl.RunEager(n, impl.StartState(n), 3)
	wantList(t, "eager", places(got), 1, 2)
	got, _ = impl.RunEager(n, impl.StartState(n), 4)
	wantList(t, "eager", places(got), 0, 2)
	got, _ = impl.RunTurns(n, impl.StartState(n), 4)
	wantList(t, "turns", places(got), 1, 0)
}

func TestRunsOfAChain(t *testing.T) {
	n := chain()
	want := impl.State{
		Actors: []impl.Actor{actor(0, 3, 2), actor(0, 3)},
		Queues: [][]int{nil, nil, {9, 9, 1, 1, 3, 3}},
		Sent:   [][]int{{1, 2}, {9, 1, 3}, {9, 9, 1, 1, 3, 3}},
		Steps:  20,
	}
	for _, most := range []int{20, 21, 20000, math.MaxInt} {
		got, quiet := impl.RunTurns(n, impl.StartState(n), most)
		wantState(t, "turns", got, want)
		wantBool(t, "turns", quiet && impl.IsQuiet(n, got), true)
		got, quiet = impl.RunEager(n, impl.StartState(n), most)
		wantState(t, "eager", got, want)
		wantBool(t, "eager", quiet, true)
	}
	for _, most := range []int{19, 7, 1} {
		got, quiet := impl.RunTurns(n, impl.StartState(n), most)
		wantCount(t, "turns", got.Steps, most)
		wantBool(t, "turns", quiet, false)
		got, quiet = impl.RunEager(n, impl.StartState(n), most)
		wantCount(t, "eager", got.Steps, most)
		wantBool(t, "eager", quiet, false)
	}
	for _, most := range []int{-1, 0, 5} {
		got, quiet := impl.RunTurns(n, want, most)
		wantState(t, "turns of a quiet network", got, want)
		wantBool(t, "turns of a quiet network", quiet, true)
		got, quiet = impl.RunEager(n, want, most)
		wantState(t, "eager in a quiet network", got, want)
		wantBool(t, "eager in a quiet network", quiet, true)
	}
}

func TestRunsOfNothing(t *testing.T) {
	for _, most := range []int{-1, 0, 1, math.MaxInt} {
		got, quiet := impl.RunTurns(impl.Network{}, impl.State{Steps: 5}, most)
		wantState(t, "nothing", got, impl.State{Steps: 5})
		wantBool(t, "nothing", quiet, true)
		got, quiet = impl.RunEager(impl.Network{}, impl.State{Steps: 5}, most)
		wantState(t, "nothing", got, impl.State{Steps: 5})
		wantBool(t, "nothing", quiet, true)
	}
	wantList(t, "nothing", impl.BlockedOn(impl.Network{}, impl.State{}))
}

func TestRunsToTheLimits(t *testing.T) {
	endless := impl.Network{Programs: []impl.Program{program(0, 0, in(impl.OpJump)), program(0, 0, in(impl.OpJump))}}
	counting := network([]string{"count"}, link(0, 0, -1, 0))
	held := network([]string{"count", "sink"}, link(0, 0, 1, 0, 4, 5))
	cases := []struct {
		label string
		n     impl.Network
		steps int
		sent  [][]int
	}{
		{"endless", endless, 20000, nil},
		{"all tokens", counting, 1600, [][]int{ramp(0, 400)}},
		{"all tokens behind others", held, 398*4 + 400*2, [][]int{append([]int{4, 5}, ramp(0, 398)...)}},
		{"for ever in a cycle", network([]string{"through"}, link(0, 0, 0, 0, 1)), 399*3 + 1, [][]int{repeated(1, 400)}},
	}
	for _, c := range cases {
		for how, got := range ends(c.n, impl.StartState(c.n)) {
			wantCount(t, c.label+": "+how, got.Steps, c.steps)
			wantStreams(t, c.label+": "+how, got.Sent, impl.IsQuiet(c.n, got), c.sent...)
		}
	}
	for _, most := range []int{19999, 20000, 20001, math.MaxInt} {
		got, quiet := impl.RunTurns(endless, impl.StartState(endless), most)
		wantCount(t, "endless", got.Steps, min(most, 20000))
		wantBool(t, "endless", quiet, most >= 20000)
		got, quiet = impl.RunEager(endless, impl.StartState(endless), most)
		wantCount(t, "endless", got.Steps, min(most, 20000))
		wantBool(t, "endless", quiet, most >= 20000)
	}
	got, made := impl.RunSchedule(endless, impl.StartState(endless), repeated(1, 20005))
	wantCount(t, "a long schedule", made, 20000)
	wantCount(t, "a long schedule", got.Steps, 20000)
}

func TestBlockedOn(t *testing.T) {
	halt := program(0, 0, in(impl.OpHalt))
	two := network([]string{"add"}, link(0, 0, -1, 0), link(-1, 0, 0, 1), link(-1, 0, 0, 0, 7))
	full := network([]string{"count"}, link(0, 0, -1, 0))
	cases := []struct {
		label string
		n     impl.Network
		most  int
		want  []int
	}{
		{"tokens are there", chain(), 0, []int{-1, -1}}, {"on the way", chain(), 5, []int{-1, -1}}, {"in the end", chain(), 100, []int{0, 1}},
		{"a token at the first port", two, 0, []int{-1}}, {"none at the second port", two, 1, []int{1}},
		{"none at all", network([]string{"add"}, link(0, 0, -1, 0), link(-1, 0, 0, 1), link(-1, 0, 0, 0)), 0, []int{2}},
		{"an own link", network([]string{"through"}, link(0, 0, 0, 0)), 0, []int{0}},
		{"a link to another", network([]string{"sink", "through"}, link(1, 0, 0, 0), link(-1, 0, 1, 0, 5)), 0, []int{0, -1}},
		{"it wants to write", full, 0, []int{-1}}, {"it cannot write", full, 20000, []int{-1}},
		{"some halt", impl.Network{Programs: []impl.Program{halt, impl.SampleProgram("sink"), halt},
			Links: []impl.Link{link(-1, 0, 1, 0)}}, 0, []int{-1, 0, -1}},
		{"no links", fullProcesses(), 0, repeated(-1, 12)},
	}
	for _, c := range cases {
		s, _ := impl.RunTurns(c.n, impl.StartState(c.n), c.most)
		wantList(t, c.label, impl.BlockedOn(c.n, s), c.want...)
		// That no step is left makes no difference to what is wanted.
		s.Steps = 20000
		wantList(t, c.label+" after all steps", impl.BlockedOn(c.n, s), c.want...)
	}
}

func roomyState(s impl.State) impl.State {
	out := impl.State{Actors: roomFor(s.Actors), Queues: roomFor(s.Queues), Sent: roomFor(s.Sent), Steps: s.Steps}
	for k := range out.Actors {
		out.Actors[k].Regs = roomFor(out.Actors[k].Regs)
	}
	for k := range out.Queues {
		out.Queues[k], out.Sent[k] = roomFor(out.Queues[k]), roomFor(out.Sent[k])
	}
	return out
}

// spreadState is a state with all that lies in the spare capacity behind its lists.
func spreadState(s impl.State) impl.State {
	whole := impl.State{Actors: slices.Clone(s.Actors[:cap(s.Actors)]), Steps: s.Steps}
	for k, a := range whole.Actors {
		whole.Actors[k].Regs = slices.Clone(a.Regs[:cap(a.Regs)])
	}
	for _, queue := range s.Queues[:cap(s.Queues)] {
		whole.Queues = append(whole.Queues, slices.Clone(queue[:cap(queue)]))
	}
	for _, sent := range s.Sent[:cap(s.Sent)] {
		whole.Sent = append(whole.Sent, slices.Clone(sent[:cap(sent)]))
	}
	return whole
}

// checkOwnState overwrites each list of a state, and looks whether another one is changed by that.
func checkOwnState(t *testing.T, label string, s impl.State) {
	t.Helper()
	var lists [][]int
	for _, a := range s.Actors {
		lists = append(lists, a.Regs)
	}
	checkOwnStreams(t, label, slices.Concat(lists, s.Queues, s.Sent))
	sent := cloneLists(s.Sent)
	clear(s.Actors[:cap(s.Actors)])
	clear(s.Queues[:cap(s.Queues)])
	if !sameLists(s.Sent, sent) {
		t.Errorf("%s: the queues share memory with what was sent", label)
	}
	clear(s.Sent[:cap(s.Sent)])
}

func TestMemoryOfRunningNetworks(t *testing.T) {
	for _, n := range []impl.Network{chain(), adding(1, 2, 3), diamond(), countdown(20), network([]string{"count"}, link(0, 0, -1, 0))} {
		n = roomy(n)
		for _, most := range []int{0, 1, 30, 20000} {
			s, _ := impl.RunTurns(n, impl.StartState(n), most)
			s = roomyState(s)
			network, before, schedule := spread(n), spreadState(s), guard([]int{0, 1, 7, 0, 0, 1})
			calls := map[string]func() impl.State{
				"StartState":   func() impl.State { return impl.StartState(n) },
				"StepNetwork":  func() impl.State { s, _ := impl.StepNetwork(n, s, 0); return s },
				"RunSchedule":  func() impl.State { s, _ := impl.RunSchedule(n, s, schedule.list); return s },
				"no schedule":  func() impl.State { s, _ := impl.RunSchedule(n, s, nil); return s },
				"RunTurns":     func() impl.State { s, _ := impl.RunTurns(n, s, 40); return s },
				"no turns":     func() impl.State { s, _ := impl.RunTurns(n, s, 0); return s },
				"RunEager":     func() impl.State { s, _ := impl.RunEager(n, s, 40); return s },
				"not eager":    func() impl.State { s, _ := impl.RunEager(n, s, 0); return s },
				"RunDemand":    func() impl.State { s, _ := impl.RunDemand(n, s, len(n.Links)-1, 50, 40); return s },
				"no demand":    func() impl.State { s, _ := impl.RunDemand(n, s, 0, 0, 40); return s },
				"other states": func() impl.State { impl.IsState(n, s); impl.CanStep(n, s, 0); impl.IsQuiet(n, s); return impl.State{} },
				"BlockedOn":    func() impl.State { scribble(impl.BlockedOn(n, s)); return impl.State{} },
			}
			for label, call := range calls {
				checkOwnState(t, label, call())
				if !sameNetwork(spread(n), network) || !sameState(spreadState(s), before) || schedule.changed() {
					t.Fatalf("%s: an argument is changed, or shares memory with the result", label)
				}
			}
		}
	}
}

func TestRunsOfSharedStreams(t *testing.T) {
	// The same memory as tokens, as queues, as what was sent, and as registers of both processes.
	shared := []int{1, 2, 3, 4}
	n := network([]string{"through", "through"}, link(-1, 0, 0, 0), link(0, 0, 1, 0), link(1, 0, -1, 0))
	s := impl.State{Actors: []impl.Actor{{Regs: shared}, {Regs: shared}}}
	for k := range n.Links {
		n.Links[k].Tokens = shared
		s.Queues, s.Sent = append(s.Queues, shared), append(s.Sent, shared)
	}
	got, made := impl.RunSchedule(n, s, []int{0, 0, 1, 1, 1, 1})
	wantCount(t, "shared", made, 6)
	wantState(t, "shared", got, impl.State{
		Actors: []impl.Actor{actor(2, 1, 2, 3, 4), actor(1, 2, 2, 3, 4)},
		Queues: [][]int{{2, 3, 4}, {3, 4, 1}, {1, 2, 3, 4, 1}},
		Sent:   [][]int{{1, 2, 3, 4}, {1, 2, 3, 4, 1}, {1, 2, 3, 4, 1}},
		Steps:  6,
	})
	checkOwnState(t, "shared", got)
	wantList(t, "shared", shared, 1, 2, 3, 4)
}

// goroutinesAtMost waits a little, because one that is joined may still be on its way out.
func goroutinesAtMost(most int) bool {
	for range 500 {
		if runtime.NumGoroutine() <= most {
			return true
		}
		time.Sleep(10 * time.Millisecond)
	}
	return false
}

func TestNoGoroutineIsLeft(t *testing.T) {
	before := runtime.NumGoroutine()
	for _, n := range []impl.Network{chain(), adding(1, 2, 3), diamond(), fullProcesses(), {}} {
		for range 20 {
			s := impl.StartState(n)
			impl.StepNetwork(n, s, 0)
			impl.RunSchedule(n, s, []int{0, 1, 0, 9})
			impl.RunTurns(n, s, 10)
			impl.RunEager(n, s, 10)
			impl.RunDemand(n, s, 2, 3, 10)
			impl.RunDemand(n, s, 99, 3, 10)
		}
	}
	if !goroutinesAtMost(before) {
		t.Errorf("%d goroutines before, and %d behind", before, runtime.NumGoroutine())
	}
}

func TestRunsAtTheSameTime(t *testing.T) {
	n := diamond()
	start := impl.StartState(n)
	turns, _ := impl.RunTurns(n, start, 300)
	demanded, met := impl.RunDemand(n, start, 7, 4, 300)
	var callers sync.WaitGroup
	for range 20 {
		callers.Go(func() {
			got, _ := impl.RunTurns(n, start, 300)
			wantState(t, "turns", got, turns)
			got, ok := impl.RunDemand(n, start, 7, 4, 300)
			wantState(t, "a demand", got, demanded)
			wantBool(t, "a demand", ok, met)
		})
	}
	callers.Wait()
}
