package tests

import (
	"math/rand"
	"slices"
	"strings"
	"testing"

	"loop.example/g03224/impl"
)

func TestTextsOfDrawnPrograms(t *testing.T) {
	for _, p := range drawnPrograms(3000) {
		text, ok := textOfProgram(p)
		wantBool(t, "a program", ok, true)
		programTexts().want(t, p, text)
		for _, x := range p.Code {
			text, _ := textOfInstr(x)
			instrTexts().want(t, x, text)
		}
	}
}

func TestTextsOfDrawnNetworks(t *testing.T) {
	random := rand.New(rand.NewSource(51))
	valid, others := 0, 0
	for _, n := range slices.Concat(smallNetworks(500), drawnNetworks(1000)) {
		for range 3 {
			text, ok := textOfNetwork(n)
			if ok {
				valid++
				networkTexts().want(t, n, text)
			} else {
				others++
				wantText(t, "no network", impl.FormatNetwork(n), "")
				networkTexts().check(t, text)
			}
			n = cloneNetwork(n)
			drawnChange(random, &n)
		}
	}
	if valid < 1500 || others < 1500 {
		t.Errorf("%d networks are valid, and %d are not", valid, others)
	}
}

// drawnStateChange makes one small change, after which a state need not be valid.
func drawnStateChange(random *rand.Rand, s *impl.State) {
	lists := [][][]int{s.Queues, s.Sent}[random.Intn(2)]
	switch random.Intn(6) {
	case 0:
		s.Steps = []int{-1, 0, 20000, 20001}[random.Intn(4)]
	case 1:
		if len(s.Actors) > 0 {
			s.Actors[random.Intn(len(s.Actors))].Pc += random.Intn(9) - 4
		}
	case 2:
		if len(s.Actors) > 0 {
			s.Actors[random.Intn(len(s.Actors))].Regs[random.Intn(4)] = drawnToken(random) * (1 + random.Intn(2))
		}
	case 3:
		if len(lists) > 0 {
			k := random.Intn(len(lists))
			lists[k] = append(lists[k], drawnToken(random))
		}
	case 4:
		if len(lists) > 0 {
			k := random.Intn(len(lists))
			lists[k] = lists[k][min(1, len(lists[k])):]
		}
	case 5:
		s.Actors = append(s.Actors, actor(0))
	}
}

func TestTextsOfDrawnStates(t *testing.T) {
	random := rand.New(rand.NewSource(52))
	valid, others := 0, 0
	for _, c := range runCases(random) {
		text, ok := textOfState(c.n, c.s)
		wantBool(t, "a state", ok, true)
		stateTexts(c.n).want(t, c.s, text)
		changed := changedState(c.s, func(s *impl.State) { drawnStateChange(random, s) })
		text, ok = textOfState(c.n, changed)
		if ok {
			valid++
			stateTexts(c.n).want(t, changed, text)
		} else {
			others++
			wantText(t, "no state", impl.FormatState(c.n, changed), "")
			stateTexts(c.n).check(t, text)
		}
	}
	if valid < 300 || others < 800 {
		t.Errorf("%d changed states are valid, and %d are not", valid, others)
	}
}

func countAccepted(texts []string, accepts func(text string) bool) int {
	accepted := 0
	for _, text := range texts {
		if accepts(text) {
			accepted++
		}
	}
	return accepted
}

// TestAllTextsOfPieces has every text that consists of few pieces of each kind.
func TestAllTextsOfPieces(t *testing.T) {
	// There are a halt, jumps to 0, 3 and 24, reads into 2 registers from 1 port, and 3 tokens that are put into 2 registers.
	words := []string{"read", "set", "add", "jump", "halt", " ", "0", "3", "-", "24"}
	got := countAccepted(madeOf(words, 5), instrTexts().accepts(t))
	wantCount(t, "instructions", got, 1+3+2*1+2*3)
	// With 3 times 3 numbers of ports, up to 3 jumps, or a halt with or without a jump on one of its sides;
	// so, too, for a read, where there is an input port.
	parts := []string{"0", "1", "3", ";", "halt", "read 0 0", ";jump 1", " "}
	got = countAccepted(madeOf(parts, 6), programTexts().accepts(t))
	wantCount(t, "programs", got, 9*(3+3)+6*3)
	// Up to 5 processes without ports, or none; one with both ports in front of others, with a link to itself, or with
	// an input and an output in any order; two of them, with a link in each direction, in front of another one or not;
	// a sink in front of others, or behind a process that has an input.
	lines := []string{"process 1;1;halt\n", "process 0;0;halt\n", "process 1;0;halt", "link -1 0 0 0 .\n", "link 0 0 -1 0 5\n",
		"link 0 0 0 0 1,2\n", "link 0 0 1 0 .\n", "link 1 0 0 0 .\n", "\n"}
	got = countAccepted(madeOf(lines, 5), networkTexts().accepts(t))
	wantCount(t, "networks", got, 6+4+3*2+2*2+3+2)
	// Two numbers of steps, two actors, two queues of the input, and three of the output.
	n := network([]string{"through"}, link(-1, 0, 0, 0, 1, 2), link(0, 0, -1, 0))
	lines = []string{"steps 0\n", "steps 9", "actor 0 0,0,0,0\n", "actor 3 1,0,0,9\n", "queue 1,2 1,2\n", "queue 2 1,2\n", "queue . .\n", "queue 1 1\n", "\n"}
	got = countAccepted(madeOf(lines, 5), stateTexts(n).accepts(t))
	wantCount(t, "states", got, 2*2*2*3)
}

// almost is how many of the texts that differ from one by a change of one byte are accepted, too, and how many there are.
func almost(t *testing.T, text string, accepts func(text string) bool) (int, int) {
	t.Helper()
	wantBool(t, text, accepts(text), true)
	// That a byte becomes the one that it was is no change.
	texts := slices.DeleteFunc(oneByteOff(text), func(other string) bool { return other == text })
	return countAccepted(texts, accepts), len(texts)
}

// wantSome has texts with numbers that may be others.
func wantSome(t *testing.T, text string, accepts func(text string) bool) {
	t.Helper()
	if got, all := almost(t, text, accepts); got == 0 || got > all/2 {
		t.Errorf("%q: %d of %d texts that are almost the same are accepted", text, got, all)
	}
}

func TestTextsOneByteOff(t *testing.T) {
	for _, form := range opForms() {
		text := form.name
		for _, kind := range []byte(form.operands) {
			if least, most := boundsOf(kind); kind != '-' {
				text += " " + textOfStream([]int{min(least+1, most)})
			}
		}
		accepts := instrTexts().accepts(t)
		if form.op != impl.OpHalt {
			wantSome(t, text, accepts)
			continue
		}
		got, _ := almost(t, text, accepts)
		wantCount(t, text, got, 0)
	}
	for _, name := range sampleNames {
		text, _ := textOfProgram(impl.SampleProgram(name))
		wantSome(t, text, programTexts().accepts(t))
	}
	n, s := middle()
	for _, c := range []runCase{{n, s}, {crossed(), crossedState()}} {
		text, _ := textOfNetwork(c.n)
		wantSome(t, text, networkTexts().accepts(t))
		text, _ = textOfState(c.n, c.s)
		wantSome(t, text, stateTexts(c.n).accepts(t))
	}
	// Of the texts of one byte, none describes anything.
	for _, text := range oneByteOff("") {
		wantBool(t, text, networkTexts().check(t, text) || stateTexts(impl.Network{}).check(t, text), false)
	}
}

func TestDamagedTexts(t *testing.T) {
	random := rand.New(rand.NewSource(53))
	programs, networks, states := 0, 0, 0
	for _, p := range drawnPrograms(300) {
		text, _ := textOfProgram(p)
		for _, text := range damaged(random, text, 60) {
			if programTexts().check(t, text) {
				programs++
			}
		}
	}
	for _, n := range slices.Concat(smallNetworks(200), drawnNetworks(100)) {
		text, _ := textOfNetwork(n)
		for _, text := range damaged(random, text, 60) {
			if networkTexts().check(t, text) {
				networks++
			}
		}
		s := drawnState(random, n)
		text, _ = textOfState(n, s)
		for _, text := range damaged(random, text, 40) {
			if stateTexts(n).check(t, text) {
				states++
			}
		}
	}
	if programs < 1000 || networks < 1000 || states < 500 {
		t.Errorf("%d programs, %d networks and %d states are described by damaged texts", programs, networks, states)
	}
}

// rewritten writes a network and its state down, and reads them. No run from another state need come to an end.
func rewritten(t *testing.T, n impl.Network, s impl.State) (impl.Network, impl.State) {
	t.Helper()
	text := impl.FormatNetwork(n)
	other, ok := impl.ParseNetwork(text)
	if !ok || !sameNetwork(other, n) {
		t.Fatalf("%q: got %v, %v, want %v", text, other, ok, n)
	}
	text = impl.FormatState(other, s)
	state, ok := impl.ParseState(other, text)
	if !ok || !sameState(state, s) {
		t.Fatalf("%q: got %v, %v, want %v", text, state, ok, s)
	}
	return other, state
}

// P5 for runs that are written down and read between their steps.
func TestRunsThatAreWrittenDown(t *testing.T) {
	random := rand.New(rand.NewSource(54))
	ended, most := 0, 0
	for _, n := range settlingNetworks(400) {
		least, _, _ := impl.LeastStreams(n)
		schedule := drawnSchedule(random, len(n.Programs), 400)
		want, _ := impl.RunSchedule(n, impl.StartState(n), schedule)
		other, s := rewritten(t, n, impl.StartState(n))
		for from := 0; from < len(schedule); {
			to := min(from+1+random.Intn(60), len(schedule))
			s, _ = impl.RunSchedule(other, s, schedule[from:to])
			other, s = rewritten(t, other, s)
			from = to
		}
		wantState(t, "a schedule", s, want)
		want, _ = impl.RunTurns(n, want, 20000)
		if want.Steps == 20000 {
			continue
		}
		for !impl.IsQuiet(other, s) {
			s, _ = impl.RunEager(other, s, 1+random.Intn(500))
			other, s = rewritten(t, other, s)
			s, _ = impl.RunTurns(other, s, 1+random.Intn(500))
			other, s = rewritten(t, other, s)
		}
		ended++
		most = max(most, s.Steps)
		wantState(t, "in the end", s, want)
		wantStreams(t, "in the end", s.Sent, true, least...)
	}
	if ended < 150 || most < 300 {
		t.Errorf("%d networks became quiet, after at most %d steps", ended, most)
	}
}

// The state is written down and read before every single step.
func TestStepsThatAreWrittenDown(t *testing.T) {
	steps := 0
	for _, n := range settlingNetworks(100) {
		s := impl.StartState(n)
		hand := byHand{n, startByHand(n)}
		for k := 0; k < 10*len(n.Programs); k++ {
			other, state := rewritten(t, n, s)
			process := k % len(n.Programs)
			next, ok := impl.StepNetwork(other, state, process)
			wantBool(t, "a step", ok, hand.can(process))
			if !ok {
				continue
			}
			hand.step(process)
			s = next
			steps++
		}
		wantState(t, "step by step", s, hand.s)
	}
	if steps < 500 {
		t.Errorf("only %d steps were made", steps)
	}
}

// Other values have other texts, and a network with no processes and no links is the only one whose text is empty.
func TestTextsTellValuesApart(t *testing.T) {
	networks := map[string]impl.Network{}
	for _, n := range slices.Concat(smallNetworks(500), drawnNetworks(500)) {
		text := impl.FormatNetwork(n)
		if other, met := networks[text]; met && !sameNetwork(n, other) {
			t.Errorf("%v and %v have the same text", n, other)
		}
		networks[text] = n
		wantBool(t, "an empty text", text == "", len(n.Programs) == 0 && len(n.Links) == 0)
		wantCount(t, "lines", strings.Count(text, "\n"), len(n.Programs)+len(n.Links))
	}
	if len(networks) < 800 {
		t.Errorf("only %d texts", len(networks))
	}
}
