package tests

import (
	"math/rand"
	"slices"
	"testing"

	"loop.example/g03224/impl"
)

func sameState(x, y impl.State) bool {
	return slices.EqualFunc(x.Actors, y.Actors, sameActor) && sameLists(x.Queues, y.Queues) &&
		sameLists(x.Sent, y.Sent) && x.Steps == y.Steps
}

func cloneState(s impl.State) impl.State {
	out := impl.State{Actors: slices.Clone(s.Actors), Queues: cloneLists(s.Queues), Sent: cloneLists(s.Sent), Steps: s.Steps}
	for k, a := range s.Actors {
		out.Actors[k].Regs = slices.Clone(a.Regs)
	}
	return out
}

// changedState is a copy of a state with one change.
func changedState(s impl.State, change func(*impl.State)) impl.State {
	out := cloneState(s)
	change(&out)
	return out
}

func wantState(t *testing.T, label string, got, want impl.State) {
	t.Helper()
	if !sameState(got, want) {
		t.Errorf("%s: got %v, want %v", label, got, want)
	}
}

func wantBool(t *testing.T, label string, got, want bool) {
	t.Helper()
	if got != want {
		t.Errorf("%s: got %v, want %v", label, got, want)
	}
}

func wantCount(t *testing.T, label string, got, want int) {
	t.Helper()
	if got != want {
		t.Errorf("%s: got %d, want %d", label, got, want)
	}
}

// wantNoRuns looks at all the functions of a state that return the zero value if it is not valid.
func wantNoRuns(t *testing.T, label string, n impl.Network, s impl.State) {
	t.Helper()
	wantBool(t, label+": IsState", impl.IsState(n, s), false)
	wantBool(t, label+": IsQuiet", impl.IsQuiet(n, s), false)
	for _, k := range []int{-1, 0, 1} {
		wantBool(t, label+": CanStep", impl.CanStep(n, s, k), false)
		got, ok := impl.StepNetwork(n, s, k)
		wantState(t, label+": StepNetwork", got, impl.State{})
		wantBool(t, label+": StepNetwork", ok, false)
	}
	for _, most := range []int{-1, 0, 5} {
		got, quiet := impl.RunTurns(n, s, most)
		wantState(t, label+": RunTurns", got, impl.State{})
		wantBool(t, label+": RunTurns", quiet, false)
		got, quiet = impl.RunEager(n, s, most)
		wantState(t, label+": RunEager", got, impl.State{})
		wantBool(t, label+": RunEager", quiet, false)
		got, made := impl.RunSchedule(n, s, repeated(0, max(most, 0)))
		wantState(t, label+": RunSchedule", got, impl.State{})
		wantCount(t, label+": RunSchedule", made, 0)
		for _, count := range []int{-1, 0, 1} {
			got, met := impl.RunDemand(n, s, 0, count, most)
			wantState(t, label+": RunDemand", got, impl.State{})
			wantBool(t, label+": RunDemand", met, false)
		}
	}
	wantList(t, label+": BlockedOn", impl.BlockedOn(n, s))
}

// byHand follows the words of the chapter, with StepActor alone.
type byHand struct {
	n impl.Network
	s impl.State
}

func startByHand(n impl.Network) impl.State {
	s := impl.State{Queues: tokensOf(n), Sent: tokensOf(n)}
	for range n.Programs {
		s.Actors = append(s.Actors, impl.Actor{Regs: repeated(0, 4)})
	}
	return s
}

// next is what the process k wants, and the link from which it wants to read or to which it wants to write.
func (h *byHand) next(k int) (int, int) {
	want, port := impl.WantOf(h.n.Programs[k], h.s.Actors[k])
	for i, l := range h.n.Links {
		if want == impl.WantRead && l.To == k && l.In == port || want == impl.WantWrite && l.From == k && l.Out == port {
			return want, i
		}
	}
	return want, -1
}

func (h *byHand) can(k int) bool {
	if k < 0 || k >= len(h.n.Programs) || h.s.Steps >= 20000 {
		return false
	}
	want, link := h.next(k)
	return want == impl.WantStep || want == impl.WantRead && len(h.s.Queues[link]) > 0 ||
		want == impl.WantWrite && len(h.s.Sent[link]) < 400
}

func (h *byHand) step(k int) {
	want, link := h.next(k)
	token := 0
	if want == impl.WantRead {
		token, h.s.Queues[link] = h.s.Queues[link][0], h.s.Queues[link][1:]
	}
	next, written, _ := impl.StepActor(h.n.Programs[k], h.s.Actors[k], token)
	h.s.Actors[k] = next
	if want == impl.WantWrite {
		h.s.Queues[link] = append(h.s.Queues[link], written)
		h.s.Sent[link] = append(h.s.Sent[link], written)
	}
	h.s.Steps++
}

func (h *byHand) quiet() bool {
	return !slices.ContainsFunc(ramp(0, len(h.n.Programs)), h.can)
}

func (h *byHand) schedule(schedule []int) int {
	made := 0
	for _, k := range schedule {
		if h.can(k) {
			h.step(k)
			made++
		}
	}
	return made
}

func (h *byHand) turns(most int) {
	for made := 0; made < most && !h.quiet(); {
		for k := range h.n.Programs {
			if made < most && h.can(k) {
				h.step(k)
				made++
			}
		}
	}
}

func (h *byHand) eager(most int) {
	for range most {
		k := slices.IndexFunc(ramp(0, len(h.n.Programs)), h.can)
		if k < 0 {
			return
		}
		h.step(k)
	}
}

// demand keeps a list of the demands that are being met, and always looks at the last one.
func (h *byHand) demand(link, count, most int) bool {
	links, counts := []int{link}, []int{count}
	for made := 0; ; {
		last := len(links) - 1
		if len(h.s.Sent[links[last]]) >= counts[last] {
			if last == 0 {
				return true
			}
			links, counts = links[:last], counts[:last]
			continue
		}
		from := h.n.Links[links[last]].From
		if from < 0 || made >= most {
			return false
		}
		if h.can(from) {
			h.step(from)
			made++
			continue
		}
		want, next := h.next(from)
		if want != impl.WantRead || slices.Contains(links, next) {
			return false
		}
		links, counts = append(links, next), append(counts, len(h.s.Sent[next])+1)
	}
}

func (h *byHand) blocked() []int {
	out := repeated(-1, len(h.n.Programs))
	for k := range out {
		if want, link := h.next(k); want == impl.WantRead && len(h.s.Queues[link]) == 0 {
			out[k] = link
		}
	}
	return out
}

// drawnState is valid, but need not be one to which the network comes.
func drawnState(random *rand.Rand, n impl.Network) impl.State {
	s := impl.State{Sent: tokensOf(n), Queues: tokensOf(n)}
	for _, p := range n.Programs {
		a := impl.Actor{Pc: random.Intn(len(p.Code) + 1)}
		for range 4 {
			a.Regs = append(a.Regs, drawnToken(random))
		}
		s.Actors = append(s.Actors, a)
	}
	for k, l := range n.Links {
		if l.From >= 0 {
			s.Sent[k] = append(s.Sent[k], drawnStream(random, 6)...)
			if random.Intn(8) == 0 {
				s.Sent[k] = append(s.Sent[k], repeated(2, 400-len(s.Sent[k])-random.Intn(3))...)
			}
		}
		s.Queues[k] = slices.Clone(s.Sent[k])
		if l.To >= 0 {
			s.Queues[k] = s.Queues[k][random.Intn(len(s.Queues[k])+1):]
		}
	}
	s.Steps = random.Intn(200)
	if random.Intn(8) == 0 {
		s.Steps = 20000 - random.Intn(20)
	}
	return s
}

// drawnSchedule names processes at random, or the same ones many times, and some that there are not.
func drawnSchedule(random *rand.Rand, processes, length int) []int {
	var out []int
	for len(out) < length {
		times := 1
		if random.Intn(4) == 0 {
			times = 1 + random.Intn(30)
		}
		out = append(out, repeated(random.Intn(processes+2)-1, times)...)
	}
	return out[:length]
}

// scheduledToQuiet runs a network under drawn schedules until it is quiet, and looks at it on the way.
func scheduledToQuiet(random *rand.Rand, n impl.Network, s impl.State, look func(impl.State)) impl.State {
	for !impl.IsQuiet(n, s) {
		s, _ = impl.RunSchedule(n, s, drawnSchedule(random, len(n.Programs), 1+random.Intn(400)))
		look(s)
	}
	return s
}

// ends are ways to run a network from a state until it is quiet.
func ends(n impl.Network, s impl.State) map[string]impl.State {
	turns, _ := impl.RunTurns(n, s, 20000)
	eager, _ := impl.RunEager(n, s, 20000)
	// Every process is served before the ones in front of it.
	last := s
	for !impl.IsQuiet(n, last) {
		for k := len(n.Programs) - 1; k >= 0; k-- {
			last, _ = impl.RunSchedule(n, last, repeated(k, 20000))
		}
	}
	return map[string]impl.State{"turns": turns, "eager": eager, "the last one first": last}
}
