package tests

import (
	"math/rand"
	"slices"
	"testing"

	"loop.example/g03224/impl"
)

// isNetworkByCounting counts the links at each port, as the document says it.
func isNetworkByCounting(n impl.Network) bool {
	if len(n.Programs) > 12 || len(n.Links) > 30 || slices.ContainsFunc(n.Programs, func(p impl.Program) bool { return !impl.IsProgram(p) }) {
		return false
	}
	ends := 0
	for k, p := range n.Programs {
		for port := range p.Ins {
			if countOf(n, func(l impl.Link) bool { return l.To == k && l.In == port }) != 1 {
				return false
			}
		}
		for port := range p.Outs {
			if countOf(n, func(l impl.Link) bool { return l.From == k && l.Out == port }) != 1 {
				return false
			}
		}
		ends += p.Ins + p.Outs
	}
	for _, l := range n.Links {
		if !impl.IsStream(l.Tokens) || l.From == -1 && l.To == -1 {
			return false
		}
	}
	inputs := countOf(n, func(l impl.Link) bool { return l.From == -1 && l.Out == 0 })
	outputs := countOf(n, func(l impl.Link) bool { return l.To == -1 && l.In == 0 })
	return ends+inputs+outputs == 2*len(n.Links)
}

func countOf(n impl.Network, holds func(impl.Link) bool) int {
	count := 0
	for _, l := range n.Links {
		if holds(l) {
			count++
		}
	}
	return count
}

// drawnChange makes one small change, after which a network is seldom valid.
func drawnChange(random *rand.Rand, n *impl.Network) {
	if len(n.Links) == 0 || len(n.Programs) == 0 {
		n.Links = append(n.Links, link(random.Intn(3)-1, 0, random.Intn(3)-1, 0))
		return
	}
	l := &n.Links[random.Intn(len(n.Links))]
	other := &n.Links[random.Intn(len(n.Links))]
	switch random.Intn(9) {
	case 0:
		l.From += random.Intn(3) - 1
	case 1:
		l.Out += random.Intn(3) - 1
	case 2:
		l.To += random.Intn(3) - 1
	case 3:
		l.In += random.Intn(3) - 1
	case 4:
		l.To, l.In, other.To, other.In = other.To, other.In, l.To, l.In
	case 5:
		l.From, l.Out = -1, 0
	case 6:
		n.Links = append(n.Links, *other)
	case 7:
		n.Programs[random.Intn(len(n.Programs))].Outs += random.Intn(3) - 1
	case 8:
		n.Programs[random.Intn(len(n.Programs))].Ins += random.Intn(3) - 1
	}
}

func TestNetworksByCounting(t *testing.T) {
	random := rand.New(rand.NewSource(10))
	valid, others := 0, 0
	for _, n := range drawnNetworks(2000) {
		for range 3 {
			want := isNetworkByCounting(n)
			if got := impl.IsNetwork(n); got != want {
				t.Fatalf("IsNetwork(%v): got %v", n, got)
			}
			if want {
				valid++
			} else {
				others++
			}
			drawnChange(random, &n)
		}
	}
	if valid < 500 || others < 500 {
		t.Errorf("%d networks and %d others were drawn", valid, others)
	}
}

func TestEndsOfDrawnNetworks(t *testing.T) {
	for _, n := range drawnNetworks(500) {
		var inputs, outputs []int
		for k, l := range n.Links {
			if l.From == -1 {
				inputs = append(inputs, k)
			} else {
				got, ok := impl.LinkFrom(n, l.From, l.Out)
				wantIndex(t, "from", got, ok, k)
			}
			if l.To == -1 {
				outputs = append(outputs, k)
			} else {
				got, ok := impl.LinkTo(n, l.To, l.In)
				wantIndex(t, "to", got, ok, k)
			}
		}
		wantList(t, "inputs", impl.InputsOf(n), inputs...)
		wantList(t, "outputs", impl.OutputsOf(n), outputs...)
		for k, p := range n.Programs {
			got, ok := impl.LinkTo(n, k, p.Ins)
			wantNoIndex(t, "behind the input ports", got, ok)
			got, ok = impl.LinkFrom(n, k, p.Outs)
			wantNoIndex(t, "behind the output ports", got, ok)
		}
	}
}

// moved is the index that a process has in another order; outside stays outside.
func moved(order []int, process int) int {
	if process == -1 {
		return -1
	}
	return slices.Index(order, process)
}

func TestRenumberedNetworks(t *testing.T) {
	random := rand.New(rand.NewSource(11))
	for _, n := range drawnNetworks(500) {
		order := random.Perm(len(n.Programs))
		want := cloneNetwork(n)
		back := make([]int, len(order))
		for k, process := range order {
			want.Programs[k] = n.Programs[process]
			back[process] = k
		}
		for i, l := range n.Links {
			want.Links[i].From, want.Links[i].To = moved(order, l.From), moved(order, l.To)
		}
		got, ok := impl.PermuteNetwork(n, order)
		wantNetwork(t, "permuted", got, ok, want)
		again, ok := impl.PermuteNetwork(got, back)
		wantNetwork(t, "permuted back", again, ok, n)
		if impl.HasCycle(got) != impl.HasCycle(n) {
			t.Errorf("%v has other cycles than %v", got, n)
		}
		for k, process := range order {
			reached, _ := impl.ReachedFrom(n, process)
			for i, other := range reached {
				reached[i] = back[other]
			}
			slices.Sort(reached)
			found, ok := impl.ReachedFrom(got, k)
			wantListOk(t, "reached in another order", found, ok, reached...)
		}
	}
}

func TestJoinedNetworks(t *testing.T) {
	joined := 0
	networks := drawnNetworks(600)
	for i, a := range networks {
		b := networks[(i+1)%len(networks)]
		count := len(a.Programs)
		want := cloneNetwork(a)
		want.Programs = append(want.Programs, b.Programs...)
		for _, l := range b.Links {
			if l.From != -1 {
				l.From += count
			}
			if l.To != -1 {
				l.To += count
			}
			want.Links = append(want.Links, l)
		}
		got, ok := impl.JoinNetworks(a, b)
		if len(want.Programs) > 12 || len(want.Links) > 30 {
			wantNoNetwork(t, "too large", got, ok)
			continue
		}
		joined++
		wantNetwork(t, "joined", got, ok, want)
		for k := range want.Programs {
			reached, _ := impl.ReachedFrom(a, k)
			if k >= count {
				reached, _ = impl.ReachedFrom(b, k-count)
				for i := range reached {
					reached[i] += count
				}
			}
			found, ok := impl.ReachedFrom(got, k)
			wantListOk(t, "reached in joined networks", found, ok, reached...)
		}
		if impl.HasCycle(got) != (impl.HasCycle(a) || impl.HasCycle(b)) {
			t.Errorf("%v has other cycles than its parts", got)
		}
	}
	if joined < 100 {
		t.Errorf("only %d networks were joined", joined)
	}
}

func TestFedNetworks(t *testing.T) {
	random := rand.New(rand.NewSource(12))
	for _, n := range drawnNetworks(500) {
		for k := range n.Links {
			tokens := drawnStream(random, 5)
			want := cloneNetwork(n)
			want.Links[k].Tokens = append(want.Links[k].Tokens, tokens...)
			got, ok := impl.FeedNetwork(n, k, tokens)
			wantNetwork(t, "fed", got, ok, want)
			half := random.Intn(len(tokens) + 1)
			first, _ := impl.FeedNetwork(n, k, tokens[:half])
			got, ok = impl.FeedNetwork(first, k, tokens[half:])
			wantNetwork(t, "fed twice", got, ok, want)
		}
	}
}

func TestChainedNetworks(t *testing.T) {
	random := rand.New(rand.NewSource(13))
	for range 200 {
		programs := make([]impl.Program, 1+random.Intn(12))
		for i := range programs {
			programs[i] = drawnProgram(random, 1, 1)
		}
		tokens := drawnStream(random, 20)
		want := impl.Network{Programs: programs, Links: []impl.Link{link(-1, 0, 0, 0, tokens...)}}
		for k := 1; k < len(programs); k++ {
			want.Links = append(want.Links, link(k-1, 0, k, 0))
		}
		want.Links = append(want.Links, link(len(programs)-1, 0, -1, 0))
		got, ok := impl.ChainNetwork(programs, tokens)
		wantNetwork(t, "chained", got, ok, want)
		for k := range programs {
			reached, ok := impl.ReachedFrom(got, k)
			wantListOk(t, "reached in a chain", reached, ok, ramp(k+1, len(programs)-k-1)...)
		}
	}
}

// reachedBy tells which processes are reached from which, by ways over one process more each time.
func reachedBy(n impl.Network) [12][12]bool {
	var reached [12][12]bool
	for _, l := range n.Links {
		if l.From != -1 && l.To != -1 {
			reached[l.From][l.To] = true
		}
	}
	for over := range 12 {
		for from := range 12 {
			for to := range 12 {
				if reached[from][over] && reached[over][to] {
					reached[from][to] = true
				}
			}
		}
	}
	return reached
}

func TestReachedThroughLinks(t *testing.T) {
	cycles, others := 0, 0
	for _, n := range drawnNetworks(1000) {
		reached := reachedBy(n)
		cycle := false
		for from := range n.Programs {
			var want []int
			for to, is := range reached[from] {
				if is {
					want = append(want, to)
				}
			}
			got, ok := impl.ReachedFrom(n, from)
			wantListOk(t, "reached", got, ok, want...)
			cycle = cycle || reached[from][from]
		}
		if impl.HasCycle(n) != cycle {
			t.Errorf("HasCycle(%v): got %v", n, !cycle)
		}
		if cycle {
			cycles++
		} else {
			others++
		}
	}
	if cycles < 200 || others < 200 {
		t.Errorf("%d networks with a cycle and %d without were drawn", cycles, others)
	}
}
