package tests

import (
	"fmt"
	"math"
	"math/big"
	"math/rand"
	"slices"
	"testing"

	"loop.example/g03224/impl"
)

func edge(from, to, makes, takes, tokens int) impl.Edge {
	return impl.Edge{From: from, To: to, Make: makes, Take: takes, Tokens: tokens}
}

func graph(nodes int, edges ...impl.Edge) impl.Graph {
	return impl.Graph{Nodes: nodes, Edges: edges}
}

// triangle has nodes that fire 3, 2 and 6 times, two edges between the same nodes and one from a node to itself.
func triangle() impl.Graph {
	return graph(3, edge(0, 1, 2, 3, 0), edge(1, 2, 3, 1, 1), edge(2, 0, 1, 2, 4), edge(2, 2, 2, 2, 2), edge(1, 2, 3, 1, 0))
}

// fullGraph has as many nodes, edges and tokens as there may be, and the greatest rates.
func fullGraph() impl.Graph {
	g := graph(8)
	for k := range 8 {
		g.Edges = append(g.Edges, edge(k, (k+1)%8, 5, 5, 50), edge(k, (k+1)%8, 5, 5, 50))
	}
	return g
}

// narrowed is a chain of nodes that fire less and less often: the rates tell how many tokens each of them takes.
func narrowed(rates ...int) impl.Graph {
	g := graph(len(rates) + 1)
	for k, rate := range rates {
		g.Edges = append(g.Edges, edge(k, k+1, 1, rate, 0))
	}
	return g
}

// renamed is a graph whose node k is the node order[k] of g, with the same edges.
func renamed(g impl.Graph, order []int) impl.Graph {
	out := impl.Graph{Nodes: g.Nodes}
	for _, e := range g.Edges {
		e.From, e.To = slices.Index(order, e.From), slices.Index(order, e.To)
		out.Edges = append(out.Edges, e)
	}
	return out
}

// besides is the graph with the nodes and edges of g and then those of h.
func besides(g, h impl.Graph) impl.Graph {
	out := impl.Graph{Nodes: g.Nodes + h.Nodes, Edges: slices.Clone(g.Edges)}
	for _, e := range h.Edges {
		e.From, e.To = g.Nodes+e.From, g.Nodes+e.To
		out.Edges = append(out.Edges, e)
	}
	return out
}

// noGraphs are graphs that are not valid, each for one reason.
func noGraphs() map[string]impl.Graph {
	out := map[string]impl.Graph{
		"nodes below 0":     graph(-1),
		"nodes far below 0": graph(math.MinInt),
		"too many nodes":    graph(9),
		"far too many":      graph(math.MaxInt),
		"an edge of none":   graph(0, edge(0, 0, 1, 1, 0)),
		"too many edges":    graph(2, slices.Repeat([]impl.Edge{edge(0, 1, 1, 1, 0)}, 17)...),
		"an edge too many":  graph(8, append(fullGraph().Edges, edge(0, 0, 5, 5, 50))...),
	}
	bad := []struct {
		label  string
		part   func(*impl.Edge) *int
		values []int
	}{
		{"From", func(e *impl.Edge) *int { return &e.From }, []int{math.MinInt, -1, 3, 8, math.MaxInt}},
		{"To", func(e *impl.Edge) *int { return &e.To }, []int{math.MinInt, -1, 3, 8, math.MaxInt}},
		{"Make", func(e *impl.Edge) *int { return &e.Make }, []int{math.MinInt, -1, 0, 6, math.MaxInt}},
		{"Take", func(e *impl.Edge) *int { return &e.Take }, []int{math.MinInt, -1, 0, 6, math.MaxInt}},
		{"Tokens", func(e *impl.Edge) *int { return &e.Tokens }, []int{math.MinInt, -1, 51, math.MaxInt}},
	}
	for _, b := range bad {
		for _, value := range b.values {
			for k := range triangle().Edges {
				g := triangle()
				*b.part(&g.Edges[k]) = value
				out[fmt.Sprintf("%s %d of edge %d", b.label, value, k)] = g
			}
		}
	}
	return out
}

func wantFirings(t *testing.T, label string, g impl.Graph, schedule []int, end, peaks []int) {
	t.Helper()
	gotEnd, gotPeaks, ok := impl.RunFirings(g, schedule)
	if !ok || !slices.Equal(gotEnd, end) || !slices.Equal(gotPeaks, peaks) {
		t.Errorf("%s: got %v, %v, %v, want %v, %v", label, gotEnd, gotPeaks, ok, end, peaks)
	}
}

func wantNoFirings(t *testing.T, label string, g impl.Graph, schedule []int) {
	t.Helper()
	end, peaks, ok := impl.RunFirings(g, schedule)
	wantNothing(t, label, end, ok)
	wantNothing(t, label, peaks, ok)
}

func wantLoops(t *testing.T, label string, schedule []int, want ...impl.Loop) {
	t.Helper()
	if got := impl.CompressSchedule(schedule); !slices.Equal(got, want) {
		t.Errorf("%s: got %v, want %v", label, got, want)
	}
}

// repetitionByHand finds the numbers as fractions, from the first node of each part, and makes whole numbers of them.
func repetitionByHand(g impl.Graph) ([]int, bool) {
	out := make([]int, g.Nodes)
	for first := range g.Nodes {
		if out[first] > 0 {
			continue
		}
		part, ok := partByHand(g, first)
		if !ok {
			return nil, false
		}
		common, whole := big.NewInt(0), big.NewInt(1)
		for _, f := range part {
			gcd := new(big.Int).GCD(nil, nil, whole, f.Denom())
			whole.Mul(whole, new(big.Int).Div(f.Denom(), gcd))
		}
		for k, f := range part {
			f.Mul(f, new(big.Rat).SetInt(whole))
			part[k] = f
			common.GCD(nil, nil, common, f.Num())
		}
		for k, f := range part {
			number := new(big.Int).Div(f.Num(), common)
			if number.Cmp(big.NewInt(200)) > 0 {
				return nil, false
			}
			out[k] = int(number.Int64())
		}
	}
	return out, true
}

// partByHand gives each node of a part a fraction, of which the one of its first node is 1.
func partByHand(g impl.Graph, first int) (map[int]*big.Rat, bool) {
	part := map[int]*big.Rat{first: big.NewRat(1, 1)}
	for range g.Edges {
		for _, e := range g.Edges {
			from, to := part[e.From], part[e.To]
			if from == nil && to != nil {
				part[e.From] = new(big.Rat).Mul(to, big.NewRat(int64(e.Take), int64(e.Make)))
			}
			if from != nil && to == nil {
				part[e.To] = new(big.Rat).Mul(from, big.NewRat(int64(e.Make), int64(e.Take)))
			}
		}
	}
	for _, e := range g.Edges {
		from, to := part[e.From], part[e.To]
		if from == nil {
			continue
		}
		made, taken := new(big.Rat).Mul(from, big.NewRat(int64(e.Make), 1)), new(big.Rat).Mul(to, big.NewRat(int64(e.Take), 1))
		if made.Cmp(taken) != 0 {
			return nil, false
		}
	}
	return part, true
}

func firstTokens(g impl.Graph) []int {
	var out []int
	for _, e := range g.Edges {
		out = append(out, e.Tokens)
	}
	return out
}

func firedByHand(g impl.Graph, tokens []int, k int) ([]int, bool) {
	after := slices.Clone(tokens)
	ok := k >= 0 && k < g.Nodes
	for i, e := range g.Edges {
		if e.To == k {
			ok = ok && tokens[i] >= e.Take
			after[i] -= e.Take
		}
		if e.From == k {
			after[i] += e.Make
		}
	}
	return after, ok
}

// scheduleByHand returns as much of a schedule as there is, and whether it is a whole one.
func scheduleByHand(g impl.Graph) ([]int, bool) {
	repetition, ok := repetitionByHand(g)
	if !ok {
		return nil, false
	}
	var schedule []int
	tokens, fired := firstTokens(g), repeated(0, g.Nodes)
	for {
		next, after := -1, []int(nil)
		for k := g.Nodes - 1; k >= 0; k-- {
			if now, can := firedByHand(g, tokens, k); can && fired[k] < repetition[k] {
				next, after = k, now
			}
		}
		if next < 0 {
			return schedule, slices.Equal(fired, repetition)
		}
		tokens = after
		fired[next]++
		schedule = append(schedule, next)
	}
}

// firingsByHand returns the tokens at the end, and the greatest numbers of them.
func firingsByHand(g impl.Graph, schedule []int) ([]int, []int, bool) {
	tokens, peaks := firstTokens(g), firstTokens(g)
	for _, k := range schedule {
		after, can := firedByHand(g, tokens, k)
		if !can {
			return nil, nil, false
		}
		tokens = after
		for i := range peaks {
			peaks[i] = max(peaks[i], tokens[i])
		}
	}
	return tokens, peaks, true
}

// networkByHand counts the ports of all nodes while it goes through the edges.
func networkByHand(g impl.Graph) (impl.Network, bool) {
	n := impl.Network{Programs: make([]impl.Program, g.Nodes)}
	writes := make([][]impl.Instr, g.Nodes)
	for _, e := range g.Edges {
		from, to := &n.Programs[e.From], &n.Programs[e.To]
		n.Links = append(n.Links, link(e.From, from.Outs, e.To, to.Ins, repeated(0, e.Tokens)...))
		for range e.Make {
			writes[e.From] = append(writes[e.From], in(impl.OpWrite, 0, from.Outs))
		}
		for range e.Take {
			to.Code = append(to.Code, in(impl.OpRead, 0, to.Ins))
		}
		from.Outs++
		to.Ins++
	}
	for k := range n.Programs {
		p := &n.Programs[k]
		p.Code = append(append(p.Code, writes[k]...), in(impl.OpJump))
		if p.Ins > 3 || p.Outs > 3 || len(p.Code) > 24 {
			return impl.Network{}, false
		}
	}
	return n, true
}

// drawnGraph has a repetition for the most part, and often tokens enough.
func drawnGraph(random *rand.Rand) impl.Graph {
	g := graph(random.Intn(9))
	numbers := make([]int, g.Nodes)
	for k := range numbers {
		numbers[k] = []int{1, 1, 2, 2, 3, 4, 5, 6, 10, 12}[random.Intn(10)]
	}
	most := []int{2, 5, 8, 16}[random.Intn(4)]
	for range most * min(g.Nodes, 1) {
		e := edge(random.Intn(g.Nodes), random.Intn(g.Nodes), 1, 1, 0)
		common := int(new(big.Int).GCD(nil, nil, big.NewInt(int64(numbers[e.From])), big.NewInt(int64(numbers[e.To]))).Int64())
		e.Make, e.Take = numbers[e.To]/common, numbers[e.From]/common
		if random.Intn(60) == 0 {
			e.Make, e.Take = 1+random.Intn(5), 1+random.Intn(5)
		}
		if e.Make > 5 || e.Take > 5 {
			continue
		}
		times := 1 + random.Intn(5/max(e.Make, e.Take))
		e.Make, e.Take = e.Make*times, e.Take*times
		if e.From >= e.To {
			e.Tokens = []int{50, random.Intn(51), e.Take * random.Intn(6)}[random.Intn(3)]
		} else {
			e.Tokens = []int{0, 0, random.Intn(4), random.Intn(51)}[random.Intn(4)]
		}
		g.Edges = append(g.Edges, e)
	}
	return renamed(g, random.Perm(g.Nodes))
}

// drawnGraphs are the same ones in each run.
func drawnGraphs(count int) []impl.Graph {
	random := rand.New(rand.NewSource(40))
	out := make([]impl.Graph, count)
	for i := range out {
		out[i] = drawnGraph(random)
	}
	return out
}
