package tests

import (
	"math/rand"
	"slices"
	"testing"

	"loop.example/g03224/impl"
)

func areBelow(g, h [][]int) bool {
	return len(g) == len(h) && !slices.ContainsFunc(ramp(0, len(g)), func(i int) bool { return !impl.IsPrefix(g[i], h[i]) })
}

func prefixesOf(random *rand.Rand, lists [][]int) [][]int {
	out := make([][]int, len(lists))
	for i, s := range lists {
		out[i] = s[:random.Intn(len(s)+1)]
	}
	return out
}

func TestMoreInputWritesMore(t *testing.T) {
	random := rand.New(rand.NewSource(3))
	longer := 0
	for _, p := range drawnPrograms(4000) {
		more := drawnStreams(random, p.Ins, 30)
		less := prefixesOf(random, more)
		fuel := random.Intn(400)
		first, second := run(p, less, fuel), run(p, more, fuel)
		if !first.ok || !second.ok || !areBelow(first.outputs, second.outputs) {
			t.Fatalf("%v: %v of %v, but %v of %v", p, first, less, second, more)
		}
		for i, count := range first.used {
			if count > second.used[i] {
				t.Fatalf("%v: reads %v of %v, but %v of %v", p, first.used, less, second.used, more)
			}
		}
		if first.why != impl.WantRead && !sameRan(first, second) {
			t.Fatalf("%v does not wait: %v of %v, but %v of %v", p, first, less, second, more)
		}
		if !sameLists(first.outputs, second.outputs) {
			longer++
		}
	}
	if longer < 200 {
		t.Errorf("only %d programs wrote more", longer)
	}
}

func TestOnlyWhatIsReadCounts(t *testing.T) {
	random := rand.New(rand.NewSource(4))
	for _, p := range drawnPrograms(2000) {
		inputs := drawnStreams(random, p.Ins, 20)
		whole := run(p, inputs, 300)
		cut := make([][]int, p.Ins)
		for i, s := range inputs {
			cut[i] = s[:whole.used[i]]
		}
		if !sameRan(run(p, cut, 300), whole) {
			t.Fatalf("%v: %v of %v depends on more than was read", p, whole, inputs)
		}
	}
}

func TestMoreFuelWritesMore(t *testing.T) {
	random := rand.New(rand.NewSource(5))
	for _, p := range drawnPrograms(1000) {
		inputs := drawnStreams(random, p.Ins, 20)
		last := run(p, inputs, 0)
		for fuel := 1; fuel < 60; fuel++ {
			next := run(p, inputs, fuel)
			if !areBelow(last.outputs, next.outputs) || last.why != impl.WantStep && !sameRan(last, next) {
				t.Fatalf("%v: %v, but %v with more fuel", p, last, next)
			}
			last = next
		}
	}
}

// stepped runs a process by steps of its actor, and checks each of them.
func stepped(t *testing.T, p impl.Program, inputs [][]int, fuel int) ran {
	t.Helper()
	outputs, used := make([][]int, p.Outs), make([]int, p.Ins)
	actor := impl.NewActor(p)
	for {
		want, port := impl.WantOf(p, actor)
		if want == impl.WantHalt || want == impl.WantRead && used[port] == len(inputs[port]) || want == impl.WantWrite && len(outputs[port]) == 400 {
			return ran{outputs, used, want, true}
		}
		if fuel == 0 {
			return ran{outputs, used, impl.WantStep, true}
		}
		fuel--
		token := 0
		if want == impl.WantRead {
			token = inputs[port][used[port]]
			used[port]++
		}
		next, written, ok := impl.StepActor(p, actor, token)
		if !ok || !impl.IsActor(p, next) || want != impl.WantWrite && written != 0 {
			t.Fatalf("StepActor(%v, %v, %d): got %v, %d, %v", p, actor, token, next, written, ok)
		}
		if want == impl.WantWrite {
			outputs[port] = append(outputs[port], written)
		}
		actor = next
	}
}

func TestRunsAreMadeOfSteps(t *testing.T) {
	random := rand.New(rand.NewSource(6))
	ends := map[int]int{}
	for _, p := range drawnPrograms(2000) {
		inputs := drawnStreams(random, p.Ins, 30)
		fuel := random.Intn(2000)
		want := stepped(t, p, inputs, fuel)
		if got := run(p, inputs, fuel); !sameRan(got, want) {
			t.Fatalf("RunProcess(%v, %v, %d): got %v, want %v", p, inputs, fuel, got, want)
		}
		ends[want.why]++
	}
	if ends[impl.WantHalt] < 20 || ends[impl.WantStep] < 20 || ends[impl.WantRead] < 20 || ends[impl.WantWrite] < 20 {
		t.Errorf("the programs end as follows: %v", ends)
	}
}

func TestSamplesDoWhatStreamsDo(t *testing.T) {
	streams := append(smallStreams([]int{-2, 0, 5}, 4), someStreams(200)...)
	for _, s := range streams {
		even, odd := impl.SplitStream(s)
		single := map[string][][]int{
			"through": {s}, "copy": {s, s}, "sink": nil, "split": {even, odd},
			"sums": {impl.SumsOf(s)}, "steps": {impl.StepsOf(s)},
		}
		for name, want := range single {
			wantRan(t, name, run(impl.SampleProgram(name), [][]int{s}, 3000), impl.WantRead, []int{len(s)}, want...)
		}
		if held, ok := impl.HoldStream(s, 2); ok {
			wantRan(t, "twice", run(impl.SampleProgram("twice"), [][]int{s}, 3000), impl.WantRead, []int{len(s)}, held)
		}
	}
}

func TestSamplesOfTwoStreams(t *testing.T) {
	random := rand.New(rand.NewSource(7))
	for range 500 {
		a, b := drawnStream(random, 60), drawnStream(random, 60)
		count := min(len(a), len(b))
		sums := make([]int, count)
		for i := range sums {
			sums[i] = impl.WrapToken(a[i] + b[i])
		}
		first := min(len(a), count+1)
		wantRan(t, "add", run(impl.SampleProgram("add"), [][]int{a, b}, 3000), impl.WantRead, []int{first, count}, sums)
		wantRan(t, "alternate", run(impl.SampleProgram("alternate"), [][]int{a, b}, 3000), impl.WantRead, []int{first, count}, impl.AlternateStreams(a, b))
	}
}

func TestSamplePick(t *testing.T) {
	random := rand.New(rand.NewSource(8))
	for range 500 {
		inputs := drawnStreams(random, 3, 40)
		used := make([]int, 3)
		var want []int
		for _, choice := range inputs[0] {
			used[0]++
			port := 2
			if choice == 0 {
				port = 1
			}
			if used[port] == len(inputs[port]) {
				break
			}
			want = append(want, inputs[port][used[port]])
			used[port]++
		}
		wantRan(t, "pick", run(impl.SampleProgram("pick"), inputs, 3000), impl.WantRead, used, want)
	}
}

func TestSampleCount(t *testing.T) {
	for fuel := 0; fuel < 1600; fuel += 7 {
		wantRan(t, "count", run(impl.SampleProgram("count"), nil, fuel), impl.WantStep, nil, ramp(0, (fuel+3)/4))
	}
}
