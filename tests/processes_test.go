package tests

import (
	"math"
	"slices"
	"strings"
	"testing"

	"loop.example/g03224/impl"
)

func TestConstantsOfProcesses(t *testing.T) {
	limits := []int{impl.MaxPorts, impl.MaxCode, impl.MaxRun}
	wantList(t, "limits", limits, 3, 24, 3000)
	ops := []int{
		impl.OpRead, impl.OpWrite, impl.OpSet, impl.OpAdd, impl.OpSub, impl.OpMul,
		impl.OpRest, impl.OpJump, impl.OpZero, impl.OpBelow, impl.OpHalt,
	}
	wantList(t, "operations", ops, ramp(1, 11)...)
	wants := []int{impl.WantHalt, impl.WantStep, impl.WantRead, impl.WantWrite}
	wantList(t, "wants", wants, 0, 1, 2, 3)
}

func TestIsProgram(t *testing.T) {
	halt := in(impl.OpHalt)
	programs := []impl.Program{
		program(0, 0, halt), program(3, 3, halt), program(3, 0, in(impl.OpRead, 3, 2)), program(0, 3, in(impl.OpWrite, 3, 2)),
		program(0, 0, slices.Repeat([]impl.Instr{halt}, 24)...),
		program(0, 0, in(impl.OpSet, 3, 999999)), program(0, 0, in(impl.OpSet, 0, -999999)),
		program(0, 0, in(impl.OpAdd, 3, 3, 3)), program(0, 0, in(impl.OpSub, 3, 0, 3)),
		program(0, 0, in(impl.OpMul, 0, 3, 0)), program(0, 0, in(impl.OpRest, 3, 3, 0)),
		program(0, 0, in(impl.OpJump, 0, 1)), program(0, 0, in(impl.OpJump, 0, 0)),
		program(0, 0, in(impl.OpZero, 3, 1)), program(0, 0, in(impl.OpBelow, 3, 1), halt),
		program(0, 0, append(slices.Repeat([]impl.Instr{halt}, 23), in(impl.OpJump, 0, 24))...),
	}
	programs = append(programs, drawnPrograms(300)...)
	for _, p := range programs {
		if !impl.IsProgram(p) {
			t.Errorf("%v is a program", p)
		}
	}
	for _, p := range noPrograms() {
		if impl.IsProgram(p) {
			t.Errorf("%v is no program", p)
		}
	}
	// The first and the last instruction count, too.
	for _, x := range noInstrs() {
		if impl.IsProgram(program(2, 1, x, halt)) || impl.IsProgram(program(2, 1, x)) {
			t.Errorf("%v is not valid as the first instruction", x)
		}
	}
}

func TestPlacesBelongToTheProgram(t *testing.T) {
	for _, op := range []int{impl.OpJump, impl.OpZero, impl.OpBelow} {
		for length := 1; length <= 24; length++ {
			code := slices.Repeat([]impl.Instr{in(op, 0, length)}, length)
			if !impl.IsProgram(program(0, 0, code...)) {
				t.Errorf("operation %d: %d is a place of %d instructions", op, length, length)
			}
			code[length-1].B++
			if impl.IsProgram(program(0, 0, code...)) {
				t.Errorf("operation %d: %d is no place of %d instructions", op, length+1, length)
			}
		}
	}
}

func TestNewActor(t *testing.T) {
	for _, name := range sampleNames {
		if got := impl.NewActor(impl.SampleProgram(name)); !sameActor(got, impl.Actor{Regs: []int{0, 0, 0, 0}}) {
			t.Errorf("%s: got %v", name, got)
		}
	}
	for _, p := range noPrograms() {
		if got := impl.NewActor(p); !isZeroActor(got) {
			t.Errorf("%v is no program: got %v", p, got)
		}
	}
}

// noActors are not valid for a program with 2 instructions.
func noActors() []impl.Actor {
	zeros := []int{0, 0, 0, 0}
	return []impl.Actor{
		{}, {Pc: 0, Regs: []int{0, 0, 0}}, {Pc: 0, Regs: []int{0, 0, 0, 0, 0}}, {Pc: 3, Regs: zeros}, {Pc: -1, Regs: zeros},
		{Pc: math.MaxInt, Regs: zeros}, {Pc: math.MinInt, Regs: zeros},
		{Pc: 0, Regs: []int{1000000, 0, 0, 0}}, {Pc: 1, Regs: []int{0, -1000000, 0, 0}},
		{Pc: 2, Regs: []int{0, 0, math.MaxInt, 0}}, {Pc: 0, Regs: []int{0, 0, 0, math.MinInt}},
	}
}

func TestIsActor(t *testing.T) {
	p := program(1, 1, in(impl.OpRead), in(impl.OpWrite))
	for place := range 3 {
		for _, regs := range [][]int{{0, 0, 0, 0}, {1, -2, 3, 4}, {999999, -999999, 0, 999999}} {
			if !impl.IsActor(p, impl.Actor{Pc: place, Regs: regs}) {
				t.Errorf("%v at %d is valid", regs, place)
			}
		}
	}
	for _, a := range noActors() {
		if impl.IsActor(p, a) {
			t.Errorf("%v is not valid", a)
		}
	}
	for _, bad := range noPrograms() {
		if impl.IsActor(bad, impl.Actor{Regs: []int{0, 0, 0, 0}}) {
			t.Errorf("%v is no program", bad)
		}
	}
}

func TestWantOf(t *testing.T) {
	p := program(3, 3,
		in(impl.OpRead, 1, 2), in(impl.OpRead, 2, 0), in(impl.OpWrite, 2, 1), in(impl.OpWrite, 3, 0), in(impl.OpSet, 0, 3),
		in(impl.OpAdd, 1, 2, 3), in(impl.OpSub, 1, 2, 3), in(impl.OpMul, 1, 2, 3), in(impl.OpRest, 1, 2, 3),
		in(impl.OpJump, 0, 2), in(impl.OpZero, 1, 2), in(impl.OpBelow, 1, 2), in(impl.OpHalt), in(impl.OpRead, 0, 1))
	wants := [][2]int{
		{2, 2}, {2, 0}, {3, 1}, {3, 0}, {1, 0}, {1, 0}, {1, 0}, {1, 0}, {1, 0}, {1, 0}, {1, 0}, {1, 0}, {0, 0}, {2, 1}, {0, 0},
	}
	for place, w := range wants {
		want, port := impl.WantOf(p, impl.Actor{Pc: place, Regs: []int{0, -1, 5, 999999}})
		if want != w[0] || port != w[1] {
			t.Errorf("place %d: got %d, %d, want %v", place, want, port, w)
		}
	}
	read := program(3, 0, in(impl.OpRead, 0, 2), in(impl.OpRead, 0, 2))
	for _, a := range noActors() {
		if want, port := impl.WantOf(read, a); want != 0 || port != 0 {
			t.Errorf("%v is not valid: got %d, %d", a, want, port)
		}
	}
	for _, bad := range noPrograms() {
		if want, port := impl.WantOf(bad, impl.Actor{Regs: []int{0, 0, 0, 0}}); want != 0 || port != 0 {
			t.Errorf("%v is no program: got %d, %d", bad, want, port)
		}
	}
}

func TestStepActor(t *testing.T) {
	regs := []int{7, -3, 0, 999999}
	cases := []struct {
		x       impl.Instr
		pc      int
		regs    []int
		written int
	}{
		{in(impl.OpRead, 0, 1), 3, []int{55, -3, 0, 999999}, 0}, {in(impl.OpRead, 3, 0), 3, []int{7, -3, 0, 55}, 0},
		{in(impl.OpWrite, 1, 0), 3, regs, -3}, {in(impl.OpWrite, 3, 1), 3, regs, 999999}, {in(impl.OpWrite, 2, 1), 3, regs, 0},
		{in(impl.OpSet, 2, -999999), 3, []int{7, -3, -999999, 999999}, 0}, {in(impl.OpSet, 0, 0), 3, []int{0, -3, 0, 999999}, 0},
		{in(impl.OpAdd, 2, 0, 1), 3, []int{7, -3, 4, 999999}, 0}, {in(impl.OpAdd, 0, 0, 3), 3, []int{-999993, -3, 0, 999999}, 0},
		{in(impl.OpAdd, 3, 3, 3), 3, []int{7, -3, 0, -1}, 0},
		{in(impl.OpSub, 2, 0, 1), 3, []int{7, -3, 10, 999999}, 0}, {in(impl.OpSub, 1, 1, 3), 3, []int{7, 999997, 0, 999999}, 0},
		{in(impl.OpMul, 2, 0, 1), 3, []int{7, -3, -21, 999999}, 0}, {in(impl.OpMul, 3, 3, 3), 3, []int{7, -3, 0, product()}, 0},
		{in(impl.OpRest, 2, 0, 1), 3, []int{7, -3, 1, 999999}, 0}, {in(impl.OpRest, 2, 1, 0), 3, []int{7, -3, 4, 999999}, 0},
		{in(impl.OpRest, 0, 0, 2), 3, []int{0, -3, 0, 999999}, 0}, {in(impl.OpRest, 0, 1, 3), 3, []int{999996, -3, 0, 999999}, 0},
		{in(impl.OpJump, 0, 0), 0, regs, 0}, {in(impl.OpJump, 0, 2), 2, regs, 0}, {in(impl.OpJump, 0, 4), 4, regs, 0},
		{in(impl.OpZero, 2, 1), 1, regs, 0}, {in(impl.OpZero, 0, 1), 3, regs, 0}, {in(impl.OpZero, 1, 1), 3, regs, 0},
		{in(impl.OpBelow, 1, 0), 0, regs, 0}, {in(impl.OpBelow, 0, 1), 3, regs, 0}, {in(impl.OpBelow, 2, 1), 3, regs, 0},
	}
	halt := in(impl.OpHalt)
	for _, c := range cases {
		p := program(2, 2, halt, halt, c.x, halt)
		got, written, ok := impl.StepActor(p, impl.Actor{Pc: 2, Regs: regs}, 55)
		if !ok || written != c.written || !sameActor(got, impl.Actor{Pc: c.pc, Regs: c.regs}) {
			t.Errorf("%v: got %v, %d, %v", c.x, got, written, ok)
		}
	}
}

func TestStepActorGoesOn(t *testing.T) {
	through := impl.SampleProgram("through")
	got, written, ok := impl.StepActor(through, impl.NewActor(through), 5)
	if !ok || written != 0 || !sameActor(got, impl.Actor{Pc: 1, Regs: []int{5, 0, 0, 0}}) {
		t.Errorf("a read: got %v, %d, %v", got, written, ok)
	}
	got, written, ok = impl.StepActor(through, got, 0)
	if !ok || written != 5 || !sameActor(got, impl.Actor{Pc: 2, Regs: []int{5, 0, 0, 0}}) {
		t.Errorf("a write: got %v, %d, %v", got, written, ok)
	}
	pick := impl.SampleProgram("pick")
	got, written, ok = impl.StepActor(pick, impl.Actor{Pc: 3, Regs: []int{1, 2, 3, 4}}, 0)
	if !ok || written != 0 || !sameActor(got, impl.Actor{Pc: 5, Regs: []int{1, 2, 3, 4}}) {
		t.Errorf("a jump: got %v, %d, %v", got, written, ok)
	}
}

// product is 999999 squared, wrapped step by step.
func product() int {
	sum := 0
	for range 999999 {
		sum += 999999
		if sum > 999999 {
			sum -= 1999999
		}
	}
	return sum
}

func TestRestIsFromZeroUp(t *testing.T) {
	for b := -12; b <= 12; b++ {
		for c := -5; c <= 5; c++ {
			p := program(0, 0, in(impl.OpRest, 0, 1, 2))
			got, _, _ := impl.StepActor(p, impl.Actor{Regs: []int{99, b, c, 0}}, 0)
			size := max(c, -c)
			rest := b
			for size > 0 && rest < 0 {
				rest += size
			}
			for size > 0 && rest >= size {
				rest -= size
			}
			if size == 0 {
				rest = 0
			}
			wantList(t, "rest", got.Regs, rest, b, c, 0)
		}
	}
}

func TestStepActorRefuses(t *testing.T) {
	zeros := impl.Actor{Regs: []int{0, 0, 0, 0}}
	refused := func(label string, p impl.Program, a impl.Actor, token int) {
		t.Helper()
		if got, written, ok := impl.StepActor(p, a, token); ok || written != 0 || !isZeroActor(got) {
			t.Errorf("%s: got %v, %d, %v", label, got, written, ok)
		}
	}
	read := program(1, 1, in(impl.OpRead, 1, 0), in(impl.OpWrite, 1, 0))
	for _, token := range []int{1000000, -1000000, math.MaxInt, math.MinInt} {
		refused("no token", read, zeros, token)
	}
	refused("halt", program(0, 0, in(impl.OpHalt)), zeros, 1)
	refused("last place", read, impl.Actor{Pc: 2, Regs: []int{1, 2, 3, 4}}, 1)
	for _, a := range noActors() {
		refused("no actor", read, a, 1)
	}
	for _, p := range noPrograms() {
		refused("no program", p, zeros, 1)
	}
}

func TestStepActorReadsOnlyAtRead(t *testing.T) {
	for _, token := range []int{999999, -999999} {
		got, _, ok := impl.StepActor(program(1, 0, in(impl.OpRead, 2, 0)), impl.Actor{Regs: []int{1, 2, 3, 4}}, token)
		if !ok || !sameActor(got, impl.Actor{Pc: 1, Regs: []int{1, 2, token, 4}}) {
			t.Errorf("got %v, %v", got, ok)
		}
	}
	for _, token := range []int{0, 5, 1000000, math.MinInt} {
		got, written, ok := impl.StepActor(program(0, 1, in(impl.OpWrite, 2, 0)), impl.Actor{Regs: []int{1, 2, 3, 4}}, token)
		if !ok || written != 3 || !sameActor(got, impl.Actor{Pc: 1, Regs: []int{1, 2, 3, 4}}) {
			t.Errorf("write with the token %d: got %v, %d, %v", token, got, written, ok)
		}
		got, written, ok = impl.StepActor(program(0, 0, in(impl.OpAdd, 2, 0, 1)), impl.Actor{Regs: []int{1, 2, 9, 4}}, token)
		if !ok || written != 0 || !sameActor(got, impl.Actor{Pc: 1, Regs: []int{1, 2, 3, 4}}) {
			t.Errorf("add with the token %d: got %v, %d, %v", token, got, written, ok)
		}
	}
}

func TestRunProcessEnds(t *testing.T) {
	add := impl.SampleProgram("add")
	wantRan(t, "second port is empty", run(add, [][]int{{1, 2}, {10}}, 100), impl.WantRead, []int{2, 1}, []int{11})
	wantRan(t, "first port is empty", run(add, [][]int{{1, 2}, {10, 20, 30}}, 100), impl.WantRead, []int{2, 2}, []int{11, 22})
	wantRan(t, "no tokens", run(add, [][]int{nil, {10}}, 0), impl.WantRead, []int{0, 0}, nil)
	wantRan(t, "no fuel", run(add, [][]int{{1}, {10}}, 0), impl.WantStep, []int{0, 0}, nil)
	wantRan(t, "fuel before the write", run(add, [][]int{{1}, {10}}, 3), impl.WantStep, []int{1, 1}, nil)
	wantRan(t, "fuel after the write", run(add, [][]int{{1}, {10}}, 4), impl.WantStep, []int{1, 1}, []int{11})
	wantRan(t, "fuel just enough", run(add, [][]int{{1}, {10}}, 5), impl.WantRead, []int{1, 1}, []int{11})

	once := program(1, 2, in(impl.OpRead, 0, 0), in(impl.OpWrite, 0, 1), in(impl.OpHalt))
	wantRan(t, "halts", run(once, [][]int{{4, 5}}, 100), impl.WantHalt, []int{1}, nil, []int{4})
	wantRan(t, "halts with the last fuel", run(once, [][]int{{4, 5}}, 2), impl.WantHalt, []int{1}, nil, []int{4})
	wantRan(t, "halts at once", run(program(1, 1, in(impl.OpHalt)), [][]int{{4}}, 0), impl.WantHalt, []int{0}, nil)
	wantRan(t, "last place", run(program(0, 0, in(impl.OpSet)), nil, 1), impl.WantHalt, nil)
	wantRan(t, "before the last place", run(program(0, 0, in(impl.OpSet)), [][]int{}, 0), impl.WantStep, nil)
	wantRan(t, "jump to the last place", run(program(0, 0, in(impl.OpJump, 0, 2), in(impl.OpJump)), nil, 5), impl.WantHalt, nil)
	wantRan(t, "round and round", run(program(0, 0, in(impl.OpJump)), nil, 3000), impl.WantStep, nil)

	count := impl.SampleProgram("count")
	wantRan(t, "full", run(count, nil, 3000), impl.WantWrite, nil, ramp(0, 400))
	wantRan(t, "just full", run(count, nil, 1600), impl.WantWrite, nil, ramp(0, 400))
	wantRan(t, "before the last jump", run(count, nil, 1599), impl.WantStep, nil, ramp(0, 400))
	wantRan(t, "before the last write", run(count, nil, 1596), impl.WantStep, nil, ramp(0, 399))
	through := impl.SampleProgram("through")
	wantRan(t, "as much as a stream", run(through, [][]int{ramp(1, 400)}, 3000), impl.WantRead, []int{400}, ramp(1, 400))
	twice := impl.SampleProgram("twice")
	wantRan(t, "more than a stream", run(twice, [][]int{repeated(1, 201)}, 3000), impl.WantWrite, []int{201}, repeated(1, 400))
	both := program(0, 2, in(impl.OpWrite, 0, 0), in(impl.OpWrite, 0, 0), in(impl.OpWrite, 0, 1), in(impl.OpJump))
	wantRan(t, "one port is full", run(both, nil, 3000), impl.WantWrite, nil, repeated(0, 400), repeated(0, 200))
}

func TestRunProcessRefuses(t *testing.T) {
	add, sink, count := impl.SampleProgram("add"), impl.SampleProgram("sink"), impl.SampleProgram("count")
	type call struct {
		p      impl.Program
		inputs [][]int
		fuel   int
	}
	calls := []call{
		{add, [][]int{{1}, {2}}, -1}, {add, [][]int{{1}, {2}}, 3001}, {add, [][]int{{1}, {2}}, math.MaxInt}, {add, [][]int{{1}, {2}}, math.MinInt},
		{add, nil, 10}, {add, [][]int{{1}}, 10}, {add, [][]int{{1}, {2}, {3}}, 10}, {add, [][]int{{1}, {2}, nil}, 10},
		{count, [][]int{{}}, 10}, {count, [][]int{nil}, 10}, {sink, [][]int{}, 10},
	}
	for _, bad := range noStreams() {
		calls = append(calls, call{add, [][]int{bad, {1}}, 10}, call{add, [][]int{{1}, bad}, 10}, call{sink, [][]int{bad}, 0})
	}
	for _, p := range noPrograms() {
		calls = append(calls, call{p, make([][]int, max(0, min(p.Ins, 9))), 10}, call{p, [][]int{{1}, {2}}, 10})
	}
	for _, c := range calls {
		if got := run(c.p, c.inputs, c.fuel); !sameRan(got, ran{}) {
			t.Errorf("RunProcess(%v, %v, %d): got %v", c.p, c.inputs, c.fuel, got)
		}
	}
}

func TestSampleProgram(t *testing.T) {
	jump := in(impl.OpJump)
	read := func(a, b int) impl.Instr { return in(impl.OpRead, a, b) }
	write := func(a, b int) impl.Instr { return in(impl.OpWrite, a, b) }
	samples := map[string]impl.Program{
		"through":   program(1, 1, read(0, 0), write(0, 0), jump),
		"copy":      program(1, 2, read(0, 0), write(0, 0), write(0, 1), jump),
		"sink":      program(1, 0, read(0, 0), jump),
		"add":       program(2, 1, read(0, 0), read(1, 1), in(impl.OpAdd, 0, 0, 1), write(0, 0), jump),
		"alternate": program(2, 1, read(0, 0), write(0, 0), read(0, 1), write(0, 0), jump),
		"split":     program(1, 2, read(0, 0), write(0, 0), read(0, 0), write(0, 1), jump),
		"sums":      program(1, 1, read(1, 0), in(impl.OpAdd, 0, 0, 1), write(0, 0), jump),
		"steps":     program(1, 1, read(1, 0), in(impl.OpSub, 2, 1, 0), write(2, 0), in(impl.OpSet, 3, 0), in(impl.OpAdd, 0, 1, 3), jump),
		"twice":     program(1, 1, read(0, 0), write(0, 0), write(0, 0), jump),
		"count":     program(0, 1, write(0, 0), in(impl.OpSet, 1, 1), in(impl.OpAdd, 0, 0, 1), jump),
		"pick":      program(3, 1, read(0, 0), in(impl.OpZero, 0, 4), read(1, 2), in(impl.OpJump, 0, 5), read(1, 1), write(1, 0), jump),
	}
	if len(samples) != len(sampleNames) {
		t.Errorf("%d samples, %d names", len(samples), len(sampleNames))
	}
	for name, want := range samples {
		got := impl.SampleProgram(name)
		if !sameProgram(got, want) || !impl.IsProgram(got) {
			t.Errorf("%s: got %v, want %v", name, got, want)
		}
		for _, other := range []string{strings.ToUpper(name), name + " ", " " + name, name[1:], name + name, name + "\x00", name[:len(name)-1]} {
			if got := impl.SampleProgram(other); !sameProgram(got, impl.Program{}) {
				t.Errorf("%q: got %v", other, got)
			}
		}
	}
	for _, name := range []string{"", " ", "nothing", "halt", "\xff", strings.Repeat("add", 1000)} {
		if got := impl.SampleProgram(name); !sameProgram(got, impl.Program{}) {
			t.Errorf("%q: got %v", name, got)
		}
	}
}

func TestMemoryOfPrograms(t *testing.T) {
	for _, name := range sampleNames {
		first, second := impl.SampleProgram(name), impl.SampleProgram(name)
		before := slices.Clone(second.Code)
		clear(first.Code[:cap(first.Code)])
		if !slices.Equal(second.Code, before) || !slices.Equal(impl.SampleProgram(name).Code, before) {
			t.Errorf("%s: the programs of two calls share memory", name)
		}
		actor, other := impl.NewActor(second), impl.NewActor(second)
		scribble(actor.Regs)
		wantList(t, name, other.Regs, 0, 0, 0, 0)
	}
}

func TestMemoryOfSteps(t *testing.T) {
	for _, p := range drawnPrograms(200) {
		code := slices.Clone(p.Code)
		p.Code = append(slices.Clone(p.Code), in(99), in(99))[:len(code)]
		regs := guard([]int{1, -1, 0, 5})
		for place := range len(p.Code) + 1 {
			got, _, _ := impl.StepActor(p, impl.Actor{Pc: place, Regs: regs.list}, 3)
			scribble(got.Regs)
			if regs.changed() || !slices.Equal(p.Code, code) || p.Code[:len(code)+1][len(code)] != in(99) {
				t.Fatalf("StepActor(%v) changes an argument or shares its memory", p)
			}
		}
	}
}

func TestMemoryOfRuns(t *testing.T) {
	for _, p := range drawnPrograms(200) {
		code := slices.Clone(p.Code)
		guards := make([]guarded, p.Ins)
		inputs := make([][]int, p.Ins)
		for i := range guards {
			guards[i] = guard(ramp(i*100-3, 20))
			inputs[i] = guards[i].list
		}
		lists := slices.Clone(inputs)
		got := run(p, inputs, 200)
		again := run(p, inputs, 200)
		results := append(slices.Clone(got.outputs), got.used)
		copies := cloneLists(append(slices.Clone(again.outputs), again.used))
		for i, s := range results {
			scribble(s)
			if !sameLists(results[i+1:], copies[i+1:]) {
				t.Fatalf("RunProcess(%v): results share memory", p)
			}
		}
		for i := range guards {
			if guards[i].changed() || !slices.Equal(inputs[i], lists[i]) {
				t.Fatalf("RunProcess(%v) changes an argument or shares its memory", p)
			}
		}
		if !slices.Equal(p.Code, code) || !sameLists(append(slices.Clone(again.outputs), again.used), copies) {
			t.Fatalf("RunProcess(%v) changes the program or another result", p)
		}
	}
}
