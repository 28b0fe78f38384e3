package tests

import (
	"math/rand"
	"slices"
	"testing"

	"loop.example/g03224/impl"
)

func in(op int, operands ...int) impl.Instr {
	all := append(operands, 0, 0, 0)
	return impl.Instr{Op: op, A: all[0], B: all[1], C: all[2]}
}

func program(ins, outs int, code ...impl.Instr) impl.Program {
	return impl.Program{Ins: ins, Outs: outs, Code: code}
}

func sameProgram(p, q impl.Program) bool {
	return p.Ins == q.Ins && p.Outs == q.Outs && slices.Equal(p.Code, q.Code)
}

func sameActor(a, b impl.Actor) bool {
	return a.Pc == b.Pc && slices.Equal(a.Regs, b.Regs)
}

func isZeroActor(a impl.Actor) bool {
	return sameActor(a, impl.Actor{})
}

func sameLists(a, b [][]int) bool {
	return slices.EqualFunc(a, b, slices.Equal[[]int])
}

func cloneLists(lists [][]int) [][]int {
	out := make([][]int, len(lists))
	for i, s := range lists {
		out[i] = slices.Clone(s)
	}
	return out
}

// ran is all that RunProcess returns.
type ran struct {
	outputs [][]int
	used    []int
	why     int
	ok      bool
}

func run(p impl.Program, inputs [][]int, fuel int) ran {
	outputs, used, why, ok := impl.RunProcess(p, inputs, fuel)
	return ran{outputs, used, why, ok}
}

func sameRan(x, y ran) bool {
	return sameLists(x.outputs, y.outputs) && slices.Equal(x.used, y.used) && x.why == y.why && x.ok == y.ok
}

func wantRan(t *testing.T, label string, got ran, why int, used []int, outputs ...[]int) {
	t.Helper()
	if !sameRan(got, ran{outputs, used, why, true}) {
		t.Errorf("%s: got %v, want %v, %v, %d", label, got, outputs, used, why)
	}
}

// noPrograms are programs that are not valid, each for one reason.
func noPrograms() []impl.Program {
	halt := in(impl.OpHalt)
	out := []impl.Program{
		{}, program(1, 1), program(-1, 1, halt), program(1, -1, halt), program(4, 1, halt), program(1, 4, halt),
		program(1<<40, 1, halt), program(1, -1<<40, halt), program(0, 0, slices.Repeat([]impl.Instr{halt}, 25)...),
	}
	for _, x := range noInstrs() {
		out = append(out, program(2, 1, in(impl.OpSet, 3, 7), x))
	}
	return out
}

// noInstrs are not valid in a program with 2 input ports, 1 output port and 2 instructions.
func noInstrs() []impl.Instr {
	out := []impl.Instr{
		{}, in(12), in(-1), in(1 << 32), in(-impl.OpHalt),
		in(impl.OpRead, 4, 0), in(impl.OpRead, -1, 0), in(impl.OpRead, 0, 2), in(impl.OpRead, 0, -1), in(impl.OpRead, 0, 0, 1),
		in(impl.OpWrite, 4, 0), in(impl.OpWrite, -1, 0), in(impl.OpWrite, 0, 1), in(impl.OpWrite, 0, -1), in(impl.OpWrite, 0, 0, -1),
		in(impl.OpSet, 4, 0), in(impl.OpSet, -1, 0), in(impl.OpSet, 0, 1000000), in(impl.OpSet, 0, -1000000), in(impl.OpSet, 0, 0, 1),
		in(impl.OpJump, 1, 0), in(impl.OpJump, 0, 3), in(impl.OpJump, 0, -1), in(impl.OpJump, 0, 0, 1),
		in(impl.OpHalt, 1), in(impl.OpHalt, 0, 1), in(impl.OpHalt, 0, 0, 1),
	}
	for _, op := range []int{impl.OpAdd, impl.OpSub, impl.OpMul, impl.OpRest} {
		out = append(out, in(op, 4), in(op, -1), in(op, 0, 4), in(op, 0, -1), in(op, 0, 0, 4), in(op, 0, 0, -1))
	}
	for _, op := range []int{impl.OpZero, impl.OpBelow} {
		out = append(out, in(op, 4), in(op, -1), in(op, 0, 3), in(op, 0, -1), in(op, 0, 0, 1))
	}
	return out
}

var sampleNames = []string{"through", "copy", "sink", "add", "alternate", "split", "sums", "steps", "twice", "count", "pick"}

// drawnToken is small, so that jumps are done and not done, or of any size, so that results are wrapped.
func drawnToken(random *rand.Rand) int {
	if random.Intn(3) == 0 {
		return random.Intn(1999999) - 999999
	}
	return random.Intn(7) - 3
}

func drawnStream(random *rand.Rand, most int) []int {
	out := make([]int, random.Intn(most+1))
	for i := range out {
		out[i] = drawnToken(random)
	}
	return out
}

func drawnStreams(random *rand.Rand, count, most int) [][]int {
	out := make([][]int, count)
	for i := range out {
		out[i] = drawnStream(random, most)
	}
	return out
}

// drawnInstr reads and writes more often than an even choice would.
func drawnInstr(random *rand.Rand, p impl.Program, length int) impl.Instr {
	a, b, c := random.Intn(4), random.Intn(4), random.Intn(4)
	for {
		op := 1 + random.Intn(11)
		if random.Intn(2) == 0 {
			op = impl.OpRead + random.Intn(2)
		}
		switch {
		case op == impl.OpRead && p.Ins > 0:
			return in(op, a, random.Intn(p.Ins))
		case op == impl.OpWrite && p.Outs > 0:
			return in(op, a, random.Intn(p.Outs))
		case op == impl.OpSet:
			return in(op, a, drawnToken(random))
		case op >= impl.OpAdd && op <= impl.OpRest:
			return in(op, a, b, c)
		case op == impl.OpJump && random.Intn(3) == 0:
			return in(op, 0, random.Intn(length+1))
		case op == impl.OpZero, op == impl.OpBelow:
			return in(op, a, random.Intn(length+1))
		case op == impl.OpHalt && random.Intn(8) == 0:
			return in(op)
		}
	}
}

// drawnProgram has as many ports as told, and mostly goes round and round.
func drawnProgram(random *rand.Rand, ins, outs int) impl.Program {
	p := impl.Program{Ins: ins, Outs: outs}
	length := 1 + random.Intn(10)
	if random.Intn(10) == 0 {
		length = 24
	}
	for range length {
		p.Code = append(p.Code, drawnInstr(random, p, length))
	}
	if random.Intn(3) > 0 {
		p.Code[length-1] = in(impl.OpJump)
	}
	return p
}

func drawnPrograms(n int) []impl.Program {
	random := rand.New(rand.NewSource(2))
	out := make([]impl.Program, n)
	for i := range out {
		out[i] = drawnProgram(random, random.Intn(4), random.Intn(4))
	}
	return out
}
