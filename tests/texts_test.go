package tests

import (
	"math"
	"slices"
	"strings"
	"testing"

	"loop.example/g03224/impl"
)

func TestTextsOfInstrs(t *testing.T) {
	cases := []struct {
		x    impl.Instr
		text string
	}{
		{in(impl.OpRead, 0, 0), "read 0 0"}, {in(impl.OpRead, 3, 2), "read 3 2"}, {in(impl.OpRead, 1, 2), "read 1 2"},
		{in(impl.OpWrite, 0, 0), "write 0 0"}, {in(impl.OpWrite, 3, 2), "write 3 2"}, {in(impl.OpWrite, 2, 1), "write 2 1"},
		{in(impl.OpSet, 0, 0), "set 0 0"}, {in(impl.OpSet, 3, 999999), "set 3 999999"}, {in(impl.OpSet, 1, -999999), "set 1 -999999"},
		{in(impl.OpSet, 2, -1), "set 2 -1"}, {in(impl.OpSet, 0, 100), "set 0 100"},
		{in(impl.OpAdd, 0, 0, 0), "add 0 0 0"}, {in(impl.OpAdd, 1, 2, 3), "add 1 2 3"}, {in(impl.OpAdd, 3, 3, 3), "add 3 3 3"},
		{in(impl.OpSub, 3, 2, 1), "sub 3 2 1"}, {in(impl.OpSub, 0, 0, 3), "sub 0 0 3"},
		{in(impl.OpMul, 0, 3, 0), "mul 0 3 0"}, {in(impl.OpMul, 2, 1, 3), "mul 2 1 3"},
		{in(impl.OpRest, 3, 0, 0), "rest 3 0 0"}, {in(impl.OpRest, 1, 3, 2), "rest 1 3 2"},
		{in(impl.OpJump), "jump 0"}, {in(impl.OpJump, 0, 7), "jump 7"}, {in(impl.OpJump, 0, 24), "jump 24"},
		{in(impl.OpZero, 0, 0), "zero 0 0"}, {in(impl.OpZero, 3, 24), "zero 3 24"}, {in(impl.OpZero, 1, 10), "zero 1 10"},
		{in(impl.OpBelow, 0, 0), "below 0 0"}, {in(impl.OpBelow, 3, 24), "below 3 24"}, {in(impl.OpBelow, 2, 9), "below 2 9"},
		{in(impl.OpHalt), "halt"},
	}
	for _, c := range cases {
		instrTexts().want(t, c.x, c.text)
	}
}

// TestInstrsOfEveryKind has operands within what some valid program may have, at its bounds, and beyond them.
func TestInstrsOfEveryKind(t *testing.T) {
	operands := []int{0, 1, -1, 2, 3, 4, 23, 24, 25, 999999, -999999, 1000000, -1000000, 1 << 32, math.MaxInt, math.MinInt}
	texts, none := 0, 0
	for _, op := range []int{0, 1, 2, 3, 4, 5, 6, 7, 8, 9, 10, 11, 12, -1, -11, 1<<32 + 1, math.MaxInt, math.MinInt} {
		for _, a := range operands {
			for _, b := range operands {
				for _, c := range operands {
					x := impl.Instr{Op: op, A: a, B: b, C: c}
					text, ok := textOfInstr(x)
					if !ok {
						none++
						wantText(t, "no instruction", impl.FormatInstr(x), "")
						continue
					}
					texts++
					instrTexts().want(t, x, text)
				}
			}
		}
	}
	// The numbers above allow 12 reads, 12 writes, 44 sets, 4 times 64 that compute, 7 jumps, 2 times 28 that ask, and a halt.
	wantList(t, "instructions", []int{texts, none}, 388, 18*16*16*16-388)
}

// Some program has the instruction, as FormatInstr asks, also if a smaller one has it not.
func TestInstrsOfTheLargestPrograms(t *testing.T) {
	halts := slices.Repeat([]impl.Instr{in(impl.OpHalt)}, 23)
	for _, x := range []impl.Instr{in(impl.OpRead, 3, 2), in(impl.OpWrite, 3, 2), in(impl.OpJump, 0, 24), in(impl.OpZero, 3, 24), in(impl.OpBelow, 3, 24)} {
		wantBool(t, "a large one", impl.IsProgram(program(3, 3, append(halts, x)...)), true)
		wantBool(t, "a small one", impl.IsProgram(program(2, 2, append(halts[1:], x)...)), false)
		if impl.FormatInstr(x) == "" {
			t.Errorf("%v has no text", x)
		}
	}
}

func TestTextsOfNoInstrs(t *testing.T) {
	for _, text := range []string{
		"", " ", "  ", ".", "0", "1 0 0", "11", "none", "nop", "op", "instr", "halt;", ";halt", "halt;halt", "halt\n", "\nhalt", "halt ", " halt",
		"Halt", "HALT", "hALT", "hal", "halts", "halt0", "halt.", "halt 0", "halt 0 0 0", "halt halt", "read", "write", "set", "add", "jump", "zero",
		"Read 0 0", "READ 0 0", "rea 0 0", "reads 0 0", "read0 0", "read 0", "read 0 0 0", "read 0 0 ", " read 0 0", "read  0 0", "read 0  0",
		"read 0 0  ", "read 00 0", "read 0 00", "read 01 0", "read 0 01", "read +1 0", "read 0 +1", "read -0 0", "read 0 -0", "read -1 0", "read 0 -1",
		"read 4 0", "read 0 3", "read 10 0", "read 0 10", "read . 0", "read 0 .", "read a 0", "read 0 a", "read 0,0", "read 0;0", "read 0\t0", "read\t0 0",
		"read 0\n0", "read 0 0\n", "read 0 0\r\n", "read 0 0\x00", "read\x000 0", "read 0\u00a00", "read\u20030 0", "read 0 0x1", "read 0 1e0", "read 0 1.",
		"read 0 \uff11", "read \u0661 0", "r\u00e9ad 0 0", "read 0 \xff", "\xffread 0 0", "read 0 0\xff", "rea\xe4 0 0", "read read 0", "0 read 0", "read 0 0 read",
		"write 4 0", "write 0 3", "write 0 -1", "write 0", "write 0 0 0", "set 4 0", "set -1 0", "set 0", "set 0 0 0", "set 0 1000000", "set 0 -1000000",
		"set 0 -0", "set 0 +5", "set 0 05", "set 0 -05", "set 0 --5", "set 0 5-", "set 0 - 5", "set 0 -", "set 0 1_000", "set 0 1,000", "set 0 \u22125",
		"set 0 9223372036854775807", "set 0 9223372036854775808", "set 0 -9223372036854775809", "set 0 18446744073709551616", "set 18446744073709551616 0",
		"set 0 18446744073709551617", "set 0 99999999999999999999999999999999999999", "set 0 4294967296", "set 4294967296 0",
		"add 0 0", "add 0 0 0 0", "add 4 0 0", "add 0 4 0", "add 0 0 4", "add -1 0 0", "add 0 -1 0", "add 0 0 -1", "sub 0 0", "sub 0 0 4", "mul 0 0 0 0", "mul 4 0 0",
		"rest 0 0", "rest 0 4 0", "Add 0 0 0", "add 0 0 0 ", "add  0 0 0", "sub 0 0 0.", "jump 25", "jump -1", "jump 0 0", "jump 0 0 0", "jump 00", "jump 024", "jump +3",
		"jump 100", "jump ", "jump  0", "jump a", "zero 0", "zero 0 25", "zero 4 0", "zero 0 -1", "zero -1 0", "zero 0 0 0", "below 0", "below 0 25", "below 4 0",
		"below 0 0 0", "below 0 024", "read 0 0;read 0 0", "1;1;halt", "process halt", "jump 18446744073709551616", "jump 18446744073709551640",
		strings.Repeat("halt", 1000), strings.Repeat(" ", 1000), "set 0 " + strings.Repeat("0", 100000), "set 0 " + strings.Repeat("9", 100000),
		"add" + strings.Repeat(" 0", 100000),
	} {
		instrTexts().wantNone(t, text)
	}
}

func TestTextsOfPrograms(t *testing.T) {
	for name, text := range map[string]string{
		"through":   "1;1;read 0 0;write 0 0;jump 0",
		"copy":      "1;2;read 0 0;write 0 0;write 0 1;jump 0",
		"sink":      "1;0;read 0 0;jump 0",
		"add":       "2;1;read 0 0;read 1 1;add 0 0 1;write 0 0;jump 0",
		"alternate": "2;1;read 0 0;write 0 0;read 0 1;write 0 0;jump 0",
		"split":     "1;2;read 0 0;write 0 0;read 0 0;write 0 1;jump 0",
		"sums":      "1;1;read 1 0;add 0 0 1;write 0 0;jump 0",
		"steps":     "1;1;read 1 0;sub 2 1 0;write 2 0;set 3 0;add 0 1 3;jump 0",
		"twice":     "1;1;read 0 0;write 0 0;write 0 0;jump 0",
		"count":     "0;1;write 0 0;set 1 1;add 0 0 1;jump 0",
		"pick":      "3;1;read 0 0;zero 0 4;read 1 2;jump 5;read 1 1;write 1 0;jump 0",
	} {
		programTexts().want(t, impl.SampleProgram(name), text)
	}
	programTexts().want(t, program(0, 0, in(impl.OpHalt)), "0;0;halt")
	programTexts().want(t, program(3, 3, in(impl.OpHalt)), "3;3;halt")
	programTexts().want(t, program(2, 0, in(impl.OpJump, 0, 1)), "2;0;jump 1")
	programTexts().want(t, program(0, 0, in(impl.OpMul, 1, 2, 3), in(impl.OpRest, 3, 2, 1), in(impl.OpBelow, 2, 2), in(impl.OpZero, 0, 1)),
		"0;0;mul 1 2 3;rest 3 2 1;below 2 2;zero 0 1")
	jumps := slices.Repeat([]impl.Instr{in(impl.OpJump, 0, 24)}, 24)
	programTexts().want(t, program(1, 3, jumps...), "1;3"+strings.Repeat(";jump 24", 24))
	sets := slices.Repeat([]impl.Instr{in(impl.OpSet, 3, -999999)}, 24)
	programTexts().want(t, program(3, 1, sets...), "3;1"+strings.Repeat(";set 3 -999999", 24))
	programTexts().want(t, program(3, 1, sets[:23]...), "3;1"+strings.Repeat(";set 3 -999999", 23))
}

func TestTextsOfNoPrograms(t *testing.T) {
	for _, p := range noPrograms() {
		wantText(t, "no program", impl.FormatProgram(p), "")
	}
	for _, text := range []string{
		"", " ", ";", ";;", "1", "1;", "1;1", "1;1;", "1;1;;", ";1;1;halt", "1;1;halt;", "1;1;;halt", "1;;1;halt", "1;;halt", ";1;halt", ";;halt",
		"1;1;halt;;halt", "halt", "1;halt", "halt;1;1", "1;1;1;halt", "1;1;halt;1", "1,1,halt", "1 1 halt", "1;1 halt", "1;1;halt halt",
		" 1;1;halt", "1;1;halt ", "1 ;1;halt", "1; 1;halt", "1;1 ;halt", "1;1; halt", "1;1;halt ;halt", "1;1;halt; halt",
		"1;1;halt\n", "\n1;1;halt", "1;1\n;halt", "1;1;halt\n;halt", "1;1;\thalt", "1;1;halt\x00", "1;1;halt\xff", "\xff1;1;halt", "1;\xff1;halt",
		"4;1;halt", "1;4;halt", "-1;1;halt", "1;-1;halt", "10;1;halt", "01;1;halt", "1;01;halt", "00;0;halt", "+1;1;halt", "1;+1;halt", "-0;0;halt", "0;-0;halt",
		"1.;1;halt", ".;.;halt", "a;1;halt", "1;a;halt", "0x1;1;halt", "\uff11;1;halt", "1;\u0661;halt", "1\uff1b1;halt", "1;1\u037ehalt",
		"18446744073709551616;0;halt", "0;18446744073709551616;halt", "18446744073709551617;1;halt", "9223372036854775808;1;halt", "4294967296;0;halt",
		"1;1;none", "1;1;Halt", "1;1;HALT", "1;1;halt 0", "1;1;read 0", "1;1;read  0 0", "1;1;read 0 0 0", "1;1;jump", "1;1;jump 00",
		"process 1;1;halt", "1;1;halt|1;1;halt", "1;1;halt;1;1;halt",
	} {
		programTexts().wantNone(t, text)
	}
	programTexts().want(t, program(0, 0, slices.Repeat([]impl.Instr{in(impl.OpHalt)}, 24)...), "0;0"+strings.Repeat(";halt", 24))
	for _, count := range []int{0, 25, 26, 48, 1000, 100000} {
		programTexts().wantNone(t, "0;0"+strings.Repeat(";halt", count))
	}
	programTexts().wantNone(t, strings.Repeat(";", 100000))
	programTexts().wantNone(t, "0;0"+strings.Repeat(";", 24))
}

// Each instruction is one of some valid program, but not of this one.
func TestInstrsOfOtherPrograms(t *testing.T) {
	cases := []struct{ fine, wrong string }{
		{"1;0;read 0 0", "0;0;read 0 0"}, {"0;1;write 0 0", "0;0;write 0 0"}, {"1;0;read 0 0", "0;1;read 0 0"}, {"0;1;write 0 0", "1;0;write 0 0"},
		{"2;0;read 0 1", "1;0;read 0 1"}, {"3;0;read 0 2", "2;3;read 0 2"}, {"0;3;write 0 2", "3;2;write 0 2"}, {"0;2;write 3 1", "0;1;write 3 1"},
		{"0;0;jump 1", "0;0;jump 2"}, {"0;0;halt;jump 2", "0;0;halt;jump 3"}, {"0;0;zero 0 1", "0;0;zero 0 2"}, {"0;0;below 1 1", "0;0;below 1 2"},
		{"0;0;jump 2;halt", "0;0;jump 3;halt"}, {"0;0" + strings.Repeat(";jump 24", 24), "0;0" + strings.Repeat(";jump 24", 23)},
		{"0;0" + strings.Repeat(";zero 0 23", 23), "0;0" + strings.Repeat(";zero 0 24", 23)},
	}
	for _, c := range cases {
		got, ok := impl.ParseProgram(c.fine)
		wantBool(t, c.fine, ok && impl.IsProgram(got), true)
		wantText(t, c.fine, impl.FormatProgram(got), c.fine)
		programTexts().wantNone(t, c.wrong)
		wantText(t, c.wrong, impl.FormatProgram(guessProgram(c.wrong)), "")
	}
}

const throughLine = "process 1;1;read 0 0;write 0 0;jump 0\n"

func TestTextsOfNetworks(t *testing.T) {
	networkTexts().want(t, impl.Network{}, "")
	networkTexts().want(t, network([]string{"through"}, link(-1, 0, 0, 0, 1, 2), link(0, 0, -1, 0)),
		throughLine+"link -1 0 0 0 1,2\nlink 0 0 -1 0 .\n")
	networkTexts().want(t, network([]string{"through"}, link(0, 0, 0, 0, -999999, 0, 999999)), throughLine+"link 0 0 0 0 -999999,0,999999\n")
	networkTexts().want(t, crossed(), throughLine+"process 3;3;halt\nprocess 1;2;read 0 0;write 0 0;write 0 1;jump 0\n"+
		"link 1 1 1 1 1\nlink 2 0 1 2 2\nlink -1 0 1 0 3\nlink 1 0 0 0 4\nlink 0 0 2 0 5\nlink 1 2 -1 0 6\nlink 2 1 -1 0 7\n")
	networkTexts().want(t, host(0, 0), "process 0;0;halt\n")
	networkTexts().want(t, fullProcesses(), strings.Repeat("process 0;0;halt\n", 12))
	for _, n := range []impl.Network{fullLinks(), diamond(), turned(), crossedAndTurned(), countdown(999999)} {
		text, ok := textOfNetwork(n)
		wantBool(t, "a network", ok, true)
		networkTexts().want(t, n, text)
	}
	sink := func(count int) string {
		return "process 1;0;read 0 0;jump 0\nlink -1 0 0 0 " + strings.Repeat("-999999,", count-1) + "-999999\n"
	}
	networkTexts().want(t, network([]string{"sink"}, link(-1, 0, 0, 0, repeated(-999999, 400)...)), sink(400))
	networkTexts().wantNone(t, sink(401))
	networkTexts().wantNone(t, sink(100000))
	for _, n := range []impl.Network{{Programs: []impl.Program{}, Links: []impl.Link{}}, {Programs: []impl.Program{}}, {Links: []impl.Link{}}} {
		wantText(t, "no processes and no links", impl.FormatNetwork(n), "")
	}
	empty := network([]string{"through"}, impl.Link{Tokens: []int{}})
	wantText(t, "no tokens", impl.FormatNetwork(empty), throughLine+"link 0 0 0 0 .\n")
}

func TestTextsOfNoNetworks(t *testing.T) {
	described := 0
	for _, n := range noNetworks() {
		wantText(t, "no network", impl.FormatNetwork(n), "")
		// What the text would be describes no valid network, either.
		text, _ := textOfNetwork(n)
		if guess := guessNetwork(text); text != "" && sameNetwork(guess, n) {
			described++
			networkTexts().wantNone(t, text)
		}
	}
	if described < 400 {
		t.Errorf("only %d texts describe networks that are not valid", described)
	}
	networkTexts().wantNone(t, strings.Repeat("process 0;0;halt\n", 13))
	networkTexts().wantNone(t, strings.Repeat("process 0;0;halt\n", 100000))
	networkTexts().wantNone(t, throughLine+strings.Repeat("link -1 0 0 0 .\n", 100000))
}

func TestNetworksThatAreNotRead(t *testing.T) {
	first, second := "link -1 0 0 0 1,2\n", "link 0 0 -1 0 .\n"
	whole := throughLine + first + second
	networkTexts().want(t, network([]string{"through"}, link(0, 0, -1, 0), link(-1, 0, 0, 0, 1, 2)), throughLine+second+first)
	for _, text := range []string{
		throughLine, first, second, first + second, throughLine + first, throughLine + second, throughLine + throughLine + first + second,
		first + throughLine + second, first + second + throughLine, second + first + throughLine,
		whole + "\n", "\n" + whole, throughLine + "\n" + first + second, throughLine + first + "\n" + second, "\n", "\n\n", " ", " \n", ".", ".\n",
		whole[:len(whole)-1], whole + " ", whole + "\r", whole + "\x00", " " + whole, "\t" + whole, "\ufeff" + whole, whole + "\xff", "\xff" + whole, whole + whole,
		whole + "halt\n", whole + "steps 0\n", whole + "link\n", whole + "process\n", "process\n" + whole, "process \n" + whole, "1;1;halt\n", "halt\n" + whole,
		whole + first, whole + second, whole + "link", whole + "process 0;0;halt\n", whole + "process 0;0;halt",
	} {
		networkTexts().wantNone(t, text)
	}
	for _, other := range [][2]string{
		{"process ", "Process "}, {"process ", "PROCESS "}, {"process ", "process"}, {"process ", "process  "}, {"process ", "proces "}, {"process ", "processes "},
		{"process ", " process "}, {"process ", "process\t"}, {"process ", "program "}, {"process ", ""}, {"process ", "process process "}, {"process ", "link "},
		{"jump 0\n", "jump 0 \n"}, {"jump 0\n", "jump 0;\n"}, {"jump 0\n", "jump 4\n"}, {"jump 0\n", "jump 0\r\n"}, {"jump 0\n", "jump 0|"}, {"jump 0\n", "jump 0 "},
		{"jump 0\n", "jump 0;"}, {"jump 0\n", "jump 0;\nhalt\n"}, {"1;1;", "1;1;\n"}, {"1;1;", ""}, {"read 0 0", "read 0 1"}, {"write 0 0", "write 0 1"},
		{"link -1", "Link -1"}, {"link -1", "link  -1"}, {"link -1", " link -1"}, {"link -1", "links -1"}, {"link -1", "lin -1"}, {"link -1", "-1"}, {"link -1", "link\t-1"},
		{"link -1", "link -01"}, {"link -1", "link 1"}, {"link -1", "link -2"}, {"link -1", "link - 1"}, {"link -1", "link +1"}, {"link -1", "link link -1"},
		{"-1 0 0 0 1,2", "-1 0 0 0"}, {"-1 0 0 0 1,2", "-1 0 0 0 "}, {"-1 0 0 0 1,2", "-1 0 0 1,2"}, {"-1 0 0 0 1,2", "-1 0 0 0 0 1,2"}, {"-1 0 0 0 1,2", "-1 0 0 0 1 2"},
		{"-1 0 0 0 1,2", "-1 0 0 0 1,2 "}, {"-1 0 0 0 1,2", "-1 0 0 0  1,2"}, {"-1 0 0 0 1,2", "-1 0  0 0 1,2"}, {"-1 0 0 0 1,2", "-1 0 0 0 1,2,"}, {"-1 0 0 0 1,2", "-1 0 0 0 1,,2"},
		{"-1 0 0 0 1,2", "-1 0 0 0 01,2"}, {"-1 0 0 0 1,2", "-1 0 0 0 1,-0"}, {"-1 0 0 0 1,2", "-1 0 0 0 +1,2"}, {"-1 0 0 0 1,2", "-1 0 0 0 1000000,2"},
		{"-1 0 0 0 1,2", "-1 0 0 0 1,2."}, {"-1 0 0 0 1,2", "-1 0 0 0 .,1"}, {"-1 0 0 0 1,2", "-1 0 0 0 ;"}, {"-1 0 0 0 1,2", "-1,0,0,0,1,2"}, {"-1 0 0 0 1,2", "-1;0;0;0;1,2"},
		{"-1 0 0 0 1,2", "-1 00 0 0 1,2"}, {"-1 0 0 0 1,2", "-1 0 00 0 1,2"}, {"-1 0 0 0 1,2", "-1 0 0 00 1,2"}, {"-1 0 0 0 1,2", "-1 -0 0 0 1,2"}, {"-1 0 0 0 1,2", "-1 0 0 -0 1,2"},
		{"-1 0 0 0 1,2", "-1 1 0 0 1,2"}, {"-1 0 0 0 1,2", "-1 0 1 0 1,2"}, {"-1 0 0 0 1,2", "-1 0 0 1 1,2"}, {"-1 0 0 0 1,2", "-1 0 -1 0 1,2"}, {"-1 0 0 0 1,2", "0 0 0 0 1,2"},
		{"-1 0 0 0 1,2", "-1 0 0 0 \u0661"}, {"-1 0 0 0 1,2", "-1 0 0 0 \xff"}, {"-1 0 0 0 1,2", "-1 0 . 0 1,2"}, {"-1 0 0 0 1,2", "18446744073709551615 0 0 0 1,2"},
		{"-1 0 0 0 1,2", "-1 18446744073709551616 0 0 1,2"}, {"-1 0 0 0 1,2", "-1 0 18446744073709551616 0 1,2"}, {"-1 0 0 0 1,2", "-1 0 0 18446744073709551616 1,2"},
		{"-1 0 0 0 1,2\n", "-1 0 0 0 1,2\r\n"}, {"-1 0 0 0 1,2\n", "-1 0 0 0 1,2|"}, {"-1 0 0 0 1,2\n", "-1 0 0 0 1,2 "}, {"-1 0 0 0 1,2\n", "-1 0 0 0\n1,2\n"},
		{" .\n", "\n"}, {" .\n", " \n"}, {" .\n", " ..\n"}, {" .\n", " . .\n"}, {" .\n", "  .\n"}, {" .\n", " ,\n"}, {" .\n", " ."},
	} {
		if strings.Count(whole, other[0]) != 1 {
			t.Fatalf("%q is not in the text just once", other[0])
		}
		networkTexts().wantNone(t, strings.Replace(whole, other[0], other[1], 1))
	}
}

const middleText = "steps 6\nactor 0 1,1,0,0\nactor 2 9,0,0,0\nqueue 2 1,2\nqueue 1 9,1\nqueue 5,9 5,9\n"

func TestTextsOfStates(t *testing.T) {
	n, s := middle()
	stateTexts(n).want(t, s, middleText)
	stateTexts(n).want(t, impl.StartState(n), "steps 0\nactor 0 0,0,0,0\nactor 0 0,0,0,0\nqueue 1,2 1,2\nqueue 9 9\nqueue 5 5\n")
	end, _ := impl.RunTurns(n, s, 1000)
	stateTexts(n).want(t, end, "steps 20\nactor 0 3,2,0,0\nactor 0 3,0,0,0\nqueue . 1,2\nqueue . 9,1,3\nqueue 5,9,9,1,1,3,3 5,9,9,1,1,3,3\n")
	s.Steps, s.Actors[0], s.Actors[1] = 20000, actor(4, 999999, -999999, 0, -1), actor(4, 0, 0, 0, 7)
	s.Queues[0], s.Sent[1], s.Queues[1] = nil, repeated(9, 400), repeated(9, 400)
	all := strings.Repeat("9,", 399) + "9"
	stateTexts(n).want(t, s, "steps 20000\nactor 4 999999,-999999,0,-1\nactor 4 0,0,0,7\nqueue . 1,2\nqueue "+all+" "+all+"\nqueue 5,9 5,9\n")
	stateTexts(impl.Network{}).want(t, impl.State{}, "steps 0\n")
	stateTexts(impl.Network{}).want(t, impl.State{Steps: 20000}, "steps 20000\n")
	stateTexts(host(0, 0)).want(t, impl.StartState(host(0, 0)), "steps 0\nactor 0 0,0,0,0\n")
	stateTexts(fullProcesses()).want(t, impl.StartState(fullProcesses()), "steps 0\n"+strings.Repeat("actor 0 0,0,0,0\n", 12))
	empty := impl.State{Actors: []impl.Actor{}, Queues: [][]int{}, Sent: [][]int{}}
	wantText(t, "nothing, but empty", impl.FormatState(impl.Network{}, empty), "steps 0\n")
	for _, n := range []impl.Network{fullLinks(), diamond(), crossed(), countdown(5)} {
		s, _ := impl.RunTurns(n, impl.StartState(n), 7)
		text, ok := textOfState(n, s)
		wantBool(t, "a state", ok, true)
		stateTexts(n).want(t, s, text)
	}
	stateTexts(crossed()).want(t, crossedState(), "steps 17\nactor 1 4,3,2,1\nactor 0 0,0,0,0\nactor 3 -5,0,0,999999\n"+
		"queue 10 1,10\nqueue 20 2,20\nqueue 3 3\nqueue . 4\nqueue 50,51 5,50,51\nqueue 6,60 6,60\nqueue 7 7\n")
}

func TestTextsOfNoStates(t *testing.T) {
	n, s := middle()
	text, ok := textOfState(n, s)
	wantBool(t, "a state", ok, true)
	wantText(t, "a state", text, middleText)
	for label, bad := range noStates() {
		wantText(t, label, impl.FormatState(n, bad), "")
		text, _ := textOfState(n, bad)
		stateTexts(n).wantNone(t, text)
	}
	// Another network has other states.
	for _, other := range []impl.Network{{}, diamond(), host(0, 0), changed(n, func(n *impl.Network) { n.Links[0].Tokens = []int{1} }),
		changed(n, func(n *impl.Network) { n.Links[2].Tokens = []int{9} }), changed(n, func(n *impl.Network) { n.Programs[1].Code = n.Programs[1].Code[:1] })} {
		wantBool(t, "another network", impl.IsNetwork(other), true)
		wantText(t, "another network", impl.FormatState(other, s), "")
		stateTexts(other).wantNone(t, middleText)
	}
	fewer := changed(n, func(n *impl.Network) { n.Links[1].Tokens = nil })
	stateTexts(fewer).want(t, s, middleText)
	// There is no state of nothing but that with no actors and no links.
	wantText(t, "an actor of nothing", impl.FormatState(impl.Network{}, impl.State{Actors: []impl.Actor{actor(0)}}), "")
	wantText(t, "a link of nothing", impl.FormatState(impl.Network{}, impl.State{Queues: [][]int{nil}, Sent: [][]int{nil}}), "")
	wantText(t, "too many steps", impl.FormatState(impl.Network{}, impl.State{Steps: 20001}), "")
	for _, text := range []string{"", "\n", "steps 0", "steps 20001\n", "steps -1\n", "steps 0\nactor 0 0,0,0,0\n", "steps 0\nqueue . .\n", "steps 0\nsteps 0\n"} {
		stateTexts(impl.Network{}).wantNone(t, text)
	}
}

func TestStatesOfNoNetworks(t *testing.T) {
	for _, bad := range noNetworks() {
		s := startByHand(bad)
		wantText(t, "no network", impl.FormatState(bad, s), "")
		own, _ := textOfState(bad, s)
		for _, text := range []string{"", "steps 0\n", own, middleText} {
			stateTexts(bad).wantNone(t, text)
		}
	}
	// This one lacks a link, but nothing in the state tells.
	lacking := network([]string{"sink"})
	wantText(t, "a port without a link", impl.FormatState(lacking, impl.State{Actors: []impl.Actor{actor(0)}}), "")
	stateTexts(lacking).wantNone(t, "steps 0\nactor 0 0,0,0,0\n")
}

func TestStatesThatAreNotRead(t *testing.T) {
	n, _ := middle()
	lines := strings.SplitAfter(middleText, "\n")
	lines = lines[:len(lines)-1]
	for i := range lines {
		stateTexts(n).wantNone(t, strings.Join(slices.Delete(slices.Clone(lines), i, i+1), ""))
		stateTexts(n).wantNone(t, strings.Join(slices.Insert(slices.Clone(lines), i, lines[i]), ""))
		for _, more := range []string{"\n", " \n", "actor 0 0,0,0,0\n", "queue . .\n", "steps 6\n", "halt\n", ".\n", "0\n"} {
			stateTexts(n).wantNone(t, strings.Join(slices.Insert(slices.Clone(lines), i, more), ""))
		}
		for k := range i {
			swapped := slices.Clone(lines)
			swapped[i], swapped[k] = swapped[k], swapped[i]
			// Each of the two actors may be where the other one is, but the links have tokens of their own.
			actors := k == 1 && i == 2
			wantBool(t, "two lines in each other's place", stateTexts(n).check(t, strings.Join(swapped, "")), actors)
		}
	}
	for _, text := range []string{
		"", "\n", " ", middleText + "\n", "\n" + middleText, middleText[:len(middleText)-1], middleText + " ", " " + middleText, middleText + "\x00", middleText + "\xff",
		"\xff" + middleText, middleText + middleText, middleText + "queue . .\n", middleText + "queue", middleText + "end\n", middleText + "steps 6", "\ufeff" + middleText,
		strings.ReplaceAll(middleText, "\n", "\r\n"), strings.ReplaceAll(middleText, "\n", "|"), strings.ReplaceAll(middleText, " ", "  "), strings.ReplaceAll(middleText, " ", "\t"),
		strings.ToUpper(middleText), strings.Repeat("queue . .\n", 100000), middleText + strings.Repeat("\n", 100000), "steps 6\n" + strings.Repeat("actor 0 0,0,0,0\n", 100000),
	} {
		stateTexts(n).wantNone(t, text)
	}
	for _, other := range [][2]string{
		{"steps 6", "Steps 6"}, {"steps 6", "step 6"}, {"steps 6", "steps"}, {"steps 6", "steps "}, {"steps 6", "steps  6"}, {"steps 6", "steps6"}, {"steps 6", " steps 6"},
		{"steps 6", "steps 6 "}, {"steps 6", "steps 6 6"}, {"steps 6", "steps 06"}, {"steps 6", "steps +6"}, {"steps 6", "steps -0"}, {"steps 6", "steps -6"}, {"steps 6", "steps 20001"},
		{"steps 6", "steps 6,6"}, {"steps 6", "steps ."}, {"steps 6", "steps a"}, {"steps 6", "steps 18446744073709551622"}, {"steps 6", "steps 9223372036854775808"}, {"steps 6", "6"},
		{"steps 6", "steps \u0666"}, {"steps 6", "steps 6\t"}, {"steps 6\n", "steps 6"}, {"steps 6\n", ""}, {"steps 6\n", "steps 6\n\n"}, {"steps 6\n", "steps 6 \n"}, {"steps 6", "actor 6"},
		{"actor 0 1", "Actor 0 1"}, {"actor 0 1", "actor  0 1"}, {"actor 0 1", "actor 0  1"}, {"actor 0 1", "actor 0,1"}, {"actor 0 1", "actor 00 1"}, {"actor 0 1", "actor -0 1"},
		{"actor 0 1", "actor +0 1"}, {"actor 0 1", "actor -1 1"}, {"actor 0 1", "actor 5 1"}, {"actor 0 1", "actor 1"}, {"actor 0 1", "actors 0 1"}, {"actor 0 1", "acto 0 1"},
		{"actor 0 1", "0 1"}, {"actor 0 1", "actor . 1"}, {"actor 0 1", "actor 0 0 1"}, {"actor 0 1", "queue 0 1"}, {"actor 0 1", "actor 18446744073709551616 1"}, {"actor 0 1", " actor 0 1"},
		{"1,1,0,0", "1,1,0"}, {"1,1,0,0", "1,1,0,0,0"}, {"1,1,0,0", "."}, {"1,1,0,0", ""}, {"1,1,0,0", "1,1,0,0,"}, {"1,1,0,0", ",1,1,0,0"}, {"1,1,0,0", "1,1,,0,0"}, {"1,1,0,0", "1,1,0,00"},
		{"1,1,0,0", "1,1,0,-0"}, {"1,1,0,0", "1,1,0,1000000"}, {"1,1,0,0", "-1000000,1,0,0"}, {"1,1,0,0", "1 1 0 0"}, {"1,1,0,0", "1,1,0 0"}, {"1,1,0,0", "1, 1,0,0"}, {"1,1,0,0", "1;1;0;0"},
		{"1,1,0,0", "1,1,0,0 "}, {"1,1,0,0", "1,1,0,0 0"}, {"1,1,0,0", "1,1,0,a"}, {"1,1,0,0", "+1,1,0,0"}, {"1,1,0,0", strings.Repeat("1,", 100000) + "1"},
		{"queue 2 1,2", "Queue 2 1,2"}, {"queue 2 1,2", "queue  2 1,2"}, {"queue 2 1,2", "queue 2  1,2"}, {"queue 2 1,2", "queue 2"}, {"queue 2 1,2", "queue 1,2"}, {"queue 2 1,2", "queue 2 1,2 "},
		{"queue 2 1,2", "queue"}, {"queue 2 1,2", "queue 2 1,2 1,2"}, {"queue 2 1,2", "queue 1 1,2"}, {"queue 2 1,2", "queue 2,1 1,2"}, {"queue 2 1,2", "queue 1,2,2 1,2"}, {"queue 2 1,2", "queue 02 1,2"},
		{"queue 2 1,2", "queue 2 1,02"}, {"queue 2 1,2", "queue 2 1"}, {"queue 2 1,2", "queue 2 2"}, {"queue 2 1,2", "queue 2 ."}, {"queue 2 1,2", "queue 3 1,2,3"}, {"queue 2 1,2", "queues 2 1,2"},
		{"queue 2 1,2", "sent 2 1,2"}, {"queue 2 1,2", "2 1,2"}, {"queue 2 1,2", "queue 1,2 2"}, {"queue 2 1,2", "queue ,2 1,2"}, {"queue 2 1,2", "queue .2 1,2"}, {"queue 2 1,2", "queue +2 1,2"},
		{"queue 1 9,1", "queue 9 9,1"}, {"queue 1 9,1", "queue 1,9 9,1"}, {"queue 1 9,1", "queue 1 1"}, {"queue 1 9,1", "queue . ."}, {"queue 1 9,1", "queue 1 9,1000000"}, {"queue 1 9,1", "queue . 9,1,"},
		{"queue 5,9 5,9", "queue 9 5,9"}, {"queue 5,9 5,9", "queue . 5,9"}, {"queue 5,9 5,9", "queue 9 9"}, {"queue 5,9 5,9", "queue 5,9 5,9,9"}, {"queue 5,9 5,9", "queue 5,9,9 5,9"},
		{"queue 1 9,1", "queue . 9" + strings.Repeat(",1", 400)}, {"queue 1 9,1", "queue 1" + strings.Repeat(",1", 399) + " 9" + strings.Repeat(",1", 400)},
	} {
		if strings.Count(middleText, other[0]) != 1 {
			t.Fatalf("%q is not in the text just once", other[0])
		}
		stateTexts(n).wantNone(t, strings.Replace(middleText, other[0], other[1], 1))
	}
}

// Some of the changed texts describe another state.
func TestStatesThatAreRead(t *testing.T) {
	n, _ := middle()
	for _, other := range [][2]string{
		{"steps 6", "steps 0"}, {"steps 6", "steps 20000"}, {"actor 0 1", "actor 4 1"}, {"1,1,0,0", "-999999,999999,5,-5"}, {"actor 2 9", "actor 0 0"},
		{"queue 2 1,2", "queue . 1,2"}, {"queue 2 1,2", "queue 1,2 1,2"}, {"queue 1 9,1", "queue . 9"}, {"queue 1 9,1", "queue 9,1 9,1"}, {"queue 1 9,1", "queue . 9" + strings.Repeat(",1", 399)},
		{"queue 5,9 5,9", "queue 5 5"}, {"queue 5,9 5,9", "queue 5,7,7 5,7,7"},
	} {
		text := strings.Replace(middleText, other[0], other[1], 1)
		wantBool(t, text, stateTexts(n).check(t, text), true)
	}
}

func TestMemoryOfTexts(t *testing.T) {
	n, s := middle()
	full := network([]string{"copy", "copy"}, link(-1, 0, 0, 0, ramp(0, 400)...), link(0, 0, 1, 0, 3), link(0, 1, -1, 0, 3), link(1, 0, -1, 0, 3), link(1, 1, -1, 0))
	for _, c := range []runCase{{n, s}, {crossed(), crossedState()}, {full, impl.StartState(full)}, {impl.Network{}, impl.State{}}} {
		n, s := roomy(c.n), roomyState(c.s)
		before, beforeState := spread(n), spreadState(s)
		for _, p := range n.Programs {
			text := impl.FormatProgram(p)
			got, other := programTexts().wantRead(t, text, p), programTexts().wantRead(t, text, p)
			for i := range got.Code {
				got.Code[i] = in(77)
			}
			wantBool(t, "another one that is read", sameProgram(other, p), true)
		}
		text := impl.FormatNetwork(n)
		network, another := networkTexts().wantRead(t, text, c.n), networkTexts().wantRead(t, text, c.n)
		checkOwnLists(t, "a network that is read", network)
		wantBool(t, "another one that is read", sameNetwork(another, c.n), true)
		text = impl.FormatState(n, s)
		state, other := stateTexts(n).wantRead(t, text, c.s), stateTexts(n).wantRead(t, text, c.s)
		checkOwnState(t, "a state that is read", state)
		wantBool(t, "another one that is read", sameState(other, c.s), true)
		impl.ParseState(n, text+"steps 0\n")
		if !sameNetwork(spread(n), before) || !sameState(spreadState(s), beforeState) {
			t.Errorf("%v or its state is changed, or shares memory with what is read", c.n)
		}
	}
}
