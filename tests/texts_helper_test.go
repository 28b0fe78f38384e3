package tests

import (
	"fmt"
	"math/rand"
	"slices"
	"strconv"
	"strings"
	"testing"

	"loop.example/g03224/impl"
)

// opForm tells how an operation is written. Its operands A, B and C are each a register (r), an input port (i),
// an output port (o), a place (p), a token (t), or not named (-).
type opForm struct {
	op       int
	name     string
	operands string
}

func opForms() []opForm {
	return []opForm{
		{1, "read", "ri-"}, {2, "write", "ro-"}, {3, "set", "rt-"}, {4, "add", "rrr"}, {5, "sub", "rrr"}, {6, "mul", "rrr"},
		{7, "rest", "rrr"}, {8, "jump", "-p-"}, {9, "zero", "rp-"}, {10, "below", "rp-"}, {11, "halt", "---"},
	}
}

// boundsOf are the least and the greatest number that an operand of this kind may be in some valid program.
func boundsOf(kind byte) (int, int) {
	switch kind {
	case 'r':
		return 0, 3
	case 'i', 'o':
		return 0, 2
	case 'p':
		return 0, 24
	case 't':
		return -999999, 999999
	}
	return 0, 0
}

// textOfInstr is the text of an instruction, if it is one of some valid program.
func textOfInstr(x impl.Instr) (string, bool) {
	for _, form := range opForms() {
		if form.op != x.Op {
			continue
		}
		text := form.name
		for i, operand := range []int{x.A, x.B, x.C} {
			least, most := boundsOf(form.operands[i])
			if operand < least || operand > most {
				return "", false
			}
			if form.operands[i] != '-' {
				text += fmt.Sprintf(" %d", operand)
			}
		}
		return text, true
	}
	return "", false
}

func textOfStream(s []int) string {
	if len(s) == 0 {
		return "."
	}
	return strings.ReplaceAll(strings.Trim(fmt.Sprint(s), "[]"), " ", ",")
}

func textOfProgram(p impl.Program) (string, bool) {
	text := fmt.Sprintf("%d;%d", p.Ins, p.Outs)
	for _, x := range p.Code {
		instr, _ := textOfInstr(x)
		text += ";" + instr
	}
	return text, impl.IsProgram(p)
}

func textOfNetwork(n impl.Network) (string, bool) {
	text := ""
	for _, p := range n.Programs {
		program, _ := textOfProgram(p)
		text += fmt.Sprintln("process", program)
	}
	for _, l := range n.Links {
		text += fmt.Sprintln("link", l.From, l.Out, l.To, l.In, textOfStream(l.Tokens))
	}
	return text, isNetworkByCounting(n)
}

// textOfState has something in its lines also if the state is not valid.
func textOfState(n impl.Network, s impl.State) (string, bool) {
	text := fmt.Sprintln("steps", s.Steps)
	for _, a := range s.Actors {
		text += fmt.Sprintln("actor", a.Pc, textOfStream(a.Regs))
	}
	for k := range max(len(s.Queues), len(s.Sent)) {
		text += "queue"
		for _, lists := range [][][]int{s.Queues, s.Sent} {
			if k < len(lists) {
				text += " " + textOfStream(lists[k])
			}
		}
		text += "\n"
	}
	return text, impl.IsState(n, s)
}

// The following readers guess what a text is to describe, whatever may be wrong with it.
// It describes that if the text of it, by hand, is the same one.

func guessNumber(text string) int {
	n, _ := strconv.Atoi(text)
	return n
}

func guessStream(text string) []int {
	if text == "." {
		return nil
	}
	var s []int
	for _, part := range strings.Split(text, ",") {
		s = append(s, guessNumber(part))
	}
	return s
}

func guessInstr(text string) impl.Instr {
	words := append(strings.Split(text, " "), "", "", "")
	for _, form := range opForms() {
		if form.name != words[0] {
			continue
		}
		x := impl.Instr{Op: form.op}
		for i, operand := range []*int{&x.A, &x.B, &x.C} {
			if form.operands[i] != '-' {
				words = words[1:]
				*operand = guessNumber(words[0])
			}
		}
		return x
	}
	return impl.Instr{}
}

func guessProgram(text string) impl.Program {
	parts := append(strings.Split(text, ";"), "")
	p := impl.Program{Ins: guessNumber(parts[0]), Outs: guessNumber(parts[1])}
	for _, part := range parts[2:max(2, len(parts)-1)] {
		p.Code = append(p.Code, guessInstr(part))
	}
	return p
}

func guessNetwork(text string) impl.Network {
	var n impl.Network
	for _, line := range strings.Split(text, "\n") {
		words := append(strings.Split(line, " "), "", "", "", "", "")
		switch words[0] {
		case "process":
			n.Programs = append(n.Programs, guessProgram(strings.TrimPrefix(line, "process ")))
		case "link":
			n.Links = append(n.Links, link(guessNumber(words[1]), guessNumber(words[2]), guessNumber(words[3]),
				guessNumber(words[4]), guessStream(words[5])...))
		}
	}
	return n
}

func guessState(text string) impl.State {
	var s impl.State
	for _, line := range strings.Split(text, "\n") {
		words := append(strings.Split(line, " "), "", "")
		switch words[0] {
		case "steps":
			s.Steps = guessNumber(words[1])
		case "actor":
			s.Actors = append(s.Actors, impl.Actor{Pc: guessNumber(words[1]), Regs: guessStream(words[2])})
		case "queue":
			s.Queues = append(s.Queues, guessStream(words[1]))
			s.Sent = append(s.Sent, guessStream(words[2]))
		}
	}
	return s
}

// textForm has what the program does with values of a kind and their texts, and what is done by hand.
type textForm[T any] struct {
	format func(x T) string
	parse  func(text string) (T, bool)
	byHand func(x T) (string, bool)
	guess  func(text string) T
	same   func(x, y T) bool
}

func instrTexts() textForm[impl.Instr] {
	same := func(x, y impl.Instr) bool { return x == y }
	return textForm[impl.Instr]{impl.FormatInstr, impl.ParseInstr, textOfInstr, guessInstr, same}
}

func programTexts() textForm[impl.Program] {
	return textForm[impl.Program]{impl.FormatProgram, impl.ParseProgram, textOfProgram, guessProgram, sameProgram}
}

func networkTexts() textForm[impl.Network] {
	return textForm[impl.Network]{impl.FormatNetwork, impl.ParseNetwork, textOfNetwork, guessNetwork, sameNetwork}
}

func stateTexts(n impl.Network) textForm[impl.State] {
	return textForm[impl.State]{
		format: func(s impl.State) string { return impl.FormatState(n, s) },
		parse:  func(text string) (impl.State, bool) { return impl.ParseState(n, text) },
		byHand: func(s impl.State) (string, bool) { return textOfState(n, s) },
		guess:  guessState,
		same:   sameState,
	}
}

// wantRead wants a text to be read as x, and returns what is read.
func (f textForm[T]) wantRead(t *testing.T, text string, x T) T {
	t.Helper()
	got, ok := f.parse(text)
	if !ok || !f.same(got, x) {
		t.Errorf("%q: got %v, %v, want %v", text, got, ok, x)
	}
	return got
}

// want wants x to have a text, and this text to be read as x.
func (f textForm[T]) want(t *testing.T, x T, text string) {
	t.Helper()
	wantText(t, "the text", f.format(x), text)
	f.wantRead(t, text, x)
}

// wantNone wants a text to be none of any value.
func (f textForm[T]) wantNone(t *testing.T, text string) {
	t.Helper()
	var none T
	if got, ok := f.parse(text); ok || !f.same(got, none) {
		t.Errorf("%q: got %v, %v, want nothing", text, got, ok)
	}
}

// check wants a text to be read as by hand, and tells whether there is something in it.
func (f textForm[T]) check(t *testing.T, text string) bool {
	t.Helper()
	x := f.guess(text)
	own, valid := f.byHand(x)
	if valid && own == text {
		f.wantRead(t, text, x)
		return true
	}
	f.wantNone(t, text)
	return false
}

// accepts is check for functions that know nothing but texts.
func (f textForm[T]) accepts(t *testing.T) func(text string) bool {
	return func(text string) bool {
		t.Helper()
		return f.check(t, text)
	}
}

func wantText(t *testing.T, label, got, want string) {
	t.Helper()
	if got != want {
		t.Errorf("%s: got %q, want %q", label, got, want)
	}
}

// putBytes are bytes that mean something in texts, and some that do not.
const putBytes = "0123459-+.,;: \n\t\r\x00\xff\xc3adjlprt"

// oneByteOff are all the texts that come from one by putting in, changing, dropping or doubling one byte.
func oneByteOff(text string) []string {
	var out []string
	for place := range len(text) + 1 {
		for i := range len(putBytes) {
			out = append(out, text[:place]+putBytes[i:i+1]+text[place:])
			if place < len(text) {
				out = append(out, text[:place]+putBytes[i:i+1]+text[place+1:])
			}
		}
		if place < len(text) {
			out = append(out, text[:place]+text[place+1:], text[:place+1]+text[place:])
		}
	}
	return out
}

// damaged are some texts with one byte of text put in, changed, dropped or doubled, or with one line dropped, doubled or moved.
func damaged(random *rand.Rand, text string, count int) []string {
	var out []string
	for range count {
		place := random.Intn(len(text) + 1)
		char := putBytes[random.Intn(len(putBytes))]
		if random.Intn(20) == 0 {
			char = byte(random.Intn(256))
		}
		put := string([]byte{char})
		next := min(place+1, len(text))
		switch random.Intn(5) {
		case 0:
			out = append(out, text[:place]+put+text[place:])
		case 1:
			out = append(out, text[:place]+put+text[next:])
		case 2:
			out = append(out, text[:place]+text[next:])
		case 3:
			out = append(out, text[:next]+text[place:])
		case 4:
			out = append(out, otherLines(random, text))
		}
	}
	return out
}

func otherLines(random *rand.Rand, text string) string {
	lines := strings.SplitAfter(text, "\n")
	from, to := random.Intn(len(lines)), random.Intn(len(lines))
	line := lines[from]
	switch random.Intn(3) {
	case 0:
		lines = slices.Delete(lines, from, from+1)
	case 1:
		lines = slices.Insert(lines, to, line)
	case 2:
		lines[from], lines[to] = lines[to], lines[from]
	}
	return strings.Join(lines, "")
}

// madeOf are all texts of at most most of the given pieces.
func madeOf(pieces []string, most int) []string {
	texts := []string{""}
	last := texts
	for range most {
		var longer []string
		for _, text := range last {
			for _, piece := range pieces {
				longer = append(longer, text+piece)
			}
		}
		texts = append(texts, longer...)
		last = longer
	}
	return texts
}
