package leak

import (
	"slices"
	"testing"

	"lockstitch/api"
	"lockstitch/check"
)

// isClosed is whether a set of locals has all that P11.1 asks for of a New's place, if that set is who has the place.
func isClosed(p api.Prog, at int, set int) bool {
	if i := p.Code[at]; i.Op == api.New && set>>i.A&1 == 0 {
		return false
	}
	for _, i := range p.Code {
		if i.Op == api.Move && set>>i.B&1 == 1 && set>>i.A&1 == 0 {
			return false
		}
	}
	return true
}

// chapterMay is a second reading of P11.1: of each place alone, what all sets of locals have that are closed. It is a set for each place.
func chapterMay(p api.Prog) []int {
	least := make([]int, len(p.Code)+1)
	for at := range p.Code {
		if p.Code[at].Op != api.New {
			continue
		}
		least[at] = 1<<len(p.Locals) - 1
		for set := range 1 << len(p.Locals) {
			if isClosed(p, at, set) {
				least[at] &= set
			}
		}
	}
	return least
}

// chapterLeaks is a second reading of P11.2, by the first one's of P11.1.
func chapterLeaks(p api.Prog, least []int, at int) bool {
	if at < 0 || at >= len(p.Code) || p.Code[at].Op != api.New {
		return false
	}
	for _, i := range p.Code {
		if (i.Op == api.StoreP || i.Op == api.StoreG) && least[at]>>i.B&1 == 1 {
			return true
		}
	}
	return false
}

// seen is of how many News something holds.
type seen struct{ leak, stay, handed int }

// wantChapter asks for both readings' answers of a program.
func wantChapter(t *testing.T, p api.Prog) seen {
	t.Helper()
	least, may := chapterMay(p), May(p)
	wantForm(t, p, may)
	for a, row := range may {
		for at, is := range row {
			if is != (least[at]>>a&1 == 1) {
				t.Fatalf("May of p[%d] at %d is %v: %q %v", a, at, is, p.Locals, p.Code)
			}
		}
	}
	var saw seen
	for at := -1; at <= len(p.Code)+1; at++ {
		want := chapterLeaks(p, least, at)
		if got := Leaks(p, at); got != want {
			t.Fatalf("Leaks of %d = %v: %q %v", at, got, p.Locals, p.Code)
		}
		switch {
		case want:
			saw.leak++
		case at >= 0 && at < len(p.Code) && p.Code[at].Op == api.New:
			saw.stay++
		}
		if at >= 0 && at < len(p.Code) && least[at]&(least[at]-1) != 0 {
			saw.handed++
		}
	}
	return saw
}

func (s *seen) add(one seen) {
	s.leak += one.leak
	s.stay += one.stay
	s.handed += one.handed
}

// dice is numbers of a short rule.
type dice struct{ at uint64 }

func (d *dice) below(n int) int {
	d.at = d.at*6364136223846793005 + 1442695040888963407
	return int(d.at >> 33 % uint64(n))
}

// mix is of how many of sixteen instructions a program's are Moves, and stores of pointers, at least.
type mix struct{ moves, stores int }

// op is that of some instruction.
func (d *dice) op(m mix) uint8 {
	switch k := d.below(16); {
	case k < m.moves:
		return api.Move
	case k < m.moves+m.stores:
		return []uint8{api.StoreP, api.StoreG}[d.below(2)]
	case k < 14:
		return []uint8{api.New, api.New, api.New, api.LoadP, api.LoadG, api.Nil, api.Set, api.Print, api.Add}[d.below(9)]
	}
	return uint8(1 + d.below(15))
}

// ins is some instruction that may be at that place of such a program, of so many instructions: one is tried after the other. Of four jumps three go ahead.
func (d *dice) ins(p api.Prog, at, many int, m mix) api.Ins {
	for {
		i := api.Ins{Op: d.op(m)}
		for range 20 {
			letters := hasLetters(i.Op)
			i.A, i.B, i.C = d.letter(letters&1 != 0), d.letter(letters&2 != 0), d.letter(letters&4 != 0)
			switch {
			case i.Op != api.Jump && i.Op != api.Zero:
				i.N = int64(d.below(api.Fields)) * int64(letters>>3)
			case d.below(4) == 0:
				i.N = int64(d.below(at + 1))
				return i
			default:
				i.N = int64(at + 1 + d.below(many-at))
				return i
			}
			p.Code = []api.Ins{i}
			if _, e := check.Check(p); e == api.OK {
				return i
			}
		}
	}
}

func (d *dice) letter(has bool) uint8 {
	if !has {
		return 0
	}
	return uint8(d.below(api.Ptrs))
}

// hasLetters is what an operation has: 1 for A, 2 for B, 4 for C, 8 for N.
func hasLetters(op uint8) int {
	return []int{0, 9, 7, 8, 9, 1, 1, 3, 11, 11, 11, 11, 3, 3, 1, 7}[op]
}

// types is one to three types of one to six fields, short ones more often than long ones.
func (d *dice) types() []string {
	all := make([]string, 1+d.below(3))
	for t := range all {
		letters := make([]byte, 1+d.below(1+d.below(api.Fields)))
		for k := range letters {
			letters[k] = "i0012"[d.below(2+len(all))]
		}
		all[t] = string(letters)
	}
	return all
}

func (d *dice) refs(types []string, many int) string {
	all := make([]byte, many)
	for k := range all {
		all[k] = byte('0' + d.below(len(types)))
	}
	return string(all)
}

// some is a program that may be run, another one for each number. Half of them begin with an object for each pointer local.
func some(seed int) api.Prog {
	d := &dice{uint64(seed)*0x9e3779b97f4a7c15 + 1}
	p := api.Prog{Types: d.types()}
	p.Locals, p.Globs = d.refs(p.Types, d.below(api.Ptrs+1)), d.refs(p.Types, d.below(api.Globs+1))
	var begin []api.Ins
	if d.below(2) == 0 {
		for a := range p.Locals {
			begin = append(begin, made(uint8(a)))
		}
	}
	many, m := len(begin)+1+d.below(30), mix{1 + d.below(6), d.below(5)}
	for len(begin) < many {
		begin = append(begin, d.ins(p, len(begin), many, m))
	}
	p.Code = begin
	return p
}

// P11.1, P11.2: of many programs.
func TestManyPrograms(t *testing.T) {
	ops, locals := map[uint8]int{}, map[int]int{}
	var saw seen
	for seed := range 8000 {
		p := some(seed)
		wantRunnable(t, p)
		saw.add(wantChapter(t, p))
		locals[len(p.Locals)]++
		for _, i := range p.Code {
			ops[i.Op]++
		}
	}
	// So that the programs are not all of one sort.
	if len(ops) != 15 || len(locals) != api.Ptrs+1 || saw.leak < 8000 || saw.stay < 8000 || saw.handed < 8000 {
		t.Errorf("the operations are %v, the locals %v, and %+v", ops, locals, saw)
	}
}

// short is what all short programs are made of, beside jumps, of three locals: what a Move, a New and a store are of, and what else names a local.
func short() []api.Ins {
	all := []api.Ins{{Op: api.Print}, {Op: api.Nil, A: 1}, {Op: api.LoadP, A: 2, B: 1, N: 1}, {Op: api.LoadG, A: 1}, {Op: api.StoreI, A: 1}}
	for a := range uint8(3) {
		all = append(all, made(a), api.Ins{Op: api.StoreG, B: a})
		for b := range uint8(3) {
			all = append(all, move(a, b))
		}
	}
	return append(all, api.Ins{Op: api.StoreP, B: 1, N: 1}, api.Ins{Op: api.StoreP, A: 1, N: 1}, api.Ins{Op: api.StoreP, A: 2, B: 2, N: 1})
}

// allShort is each program of so many of these, and of a few Jumps and Zeros, ahead and back.
func allShort(many int, each func(api.Prog)) {
	kinds := append(short(), jump(0), zero(many))
	all := 1
	for range many {
		all *= len(kinds)
	}
	for which := range all {
		code := make([]api.Ins, many)
		for at := range code {
			code[at] = kinds[which%len(kinds)]
			which /= len(kinds)
		}
		each(of("000", code...))
	}
}

// P11.1, P11.2: of all short programs.
func TestAllShortPrograms(t *testing.T) {
	for many := 1; many <= 4; many++ {
		var saw seen
		allShort(many, func(p api.Prog) { saw.add(wantChapter(t, p)) })
		if saw.stay == 0 || saw.leak == 0 != (many < 2) || saw.handed == 0 != (many < 2) {
			t.Errorf("of %d instructions: %+v", many, saw)
		}
	}
}

// fulfils is whether a choice of truths, a bit for each local and place, is as P11.1 asks for.
func fulfils(p api.Prog, choice int) bool {
	long := len(p.Code) + 1
	row := func(a uint8) int { return choice >> (int(a) * long) & (1<<long - 1) }
	for at, i := range p.Code {
		switch i.Op {
		case api.New:
			if row(i.A)>>at&1 == 0 {
				return false
			}
		case api.Move:
			if row(i.B)&^row(i.A) != 0 {
				return false
			}
		}
	}
	return true
}

// wantLeastChoice asks that May fulfils it, and that each choice that does so has all that May has.
func wantLeastChoice(t *testing.T, p api.Prog) {
	t.Helper()
	mine, bit := 0, 0
	for _, row := range May(p) {
		for _, is := range row {
			if is {
				mine |= 1 << bit
			}
			bit++
		}
	}
	if !fulfils(p, mine) {
		t.Fatalf("May of %v does not fulfil it", p.Code)
	}
	for choice := range 1 << bit {
		if mine&^choice != 0 && fulfils(p, choice) {
			t.Fatalf("May of %v is not the least: %b, while %b is enough", p.Code, mine, choice)
		}
	}
}

// P11.1: what is answered is the least of all choices of truths there are.
func TestMayIsTheLeastChoice(t *testing.T) {
	for many := 1; many <= 2; many++ {
		allShort(many, func(p api.Prog) { wantLeastChoice(t, p) })
	}
	// Of Moves and News alone there are few enough for three, too.
	kinds := short()
	kinds = slices.DeleteFunc(kinds, func(i api.Ins) bool { return i.Op != api.Move && i.Op != api.New })
	for _, first := range kinds {
		for _, second := range kinds {
			for _, third := range kinds {
				wantLeastChoice(t, of("000", first, second, third))
			}
		}
	}
}

// codeOf takes five bytes for an instruction, the last one for an N that is small or far off.
func codeOf(b []byte) []api.Ins {
	var code []api.Ins
	for c := range slices.Chunk(b, 5) {
		if len(c) < 5 {
			break
		}
		n := int64(int8(c[4]))
		if n > 100 {
			n <<= 32
		}
		code = append(code, api.Ins{Op: c[0], A: c[1], B: c[2], C: c[3], N: n})
	}
	return code
}

func FuzzLeak(f *testing.F) {
	f.Add("000", []byte{5, 0, 0, 0, 0, 7, 1, 0, 0, 0, 5, 2, 0, 0, 0, 11, 2, 1, 0, 1})
	f.Add("00000000", []byte{13, 0, 3, 0, 0, 7, 3, 2, 0, 0, 7, 2, 1, 0, 0, 5, 1, 0, 0, 0})
	f.Add("", []byte{5, 200, 0, 0, 0, 7, 9, 200, 0, 0, 13, 0, 9, 0, 0})
	f.Fuzz(func(t *testing.T, locals string, b []byte) {
		p := of(locals[:min(len(locals), 1000)], codeOf(b[:min(len(b), 5*300)])...)
		if _, e := check.Check(p); e != api.OK {
			wantEnds(p)
			return
		}
		wantChapter(t, p)
		wantSurely(t, p, 100)
	})
}
