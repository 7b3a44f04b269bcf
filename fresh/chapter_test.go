package fresh

import (
	"slices"
	"testing"

	"lockstitch/api"
	"lockstitch/check"
)

// comes is the places behind one, as chapter 7 has them.
func comes(p api.Prog, at int) []int {
	switch i := p.Code[at]; i.Op {
	case api.Jump:
		return []int{int(i.N)}
	case api.Zero:
		return []int{at + 1, int(i.N)}
	}
	return []int{at + 1}
}

// isSafe is what chapter 7 says of an instruction's place.
func isSafe(p api.Prog, at int) bool {
	i := p.Code[at]
	back := i.N <= int64(at)
	return i.Op == api.New || i.Op == api.Jump && back || i.Op == api.Zero && back
}

const (
	always = -1
	never  = -2
)

// from is a second reading of P9.1, the other way: which local has to be new ahead of an instruction, so that a is new behind it.
func from(p api.Prog, at, a int) int {
	i := p.Code[at]
	isA := int(i.A) == a
	switch {
	case isA && (i.Op == api.New || i.Op == api.Nil):
		return always
	case isSafe(p, at), isA && (i.Op == api.LoadP || i.Op == api.LoadG):
		return never
	case isA && i.Op == api.Move:
		return int(i.B)
	}
	return a
}

// chapterOut asks it of each local by itself.
func chapterOut(p api.Prog, at int, in uint8) uint8 {
	out := uint8(0)
	for a := range api.Ptrs {
		if b := from(p, at, a); b == always || b >= 0 && in&bits(b) != 0 {
			out |= bits(a)
		}
	}
	return out
}

// leads is, for each place, the places from which one comes to it.
func leads(p api.Prog) [][]int {
	all := make([][]int, len(p.Code)+1)
	for at := range p.Code {
		for _, to := range comes(p, at) {
			all[to] = append(all[to], at)
		}
	}
	return all
}

// isLost is a second reading of P9.2: whether there is a way back from a place, along which a local came from others, to where one of them was taken away.
func isLost(p api.Prog, lead [][]int, place, a int, been [][api.Ptrs]bool) bool {
	if been[place][a] {
		return false
	}
	been[place][a] = true
	for _, at := range lead[place] {
		b := from(p, at, a)
		if b == never || b >= 0 && isLost(p, lead, at, b, been) {
			return true
		}
	}
	return false
}

// chapterIn asks it of each place and each local by itself.
func chapterIn(p api.Prog) []uint8 {
	all := make([]uint8, len(p.Code)+1)
	lead := leads(p)
	for place := range all {
		for a := range api.Ptrs {
			if !isLost(p, lead, place, a, make([][api.Ptrs]bool, len(all))) {
				all[place] |= bits(a)
			}
		}
	}
	return all
}

// mayBe is whether these sets are some of which P9.2 speaks: each has only what comes to it from each place that leads there.
func mayBe(p api.Prog, in []uint8) bool {
	for at := range p.Code {
		out := chapterOut(p, at, in[at])
		for _, to := range comes(p, at) {
			if in[to]&^out != 0 {
				return false
			}
		}
	}
	return true
}

// dice is numbers of a short rule.
type dice struct{ at uint64 }

func (d *dice) below(n int) int {
	d.at = d.at*6364136223846793005 + 1442695040888963407
	return int(d.at >> 33 % uint64(n))
}

// ins is some instruction that may be at that place of such a program, of so many instructions: one is tried after the other. Of four jumps three go ahead.
func (d *dice) ins(p api.Prog, at, many int) api.Ins {
	for {
		i := api.Ins{Op: uint8(1 + d.below(15))}
		for range 20 {
			letters := hasLetters(i.Op)
			i.A, i.B, i.C = d.letter(letters&1 != 0), d.letter(letters&2 != 0), d.letter(letters&4 != 0)
			switch {
			case i.Op != api.Jump && i.Op != api.Zero:
				i.N = int64(d.below(3)) * int64(letters>>3)
			case d.below(4) == 0:
				i.N = int64(d.below(at + 1))
				return i
			default:
				i.N = int64(at + 1 + d.below(many-at))
				return i
			}
			p.Code = []api.Ins{i}
			if _, e := check.Check(p); e == api.OK {
				return i
			}
		}
	}
}

func (d *dice) letter(has bool) uint8 {
	if !has {
		return 0
	}
	return uint8(d.below(api.Ptrs))
}

// hasLetters is what an operation has: 1 for A, 2 for B, 4 for C, 8 for N.
func hasLetters(op uint8) int {
	return []int{0, 9, 7, 8, 9, 1, 1, 3, 11, 11, 11, 11, 3, 3, 1, 7}[op]
}

// some is a program that may be run, another one for each number. Half of them begin with an object for each pointer local.
func some(seed int) api.Prog {
	d := &dice{uint64(seed)*0x9e3779b97f4a7c15 + 1}
	p := with()
	p.Locals = p.Locals[:1+d.below(8)]
	var begin []api.Ins
	if d.below(2) == 0 {
		for a := range p.Locals {
			begin = append(begin, api.Ins{Op: api.New, A: uint8(a)})
		}
	}
	many := len(begin) + 1 + d.below(24)
	for len(begin) < many {
		begin = append(begin, d.ins(p, len(begin), many))
	}
	p.Code = begin
	return p
}

// P9.2: of many programs.
func TestManyPrograms(t *testing.T) {
	ops := map[uint8]int{}
	places, held := 0, 0
	for seed := range 6000 {
		p := some(seed)
		wantRunnable(t, p)
		want := chapterIn(p)
		wantIn(t, p, want...)
		for at, i := range p.Code {
			ops[i.Op]++
			wantOut(t, p, at, want[at], chapterOut(p, at, want[at]))
		}
		for _, in := range want {
			for a := range p.Locals {
				places++
				held += int(in >> a & 1)
			}
		}
		if t.Failed() {
			t.FailNow()
		}
	}
	// So that the programs are not all of one sort.
	if len(ops) != 15 || held < places/5 || held > places*4/5 {
		t.Errorf("the operations are %v, and %d of %d are held", ops, held, places)
	}
}

// short is what all short programs are made of, beside jumps: p[0] is made, moved to and fro, and loaded.
func short() []api.Ins {
	return []api.Ins{{Op: api.Print}, {Op: api.New}, {Op: api.Nil}, {Op: api.Move, A: 1}, {Op: api.Move, B: 1}, {Op: api.LoadP, N: 1}, {Op: api.LoadG, A: 1}}
}

// allShort is each program of so many of these, and of Jumps and Zeros to each place.
func allShort(many int, each func(api.Prog)) {
	kinds := short()
	for to := range many + 1 {
		kinds = append(kinds, jump(to), zero(to))
	}
	all := 1
	for range many {
		all *= len(kinds)
	}
	for which := range all {
		code := make([]api.Ins, many)
		for at := range code {
			code[at] = kinds[which%len(kinds)]
			which /= len(kinds)
		}
		each(with(code...))
	}
}

// P9.2: of all short programs.
func TestAllShortPrograms(t *testing.T) {
	for many := 1; many <= 4; many++ {
		allShort(many, func(p api.Prog) {
			if got, want := In(p), chapterIn(p); !slices.Equal(got, want) {
				t.Errorf("In = %08b, want %08b: %v", got, want, p.Code)
			}
		})
	}
}

// P9.2, by its words: of all short programs, each choice of sets of p[0] and p[1] is tried, and those of which it speaks are put together. What the others have they have of their own, as no such program names them.
func TestGreatestOfAll(t *testing.T) {
	for many := 1; many <= 3; many++ {
		allShort(many, func(p api.Prog) {
			greatest := make([]uint8, many+1)
			for which := range 1 << (2 * (many + 1)) {
				in := make([]uint8, many+1)
				for place := range in {
					in[place] = uint8(which >> (2 * place) & 3)
				}
				if mayBe(p, in) {
					for place := range in {
						greatest[place] |= in[place]
					}
				}
			}
			got := In(p)
			if !mayBe(p, got) {
				t.Errorf("In = %08b has what does not come there: %v", got, p.Code)
			}
			for place, set := range got {
				if set&3 != greatest[place] {
					t.Errorf("In = %08b, the greatest ones have %02b: %v", got, greatest, p.Code)
				}
			}
		})
	}
}

// codeOf takes five bytes for an instruction, the last one for an N that is small or far off.
func codeOf(b []byte) []api.Ins {
	var code []api.Ins
	for c := range slices.Chunk(b, 5) {
		if len(c) < 5 {
			break
		}
		n := int64(int8(c[4]))
		if n > 100 {
			n <<= 32
		}
		code = append(code, api.Ins{Op: c[0], A: c[1], B: c[2], C: c[3], N: n})
	}
	return code
}

func FuzzFresh(f *testing.F) {
	f.Add([]byte{5, 0, 0, 0, 0, 7, 1, 0, 0, 0, 5, 0, 0, 0, 0})
	f.Add([]byte{5, 0, 0, 0, 0, 4, 0, 0, 0, 3, 12, 0, 0, 0, 0, 3, 0, 0, 0, 0})
	f.Add([]byte{3, 0, 0, 0, 200, 7, 9, 9, 9, 127, 16, 9, 9, 9, 9})
	f.Fuzz(func(t *testing.T, b []byte) {
		p := with(codeOf(b[:min(len(b), 5*300)])...)
		if _, e := check.Check(p); e != api.OK {
			wantEnds(p)
			return
		}
		wantIn(t, p, chapterIn(p)...)
		wantSurely(t, p, 100)
	})
}
