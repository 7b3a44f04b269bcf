package live

import (
	"slices"
	"testing"

	"lockstitch/api"
	"lockstitch/check"
)

// comes is the places behind one, as chapter 7 has them.
func comes(p api.Prog, at int) []int {
	switch i := p.Code[at]; i.Op {
	case api.Jump:
		return []int{int(i.N)}
	case api.Zero:
		return []int{at + 1, int(i.N)}
	}
	return []int{at + 1}
}

// isUsed is a second reading of P8.2: whether there is a way from a place to one that uses a local, and none sets it ahead of that.
func isUsed(p api.Prog, at int, local uint8, been []bool) bool {
	if at == len(p.Code) || been[at] {
		return false
	}
	been[at] = true
	switch {
	case chapterUses(p.Code[at])&local != 0:
		return true
	case chapterSets(p.Code[at])&local != 0:
		return false
	}
	for _, to := range comes(p, at) {
		if isUsed(p, to, local, been) {
			return true
		}
	}
	return false
}

// chapterIn asks it of each place and each local by itself.
func chapterIn(p api.Prog) []uint8 {
	all := make([]uint8, len(p.Code)+1)
	for at := range all {
		for a := range api.Ptrs {
			if isUsed(p, at, bits(a), make([]bool, len(p.Code))) {
				all[at] |= bits(a)
			}
		}
	}
	return all
}

// dice is numbers of a short rule.
type dice struct{ at uint64 }

func (d *dice) below(n int) int {
	d.at = d.at*6364136223846793005 + 1442695040888963407
	return int(d.at >> 33 % uint64(n))
}

// ins is some instruction that may be in such a program, of so many instructions: one is tried after the other.
func (d *dice) ins(p api.Prog, many int) api.Ins {
	for {
		i := api.Ins{Op: uint8(1 + d.below(15))}
		for range 20 {
			letters := hasLetters(i.Op)
			i.A, i.B, i.C = d.letter(letters&1 != 0), d.letter(letters&2 != 0), d.letter(letters&4 != 0)
			switch {
			case i.Op == api.Jump || i.Op == api.Zero:
				i.N = int64(d.below(many + 1))
				return i
			case letters&8 != 0:
				i.N = int64(d.below(3))
			}
			p.Code = []api.Ins{i}
			if _, e := check.Check(p); e == api.OK {
				return i
			}
		}
	}
}

func (d *dice) letter(has bool) uint8 {
	if !has {
		return 0
	}
	return uint8(d.below(api.Ptrs))
}

// hasLetters is what an operation has: 1 for A, 2 for B, 4 for C, 8 for N.
func hasLetters(op uint8) int {
	return []int{0, 9, 7, 8, 9, 1, 1, 3, 11, 11, 11, 11, 3, 3, 1, 7}[op]
}

// some is a program that may be run, another one for each number. Half of them begin with an object for each pointer local.
func some(seed int) api.Prog {
	d := &dice{uint64(seed)*0x9e3779b97f4a7c15 + 1}
	p := with()
	p.Locals = p.Locals[:1+d.below(8)]
	var begin []api.Ins
	if d.below(2) == 0 {
		for a := range p.Locals {
			begin = append(begin, api.Ins{Op: api.New, A: uint8(a)})
		}
	}
	many := len(begin) + 1 + d.below(24)
	for len(begin) < many {
		begin = append(begin, d.ins(p, many))
	}
	p.Code = begin
	return p
}

// P8.2: of many programs.
func TestManyPrograms(t *testing.T) {
	ops := map[uint8]int{}
	places, held := 0, 0
	for seed := range 6000 {
		p := some(seed)
		wantRunnable(t, p)
		want := chapterIn(p)
		wantIn(t, p, want...)
		for _, i := range p.Code {
			ops[i.Op]++
		}
		for _, in := range want {
			for a := range p.Locals {
				places++
				held += int(in >> a & 1)
			}
		}
		if t.Failed() {
			t.FailNow()
		}
	}
	// So that the programs are not all of one sort.
	if len(ops) != 15 || held < places/5 || held > places*4/5 {
		t.Errorf("the operations are %v, and %d of %d are held", ops, held, places)
	}
}

// short is what all short programs are made of, beside jumps: it uses p[0], sets it, does both, or neither, and p[1] likewise.
func short() []api.Ins {
	return []api.Ins{{Op: api.Print}, {Op: api.New}, {Op: api.LoadI}, {Op: api.LoadP, N: 1}, {Op: api.Move, A: 1}}
}

// allShort is each program of so many of these, and of Jumps and Zeros to each place.
func allShort(many int, each func(api.Prog)) {
	kinds := short()
	for to := range many + 1 {
		kinds = append(kinds, jump(to), zero(to))
	}
	all := 1
	for range many {
		all *= len(kinds)
	}
	for which := range all {
		code := make([]api.Ins, many)
		for at := range code {
			code[at] = kinds[which%len(kinds)]
			which /= len(kinds)
		}
		each(with(code...))
	}
}

// P8.2: of all short programs.
func TestAllShortPrograms(t *testing.T) {
	for many := 1; many <= 4; many++ {
		allShort(many, func(p api.Prog) {
			if got, want := In(p), chapterIn(p); !slices.Equal(got, want) {
				t.Errorf("In = %08b, want %08b: %v", got, want, p.Code)
			}
		})
	}
}

// codeOf takes five bytes for an instruction, the last one for an N that is small or far off.
func codeOf(b []byte) []api.Ins {
	var code []api.Ins
	for c := range slices.Chunk(b, 5) {
		if len(c) < 5 {
			break
		}
		n := int64(int8(c[4]))
		if n > 100 {
			n <<= 32
		}
		code = append(code, api.Ins{Op: c[0], A: c[1], B: c[2], C: c[3], N: n})
	}
	return code
}

func FuzzLive(f *testing.F) {
	f.Add([]byte{5, 0, 0, 0, 0, 4, 0, 0, 0, 0, 14, 0, 0, 0, 0})
	f.Add([]byte{4, 0, 0, 0, 2, 7, 0, 1, 0, 0, 3, 0, 0, 0, 3})
	f.Add([]byte{3, 0, 0, 0, 200, 11, 9, 9, 9, 127, 16, 9, 9, 9, 9})
	f.Fuzz(func(t *testing.T, b []byte) {
		p := with(codeOf(b[:min(len(b), 5*300)])...)
		if _, e := check.Check(p); e != api.OK {
			In(p)
			return
		}
		wantIn(t, p, chapterIn(p)...)
		wantAlike(t, p, 1, 100)
	})
}
