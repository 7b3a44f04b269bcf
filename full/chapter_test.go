package full

import (
	"slices"
	"testing"

	"lockstitch/api"
	"lockstitch/check"
)

const (
	ends = iota
	doesNo
	doesNoToOthers
	writesOwn
)

// what is what P10.1 says of each operation, by its number.
func what(op uint8) int {
	return []int{
		ends, doesNo, doesNo, ends, ends, ends, doesNoToOthers, doesNoToOthers,
		ends, writesOwn, ends, writesOwn, ends, ends, doesNo, doesNo,
	}[op]
}

// goesOn is whether an instruction does not end what is gone through for p[a].
func goesOn(i api.Ins, a uint8) bool {
	switch what(i.Op) {
	case doesNo:
		return true
	case doesNoToOthers:
		return i.A != a
	case writesOwn:
		return i.A == a
	}
	return false
}

// hasField is whether some of these instructions writes the field k of p[a].
func hasField(code []api.Ins, a uint8, k int) bool {
	return slices.ContainsFunc(code, func(i api.Ins) bool {
		return what(i.Op) == writesOwn && i.A == a && i.N == int64(k)
	})
}

// isWhole asks it of all fields.
func isWhole(p api.Prog, code []api.Ins, a uint8) bool {
	for k := range p.Types[p.Locals[a]-'0'] {
		if !hasField(code, a, k) {
			return false
		}
	}
	return true
}

// chapterLast is a second reading of P10.1: it asks each place anew whether all up to it goes on, and whether all is written by then.
func chapterLast(p api.Prog, at int) int {
	if at < 0 || at >= len(p.Code) || p.Code[at].Op != api.New {
		return -1
	}
	a := p.Code[at].A
	for place := at + 1; place < len(p.Code); place++ {
		way := p.Code[at+1 : place+1]
		for _, i := range way {
			if !goesOn(i, a) {
				return -1
			}
		}
		if isWhole(p, way, a) {
			return place
		}
	}
	return -1
}

// wantChapter asks it of each place of a program, and tells of how many News it is true and false.
func wantChapter(t *testing.T, p api.Prog) (is, isNot int) {
	t.Helper()
	for at := -1; at <= len(p.Code)+1; at++ {
		want := chapterLast(p, at)
		if got := Last(p, at); got != want {
			t.Fatalf("Last of %d = %d, want %d: %q %v", at, got, want, p.Types, p.Code)
		}
		if got := Full(p, at); got != (want != -1) {
			t.Fatalf("Full of %d = %v, and Last is %d: %q %v", at, got, want, p.Types, p.Code)
		}
		switch {
		case want != -1:
			is++
		case at >= 0 && at < len(p.Code) && p.Code[at].Op == api.New:
			isNot++
		}
	}
	return is, isNot
}

// dice is numbers of a short rule.
type dice struct{ at uint64 }

func (d *dice) below(n int) int {
	d.at = d.at*6364136223846793005 + 1442695040888963407
	return int(d.at >> 33 % uint64(n))
}

// op is that of some instruction: of a quiet program most are such that do not end what is gone through, and of others half of them are writes.
func (d *dice) op(quiet bool) uint8 {
	switch k := d.below(24); {
	case quiet && k > 16:
		return []uint8{api.Set, api.Add, api.Print, api.Same, api.Nil, api.Move}[d.below(6)]
	case k > 12 || quiet && k > 1:
		return []uint8{api.StoreI, api.StoreP}[d.below(2)]
	}
	return uint8(1 + d.below(15))
}

// ins is some instruction that may be at that place of such a program, of so many instructions: one is tried after the other. Most writes are of what was made last; of four jumps three go ahead.
func (d *dice) ins(p api.Prog, at, many int, made uint8, quiet bool) api.Ins {
	for {
		i := api.Ins{Op: d.op(quiet)}
		own := what(i.Op) == writesOwn && d.below(16) > 0
		for range 20 {
			letters := hasLetters(i.Op)
			i.A, i.B, i.C = d.letter(letters&1 != 0), d.letter(letters&2 != 0), d.letter(letters&4 != 0)
			if own {
				i.A = made
			}
			switch {
			case i.Op != api.Jump && i.Op != api.Zero:
				i.N = int64(d.below(api.Fields)) * int64(letters>>3)
			case d.below(4) == 0:
				i.N = int64(d.below(at + 1))
				return i
			default:
				i.N = int64(at + 1 + d.below(many-at))
				return i
			}
			p.Code = []api.Ins{i}
			if _, e := check.Check(p); e == api.OK {
				return i
			}
		}
	}
}

func (d *dice) letter(has bool) uint8 {
	if !has {
		return 0
	}
	return uint8(d.below(api.Ptrs))
}

// hasLetters is what an operation has: 1 for A, 2 for B, 4 for C, 8 for N.
func hasLetters(op uint8) int {
	return []int{0, 9, 7, 8, 9, 1, 1, 3, 11, 11, 11, 11, 3, 3, 1, 7}[op]
}

// types is one to three types of one to six fields, short ones more often than long ones.
func (d *dice) types() []string {
	all := make([]string, 1+d.below(3))
	for t := range all {
		letters := make([]byte, 1+d.below(1+d.below(api.Fields)))
		for k := range letters {
			letters[k] = "ii012"[d.below(2+len(all))]
		}
		all[t] = string(letters)
	}
	return all
}

func (d *dice) refs(types []string, many int) string {
	all := make([]byte, many)
	for k := range all {
		all[k] = byte('0' + d.below(len(types)))
	}
	return string(all)
}

// some is a program that may be run, another one for each number. Half of them begin with an object for each pointer local.
func some(seed int) api.Prog {
	d := &dice{uint64(seed)*0x9e3779b97f4a7c15 + 1}
	p := api.Prog{Types: d.types()}
	p.Locals, p.Globs = d.refs(p.Types, 1+d.below(api.Ptrs)), d.refs(p.Types, d.below(api.Globs+1))
	var begin []api.Ins
	made, quiet := uint8(0), d.below(2) == 0
	if d.below(2) == 0 {
		for a := range p.Locals {
			made = uint8(a)
			begin = append(begin, api.Ins{Op: api.New, A: made})
		}
	}
	many := len(begin) + 1 + d.below(40)
	for len(begin) < many {
		i := d.ins(p, len(begin), many, made, quiet)
		if i.Op == api.New {
			made = i.A
		}
		begin = append(begin, i)
	}
	p.Code = begin
	return p
}

// P10.1, P10.2: of many programs.
func TestManyPrograms(t *testing.T) {
	ops, sizes := map[uint8]int{}, map[int]int{}
	is, isNot := 0, 0
	for seed := range 20000 {
		p := some(seed)
		wantRunnable(t, p)
		oneIs, oneIsNot := wantChapter(t, p)
		is += oneIs
		isNot += oneIsNot
		for at, i := range p.Code {
			ops[i.Op]++
			if Full(p, at) {
				sizes[len(p.Types[p.Locals[i.A]-'0'])]++
			}
		}
	}
	// So that the programs are not all of one sort.
	if len(ops) != 15 || len(sizes) != api.Fields || is < 6000 || isNot < 30000 {
		t.Errorf("the operations are %v, the sizes of what is written whole %v; %d are, and %d are not", ops, sizes, is, isNot)
	}
}

// short is what all short programs are made of, beside jumps, of a type with a number and a pointer.
func short() []api.Ins {
	return []api.Ins{
		{Op: api.Print}, {Op: api.New}, {Op: api.New, A: 1}, {Op: api.Nil}, {Op: api.Nil, A: 1}, {Op: api.Move, B: 1}, {Op: api.Move, A: 1}, {Op: api.Move},
		{Op: api.StoreI}, {Op: api.StoreP, N: 1}, {Op: api.StoreP, B: 1, N: 1}, {Op: api.StoreI, A: 1}, {Op: api.StoreP, A: 1, N: 1},
		{Op: api.LoadI}, {Op: api.LoadP, A: 1, N: 1}, {Op: api.LoadP, N: 1}, {Op: api.LoadG, A: 1}, {Op: api.StoreG}, {Op: api.Same, A: 1},
	}
}

// allShort is each program of so many of these, and of Jumps and Zeros to each place.
func allShort(many int, each func(api.Prog)) {
	kinds := short()
	for to := range many + 1 {
		kinds = append(kinds, jump(to), zero(to))
	}
	all := 1
	for range many {
		all *= len(kinds)
	}
	for which := range all {
		code := make([]api.Ins, many)
		for at := range code {
			code[at] = kinds[which%len(kinds)]
			which /= len(kinds)
		}
		each(of("i0", code...))
	}
}

// P10.1, P10.2: of all short programs.
func TestAllShortPrograms(t *testing.T) {
	for many := 1; many <= 4; many++ {
		is := 0
		allShort(many, func(p api.Prog) {
			one, _ := wantChapter(t, p)
			is += one
		})
		if is == 0 != (many < 3) {
			t.Errorf("of %d instructions %d are written whole", many, is)
		}
	}
}

// codeOf takes five bytes for an instruction, the last one for an N that is small or far off.
func codeOf(b []byte) []api.Ins {
	var code []api.Ins
	for c := range slices.Chunk(b, 5) {
		if len(c) < 5 {
			break
		}
		n := int64(int8(c[4]))
		if n > 100 {
			n <<= 32
		}
		code = append(code, api.Ins{Op: c[0], A: c[1], B: c[2], C: c[3], N: n})
	}
	return code
}

func FuzzFull(f *testing.F) {
	f.Add("i0", []byte{5, 0, 0, 0, 0, 9, 0, 1, 0, 0, 6, 1, 0, 0, 0, 11, 0, 1, 0, 1})
	f.Add("i", []byte{5, 0, 0, 0, 0, 10, 1, 0, 0, 1, 9, 0, 0, 0, 0})
	f.Add("i9", []byte{5, 0, 0, 0, 0, 9, 0, 0, 0, 200, 16, 9, 9, 9, 127})
	f.Fuzz(func(t *testing.T, letters string, b []byte) {
		p := of(letters, codeOf(b[:min(len(b), 5*300)])...)
		if _, e := check.Check(p); e != api.OK {
			wantEnds(p)
			return
		}
		wantChapter(t, p)
		wantSurely(t, p, 100)
	})
}
