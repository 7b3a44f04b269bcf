package plan

import (
	"slices"
	"testing"

	"lockstitch/api"
	"lockstitch/check"
)

// comes is the places behind one, as chapter 7 has them.
func comes(p api.Prog, at int) []int {
	switch i := p.Code[at]; i.Op {
	case api.Jump:
		return []int{int(i.N)}
	case api.Zero:
		return []int{at + 1, int(i.N)}
	}
	return []int{at + 1}
}

// rounds is a second reading of Loops (P7.2): of each place whether one comes back to it. Each place in turn may stand between two others.
func rounds(p api.Prog) []bool {
	many := len(p.Code) + 1
	to := make([][]bool, many)
	for at := range to {
		to[at] = make([]bool, many)
	}
	for at := range p.Code {
		for _, next := range comes(p, at) {
			to[at][next] = true
		}
	}
	for between := range many {
		for from := range many {
			for end := range many {
				to[from][end] = to[from][end] || to[from][between] && to[between][end]
			}
		}
	}
	back := make([]bool, many)
	for at := range back {
		back[at] = to[at][at]
	}
	return back
}

// stored is a second reading of Leaks (P11.1, P11.2), the other way: what is stored of a local, or moved into one of which that is so.
func stored(p api.Prog) (is [api.Ptrs]bool) {
	for range api.Ptrs {
		for _, i := range p.Code {
			switch i.Op {
			case api.StoreP, api.StoreG:
				is[i.B] = true
			case api.Move:
				is[i.B] = is[i.B] || is[i.A]
			}
		}
	}
	return is
}

// isSafe is what P7.1 says of an instruction's place.
func isSafe(p api.Prog, at int) bool {
	i := p.Code[at]
	back := i.N <= int64(at)
	return i.Op == api.New || i.Op == api.Jump && back || i.Op == api.Zero && back
}

const (
	always = -1
	never  = -2
)

// from is a second reading of P9.1, the other way: which local has to be new ahead of an instruction, so that a is new behind it.
func from(p api.Prog, at, a int) int {
	i := p.Code[at]
	isA := int(i.A) == a
	switch {
	case isA && (i.Op == api.New || i.Op == api.Nil):
		return always
	case isSafe(p, at), isA && (i.Op == api.LoadP || i.Op == api.LoadG):
		return never
	case isA && i.Op == api.Move:
		return int(i.B)
	}
	return a
}

// leads is, for each place, the places from which one comes to it.
func leads(p api.Prog) [][]int {
	all := make([][]int, len(p.Code)+1)
	for at := range p.Code {
		for _, to := range comes(p, at) {
			all[to] = append(all[to], at)
		}
	}
	return all
}

// isLost is a second reading of P9.2: whether there is a way back from a place, along which a local came from others, to where one of them was taken away.
func isLost(p api.Prog, lead [][]int, place, a int, been [][api.Ptrs]bool) bool {
	if been[place][a] {
		return false
	}
	been[place][a] = true
	for _, at := range lead[place] {
		b := from(p, at, a)
		if b == never || b >= 0 && isLost(p, lead, at, b, been) {
			return true
		}
	}
	return false
}

// goesOn is what P10.1 says of each operation: whether it does not end what is gone through for p[a].
func goesOn(i api.Ins, a uint8) bool {
	switch i.Op {
	case api.Set, api.Add, api.Print, api.Same:
		return true
	case api.Nil, api.Move:
		return i.A != a
	case api.StoreI, api.StoreP:
		return i.A == a
	}
	return false
}

// isWhole is a second reading of P10.1 and P10.2: whether each field, asked for by itself, is written as long as it goes on.
func isWhole(p api.Prog, at int) bool {
	a := p.Code[at].A
	way := p.Code[at+1:]
	if end := slices.IndexFunc(way, func(i api.Ins) bool { return !goesOn(i, a) }); end >= 0 {
		way = way[:end]
	}
	for k := range p.Types[p.Locals[a]-'0'] {
		if !slices.ContainsFunc(way, func(i api.Ins) bool {
			return (i.Op == api.StoreI || i.Op == api.StoreP) && i.A == a && i.N == int64(k)
		}) {
			return false
		}
	}
	return true
}

// chapterBest is a second reading of P12.1, by those of what it asks for.
func chapterBest(p api.Prog) []Fact {
	back, is, lead := rounds(p), stored(p), leads(p)
	l := make([]Fact, len(p.Code))
	for at, i := range p.Code {
		isNew := i.Op == api.New
		l[at] = Fact{
			Stack: isNew && !back[at] && !is[i.A],
			Raw:   isNew && isWhole(p, at),
			Plain: i.Op == api.StoreP && !isLost(p, lead, at, int(i.A), make([][api.Ptrs]bool, len(lead))),
		}
	}
	return l
}

// seen is of how many instructions something holds: which facts there were, of how many News and StorePs, and which ops.
type seen struct {
	facts, ops         map[int]int
	news, stores       int
	loops, leaks, both int
}

func sawNothing() *seen { return &seen{facts: map[int]int{}, ops: map[int]int{}} }

func (s *seen) add(p api.Prog, l []Fact) {
	back, is := rounds(p), stored(p)
	for at, i := range p.Code {
		s.ops[int(i.Op)]++
		s.facts[count(l[at].Stack)+2*count(l[at].Raw)+4*count(l[at].Plain)]++
		s.stores += count(i.Op == api.StoreP)
		if i.Op == api.New {
			s.news++
			s.loops += count(back[at] && !is[i.A])
			s.leaks += count(!back[at] && is[i.A])
			s.both += count(back[at] && is[i.A])
		}
	}
}

// wantChapter asks for both readings' answers of a program, and for Fits and Saved of them: of Best with a truth turned at a place or two, too.
func wantChapter(t *testing.T, p api.Prog) []Fact {
	t.Helper()
	want, got := chapterBest(p), best(t, p)
	if !slices.Equal(got, want) {
		t.Fatalf("Best = %v, want %v: %q %v", got, want, p.Types, p.Code)
	}
	wantNone(t, p)
	var saved [3]int
	for at := range got {
		for kind := range 3 {
			l := slices.Clone(got)
			flip(&l[at], kind)
			if may := has(got[at], kind); Fits(p, l) != may {
				t.Fatalf("Fits of %v = %v: %q %v", l, !may, p.Types, p.Code)
			}
			saved[kind] += count(has(got[at], kind))
		}
	}
	wantSaved(t, got, saved[0], saved[1], saved[2])
	return got
}

// dice is numbers of a short rule.
type dice struct{ at uint64 }

func (d *dice) below(n int) int {
	d.at = d.at*6364136223846793005 + 1442695040888963407
	return int(d.at >> 33 % uint64(n))
}

// op is that of some instruction: of a quiet program most do not end what is gone through behind a New.
func (d *dice) op(quiet bool) uint8 {
	switch k := d.below(24); {
	case quiet && k > 17:
		return []uint8{api.Set, api.Add, api.Print, api.Same, api.Nil, api.Move}[d.below(6)]
	case k > 14 || quiet && k > 4:
		return []uint8{api.StoreI, api.StoreP}[d.below(2)]
	case k > 11:
		return api.New
	}
	return uint8(1 + d.below(15))
}

// ins is some instruction that may be at that place of such a program, of so many instructions: one is tried after the other. Most writes are of what was made last; of three jumps two go ahead.
func (d *dice) ins(p api.Prog, at, many int, last uint8, quiet bool) api.Ins {
	for {
		i := api.Ins{Op: d.op(quiet)}
		own := (i.Op == api.StoreI || i.Op == api.StoreP) && d.below(8) > 0
		for range 20 {
			letters := hasLetters(i.Op)
			i.A, i.B, i.C = d.letter(letters&1 != 0), d.letter(letters&2 != 0), d.letter(letters&4 != 0)
			if own {
				i.A = last
			}
			switch {
			case i.Op != api.Jump && i.Op != api.Zero:
				i.N = int64(d.below(api.Fields)) * int64(letters>>3)
			case d.below(3) == 0:
				i.N = int64(d.below(at + 1))
				return i
			default:
				i.N = int64(at + 1 + d.below(many-at))
				return i
			}
			p.Code = []api.Ins{i}
			if _, e := check.Check(p); e == api.OK {
				return i
			}
		}
	}
}

func (d *dice) letter(has bool) uint8 {
	if !has {
		return 0
	}
	return uint8(d.below(api.Ptrs))
}

// hasLetters is what an operation has: 1 for A, 2 for B, 4 for C, 8 for N.
func hasLetters(op uint8) int {
	return []int{0, 9, 7, 8, 9, 1, 1, 3, 11, 11, 11, 11, 3, 3, 1, 7}[op]
}

// types is one to three types of one to six fields, short ones more often than long ones.
func (d *dice) types() []string {
	all := make([]string, 1+d.below(3))
	for t := range all {
		letters := make([]byte, 1+d.below(1+d.below(api.Fields)))
		for k := range letters {
			letters[k] = "ii012"[d.below(2+len(all))]
		}
		all[t] = string(letters)
	}
	return all
}

func (d *dice) refs(types []string, many int) string {
	all := make([]byte, many)
	for k := range all {
		all[k] = byte('0' + d.below(len(types)))
	}
	return string(all)
}

// some is a program that may be run, another one for each number. Half of them begin with an object for each pointer local.
func some(seed int) api.Prog {
	d := &dice{uint64(seed)*0x9e3779b97f4a7c15 + 1}
	p := api.Prog{Types: d.types()}
	p.Locals, p.Globs = d.refs(p.Types, 1+d.below(api.Ptrs)), d.refs(p.Types, d.below(api.Globs+1))
	var begin []api.Ins
	last, quiet := uint8(0), d.below(2) == 0
	if d.below(2) == 0 {
		for a := range p.Locals {
			last = uint8(a)
			begin = append(begin, made(last))
		}
	}
	many := len(begin) + 1 + d.below(30)
	for len(begin) < many {
		i := d.ins(p, len(begin), many, last, quiet)
		if i.Op == api.New {
			last = i.A
		}
		begin = append(begin, i)
	}
	p.Code = begin
	return p
}

// P12.1, P12.2, P12.3: of many programs.
func TestManyPrograms(t *testing.T) {
	saw := sawNothing()
	for seed := range 6000 {
		p := some(seed)
		wantRunnable(t, p)
		saw.add(p, wantChapter(t, p))
	}
	// So that the programs are not all of one sort: there are all operations, News of all four sorts, and StorePs of both.
	if len(saw.ops) != 15 || len(saw.facts) != 5 {
		t.Errorf("the operations are %v, the facts %v", saw.ops, saw.facts)
	}
	for k, least := range map[int]int{0: 60000, 1: 10000, 2: 900, 3: 1000, 4: 8000} {
		if saw.facts[k] < least {
			t.Errorf("the facts are %v", saw.facts)
		}
	}
	if saw.stores < saw.facts[4]+2000 || saw.loops < 1000 || saw.leaks < 6000 || saw.both < 800 {
		t.Errorf("%d stores, %d News, of which %d loop, %d leak, %d do both", saw.stores, saw.news, saw.loops, saw.leaks, saw.both)
	}
}

// short is what all short programs are made of, beside jumps.
func short() []api.Ins {
	return []api.Ins{
		made(0), made(1), move(0, 1), move(1, 0), storeI(0), storeP(0, 1), storeP(1, 0), storeP(0, 0),
		{Op: api.StoreG}, {Op: api.Nil}, {Op: api.LoadP, N: 1}, {Op: api.LoadG, A: 1}, {Op: api.Print},
	}
}

// allShort is each program of so many of these, and of Jumps and Zeros to each place.
func allShort(many int, each func(api.Prog)) {
	kinds := short()
	for to := range many + 1 {
		kinds = append(kinds, jump(to), zero(to))
	}
	all := 1
	for range many {
		all *= len(kinds)
	}
	for which := range all {
		code := make([]api.Ins, many)
		for at := range code {
			code[at] = kinds[which%len(kinds)]
			which /= len(kinds)
		}
		each(of(code...))
	}
}

// P12.1, P12.2, P12.3: of all short programs.
func TestAllShortPrograms(t *testing.T) {
	for many := 1; many <= 3; many++ {
		saw := sawNothing()
		allShort(many, func(p api.Prog) { saw.add(p, wantChapter(t, p)) })
		// Three instructions are the least that write such an object whole, and none of them stands in a round then.
		for k, least := range map[int]int{0: 1, 1: 1, 3: 3, 4: 1} {
			if saw.facts[k] == 0 != (many < least) {
				t.Errorf("of %d instructions the facts are %v", many, saw.facts)
			}
		}
	}
	// Of four, Best alone.
	allShort(4, func(p api.Prog) {
		if got, e := Best(p); e != api.OK || !slices.Equal(got, chapterBest(p)) {
			t.Errorf("Best = %v, %d, want %v: %v", got, e, chapterBest(p), p.Code)
		}
	})
}

// codeOf takes five bytes for an instruction, the last one for an N that is small or far off.
func codeOf(b []byte) []api.Ins {
	var code []api.Ins
	for c := range slices.Chunk(b, 5) {
		if len(c) < 5 {
			break
		}
		n := int64(int8(c[4]))
		if n > 100 {
			n <<= 32
		}
		code = append(code, api.Ins{Op: c[0], A: c[1], B: c[2], C: c[3], N: n})
	}
	return code
}

func FuzzPlan(f *testing.F) {
	f.Add("i0", []byte{5, 0, 0, 0, 0, 9, 0, 1, 0, 0, 6, 1, 0, 0, 0, 11, 0, 1, 0, 1})
	f.Add("i", []byte{5, 0, 0, 0, 0, 9, 0, 0, 0, 0, 4, 7, 0, 0, 0})
	f.Add("i9", []byte{5, 0, 0, 0, 0, 9, 0, 0, 0, 200, 16, 9, 9, 9, 127})
	f.Fuzz(func(t *testing.T, letters string, b []byte) {
		p := of(codeOf(b[:min(len(b), 5*220)])...)
		p.Types = []string{letters}
		if _, e := check.Check(p); e != api.OK {
			wantRefused(t, p)
			return
		}
		if len(p.Code) > 60 {
			best(t, p)
			return
		}
		wantChapter(t, p)
		wantSurely(t, p, 100)
	})
}
