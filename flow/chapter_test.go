package flow

import (
	"slices"
	"testing"

	"lockstitch/api"
	"lockstitch/check"
)

// goes is a second reading of P7.1: whether the chapter lets a run go from the one place to the other. It says it of a pair, where Next makes a list.
func goes(p api.Prog, from, to int) bool {
	if from == len(p.Code) {
		return false
	}
	op, n := p.Code[from].Op, p.Code[from].N
	return to == from+1 && op != api.Jump || int64(to) == n && (op == api.Jump || op == api.Zero)
}

// table tells of each two places whether the second one is reached from the first one.
type table [][]bool

// closure is a second reading of P7.2: through each place in turn, of all pairs at once.
func closure(p api.Prog) table {
	many := len(p.Code) + 1
	l := make(table, many)
	for from := range l {
		l[from] = make([]bool, many)
		for to := range many {
			l[from][to] = goes(p, from, to)
		}
	}
	for by := range many {
		for from := range many {
			for to := range many {
				l[from][to] = l[from][to] || l[from][by] && l[by][to]
			}
		}
	}
	return l
}

func (l table) from(at int) []int {
	var places []int
	for to, is := range l[at] {
		if is {
			places = append(places, to)
		}
	}
	return places
}

// wantAsChapter holds all places of a program that may be run against the second reading.
func wantAsChapter(t *testing.T, p api.Prog) table {
	t.Helper()
	l := closure(p)
	for at := range len(p.Code) + 1 {
		var next []int
		back := false
		for to := range len(p.Code) + 1 {
			if goes(p, at, to) {
				next = append(next, to)
				back = back || to <= at
			}
		}
		wantNext(t, p, at, next...)
		wantSafe(t, p, at, back || at < len(p.Code) && p.Code[at].Op == api.New)
		wantReach(t, p, at, l.from(at)...)
	}
	return l
}

// dice is numbers of a short rule.
type dice struct{ at uint64 }

func (d *dice) below(n int) int {
	d.at = d.at*6364136223846793005 + 1442695040888963407
	return int(d.at >> 33 % uint64(n))
}

// ins is some instruction of a program of so many.
func (d *dice) ins(many int) api.Ins {
	switch all := plain(); d.below(8) {
	case 0:
		return api.Ins{Op: api.Jump, N: int64(d.below(many + 1))}
	case 1, 2:
		return api.Ins{Op: api.Zero, A: uint8(d.below(3)), N: int64(d.below(many + 1))}
	case 3:
		return api.Ins{Op: api.Set, A: uint8(d.below(3)), N: int64(d.below(3)) - 1}
	case 4:
		return api.Ins{Op: api.Add, A: uint8(d.below(3)), B: uint8(d.below(3)), C: uint8(d.below(3))}
	case 5:
		return api.Ins{Op: api.New, A: uint8(d.below(3))}
	default:
		return all[d.below(len(all))]
	}
}

// some is a program that may be run, another one for each number. Half of them begin with an object for each pointer local.
func some(seed int) api.Prog {
	d := &dice{uint64(seed)*0x9e3779b97f4a7c15 + 1}
	p := with()
	if d.below(2) == 0 {
		p.Code = []api.Ins{{Op: api.New}, {Op: api.New, A: 1}, {Op: api.New, A: 2}}
	}
	news := len(p.Code)
	p.Code = append(p.Code, prints(1+d.below(20))...)
	for at := news; at < len(p.Code); at++ {
		p.Code[at] = d.ins(len(p.Code))
	}
	return p
}

// P7.1 and P7.2: of many programs.
func TestManyPrograms(t *testing.T) {
	loops, reached, places := 0, 0, 0
	for seed := range 3000 {
		p := some(seed)
		wantRunnable(t, p)
		l := wantAsChapter(t, p)
		for at := range l {
			places += len(l)
			reached += len(l.from(at))
			if l[at][at] {
				loops++
			}
		}
		if t.Failed() {
			t.FailNow()
		}
	}
	// So that the programs are not all of one sort.
	if loops < 5000 || reached < places/4 || reached > places*3/4 {
		t.Errorf("%d places loop, and of %d pairs %d are reached", loops, places, reached)
	}
}

// jumping is each program of so many instructions, each of which is a print, a New, or a Jump or a Zero to a place.
func jumping(many int, each func(api.Prog)) {
	kinds := 2 + 2*(many+1)
	all := 1
	for range many {
		all *= kinds
	}
	for which := range all {
		code := prints(many)
		for at := range code {
			switch kind := which % kinds; {
			case kind == 1:
				code[at] = api.Ins{Op: api.New}
			case kind >= 2 && kind%2 == 0:
				code[at] = jump(kind/2 - 1)
			case kind >= 2:
				code[at] = zero(kind/2 - 1)
			}
			which /= kinds
		}
		each(with(code...))
	}
}

// P7.1 and P7.2: of all short programs.
func TestAllShortPrograms(t *testing.T) {
	for many := 1; many <= 3; many++ {
		jumping(many, func(p api.Prog) {
			wantRunnable(t, p)
			wantAsChapter(t, p)
		})
	}
}

// codeOf takes five bytes for an instruction, the last one for an N that is small or far off.
func codeOf(b []byte) []api.Ins {
	var code []api.Ins
	for c := range slices.Chunk(b, 5) {
		if len(c) < 5 {
			break
		}
		n := int64(int8(c[4]))
		if n > 100 {
			n <<= 32
		}
		code = append(code, api.Ins{Op: c[0], A: c[1], B: c[2], C: c[3], N: n})
	}
	return code
}

func FuzzFlow(f *testing.F) {
	f.Add([]byte{5, 0, 0, 0, 0, 4, 0, 0, 0, 0, 14, 0, 0, 0, 0})
	f.Add([]byte{4, 0, 0, 0, 2, 3, 0, 0, 0, 0, 3, 0, 0, 0, 3})
	f.Add([]byte{3, 0, 0, 0, 200, 4, 0, 0, 0, 127, 16, 9, 9, 9, 9})
	f.Fuzz(func(t *testing.T, b []byte) {
		p := with(codeOf(b[:min(len(b), 5*300)])...)
		if _, e := check.Check(p); e != api.OK {
			wantEnds(p)
			return
		}
		wantAsChapter(t, p)
		wantRun(t, p, 100)
	})
}
