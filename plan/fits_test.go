package plan

import (
	"slices"
	"testing"

	"lockstitch/api"
)

// wantFits asks it, and that the facts stay as they were.
func wantFits(t *testing.T, p api.Prog, l []Fact, is bool) {
	t.Helper()
	was := slices.Clone(l)
	if got := Fits(p, l); got != is {
		t.Errorf("Fits of %v = %v: %v", was, got, p.Code)
	}
	if !slices.Equal(l, was) {
		t.Errorf("%v was made of %v", l, was)
	}
}

// hasAll is a program with a New of each sort, stores of both, and others.
func hasAll(t *testing.T) api.Prog {
	t.Helper()
	return lines(t, "new 0\nstorei 0 0 1\nstorep 0 1 1\nnew 1\nstoreg 0 1\nnew 2\nstorep 2 1 0\nstorei 2 0 0\nnew 3\nstorep 2 1 3\n")
}

// P12.2: Best itself, None, and all between: each choice of Best's truths fits.
func TestFitsOfBestAndBelow(t *testing.T) {
	p := hasAll(t)
	wantBest(t, p, "r - p - - sr p - - -")
	for choice := range 1 << 5 {
		l := make([]Fact, 10)
		l[0].Raw = choice&1 != 0
		l[2].Plain = choice&2 != 0
		l[5].Stack = choice&4 != 0
		l[5].Raw = choice&8 != 0
		l[6].Plain = choice&16 != 0
		wantFits(t, p, l, true)
	}
}

// P12.2: one truth more or less than Best's, at each place and of each kind; and than None's.
func TestFitsOfOneTruthMoreOrLess(t *testing.T) {
	for _, p := range []api.Prog{
		hasAll(t),
		lines(t, "new 0\nstorei 0 0 1\n"),
		lines(t, "storep 0 1 1\n"),
		lines(t, "print 0\n"),
		of(repeat(made(3), api.Most)...),
		of(repeat(storeP(3, 2), api.Most)...),
	} {
		own := best(t, p)
		for at := range own {
			for kind := range 3 {
				may := has(own[at], kind)
				l := slices.Clone(own)
				flip(&l[at], kind)
				wantFits(t, p, l, may)
				l = make([]Fact, len(own))
				flip(&l[at], kind)
				wantFits(t, p, l, may)
			}
		}
	}
}

// P12.2: each fact that there can be, of programs of one instruction and of two.
func TestFitsOfEachFact(t *testing.T) {
	for _, one := range allFacts() {
		wantFits(t, of(made(0)), []Fact{one}, !one.Raw && !one.Plain)
		wantFits(t, of(storeP(0, 1)), []Fact{one}, !one.Stack && !one.Raw)
		wantFits(t, of(storeI(0)), []Fact{one}, one == Fact{})
		wantFits(t, of(api.Ins{Op: api.StoreG}), []Fact{one}, one == Fact{})
		wantFits(t, of(made(0), jump(0)), []Fact{one, {}}, one == Fact{})
		wantFits(t, number(made(0), storeI(0)), []Fact{one, {}}, !one.Plain)
		wantFits(t, number(made(0), storeI(0)), []Fact{{}, one}, one == Fact{})
		wantFits(t, of(made(0), storeP(0, 1)), []Fact{{}, one}, !one.Stack && !one.Raw)
		wantFits(t, of(made(1), storeP(0, 1)), []Fact{{}, one}, one == Fact{})
	}
}

// P12.2: as many facts as there are, no more and no less, though the others fit.
func TestFitsOfTooFewAndTooMany(t *testing.T) {
	for _, p := range []api.Prog{hasAll(t), lines(t, "print 0\n"), lines(t, "new 0\n"), of(repeat(made(3), api.Most)...)} {
		none, e := None(p)
		if e != api.OK {
			t.Fatal(e)
		}
		for _, l := range [][]Fact{best(t, p), none} {
			many := len(l)
			wantFits(t, p, l, true)
			wantFits(t, p, l[:many-1], false)
			wantFits(t, p, l[1:], false)
			wantFits(t, p, append(slices.Clone(l), Fact{}), false)
			wantFits(t, p, append([]Fact{{}}, l...), false)
			wantFits(t, p, append(slices.Clone(l), l...), false)
		}
		wantFits(t, p, nil, false)
		wantFits(t, p, []Fact{}, false)
		wantFits(t, p, make([]Fact, 100000), false)
	}
}

// P12.2: what fits one program need not fit another one, of as many instructions.
func TestFitsOfAnother(t *testing.T) {
	one, other := lines(t, "new 0\nstorep 0 1 1\n"), lines(t, "new 0\nstorep 1 1 0\n")
	wantBest(t, one, "s p")
	wantBest(t, other, "- -")
	wantFits(t, one, best(t, other), true)
	wantFits(t, other, best(t, one), false)
}

// wantSaved asks it, and that the facts stay as they were.
func wantSaved(t *testing.T, l []Fact, stack, raw, plain int) {
	t.Helper()
	was := slices.Clone(l)
	if a, b, c := Saved(l); a != stack || b != raw || c != plain {
		t.Errorf("Saved of %v = %d, %d, %d, want %d, %d, %d", was, a, b, c, stack, raw, plain)
	}
	if !slices.Equal(l, was) {
		t.Errorf("%v was made of %v", l, was)
	}
}

// P12.3: of no facts, of each one alone, and of a few of each.
func TestSaved(t *testing.T) {
	wantSaved(t, nil, 0, 0, 0)
	wantSaved(t, []Fact{}, 0, 0, 0)
	wantSaved(t, facts("-"), 0, 0, 0)
	wantSaved(t, facts("s"), 1, 0, 0)
	wantSaved(t, facts("r"), 0, 1, 0)
	wantSaved(t, facts("p"), 0, 0, 1)
	wantSaved(t, facts("sr"), 1, 1, 0)
	wantSaved(t, facts("sp"), 1, 0, 1)
	wantSaved(t, facts("rp"), 0, 1, 1)
	wantSaved(t, facts("srp"), 1, 1, 1)
	wantSaved(t, facts("s - r p p - s sr s p p"), 4, 2, 4)
	wantSaved(t, allFacts(), 4, 4, 4)
	wantSaved(t, facts("srp srp srp"), 3, 3, 3)
}

// P12.3: it is no matter of whether a program has such facts, nor of how many there are.
func TestSavedOfMany(t *testing.T) {
	for many := range 300 {
		wantSaved(t, slices.Repeat(facts("s"), many), many, 0, 0)
		wantSaved(t, slices.Repeat(facts("r p"), many), 0, many, many)
		wantSaved(t, slices.Repeat(facts("srp -"), many), many, many, many)
	}
	wantSaved(t, slices.Repeat(facts("sr rp -"), 100000), 100000, 200000, 100000)
}

// P12.3: of two lists one behind the other it is what it is of both; of a list the other way round the same.
func TestSavedOfTwoLists(t *testing.T) {
	d := &dice{7}
	for range 2000 {
		var lists [2][]Fact
		for k := range lists {
			for range d.below(40) {
				lists[k] = append(lists[k], allFacts()[d.below(8)])
			}
		}
		a, b, c := Saved(lists[0])
		d, e, f := Saved(lists[1])
		both := slices.Concat(lists[0], lists[1])
		wantSaved(t, both, a+d, b+e, c+f)
		slices.Reverse(both)
		wantSaved(t, both, a+d, b+e, c+f)
	}
}

// P12.1, P12.3: of programs.
func TestSavedOfBest(t *testing.T) {
	for _, c := range []struct {
		p                 api.Prog
		stack, raw, plain int
	}{
		{hasAll(t), 1, 2, 2},
		{read(t, number(), "new 0\nstorei 0 0 1\n"), 1, 1, 0},
		{lines(t, "print 0\n"), 0, 0, 0},
		{of(repeat(made(3), api.Most)...), api.Most, 0, 0},
	} {
		wantSaved(t, best(t, c.p), c.stack, c.raw, c.plain)
		none, _ := None(c.p)
		wantSaved(t, none, 0, 0, 0)
	}
}
