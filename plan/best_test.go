package plan

import (
	"strings"
	"testing"

	"lockstitch/api"
)

// P12.1: the chapter's example.
func TestExample(t *testing.T) {
	wantBest(t, read(t, number(), "new 0\nstorei 0 0 1\n"), "sr -")
}

// P12.1: a New that is both, one that is the one or the other, and one that is neither.
func TestBestOfNews(t *testing.T) {
	wantBest(t, lines(t, "new 0\nstorei 0 0 1\nstorep 0 1 1\n"), "sr - p")
	wantBest(t, lines(t, "new 0\nstorei 0 0 1\n"), "s -")
	wantBest(t, lines(t, "new 0\nstorei 0 0 1\nstorep 0 1 1\nstoreg 0 0\n"), "r - p -")
	wantBest(t, lines(t, "new 0\nstoreg 0 0\n"), "- -")
	wantBest(t, lines(t, "new 0\nnew 1\nstorep 1 1 0\nstorei 1 0 0\n"), "- sr p -")
}

// P12.1, Stack: what leaks and does not loop, what loops and does not leak, what does both, and neither.
func TestBestOfLeaksAndLoops(t *testing.T) {
	wantBest(t, lines(t, "new 0\nstoreg 0 0\nprint 0\n"), "- - -")
	wantBest(t, lines(t, "new 0\nprint 0\njump 0\n"), "- - -")
	wantBest(t, lines(t, "new 0\nstoreg 0 0\njump 0\n"), "- - -")
	wantBest(t, lines(t, "new 0\nprint 0\njump 1\n"), "s - -")
	// A Zero goes back, too, and so do jumps by way of others.
	wantBest(t, lines(t, "new 0\nprint 0\nzero 0 0\n"), "- - -")
	wantBest(t, lines(t, "new 0\nprint 0\nzero 0 1\n"), "s - -")
	wantBest(t, lines(t, "jump 3\nnew 0\njump 4\njump 1\njump 3\n"), "- - - - -")
	wantBest(t, lines(t, "jump 3\nnew 0\njump 4\njump 1\njump 5\n"), "- s - - -")
	// Of two the one ahead of a loop is done once, and the one in it is not.
	wantBest(t, lines(t, "new 0\nnew 1\nzero 0 1\nnew 2\n"), "s - - s")
}

// P12.1, Stack: it leaks by a Move, too, ahead of it or behind, and by a store to which no run comes; what is written into it, or moved into its local, does not matter.
func TestBestOfWhatLeaks(t *testing.T) {
	wantBest(t, lines(t, "new 0\nmove 1 0\nstoreg 3 1\n"), "- - -")
	wantBest(t, lines(t, "storeg 3 1\nmove 1 0\nnew 0\n"), "- - -")
	wantBest(t, lines(t, "new 0\njump 3\nstoreg 0 0\n"), "- - -")
	wantBest(t, lines(t, "new 0\nmove 1 0\nstorep 2 1 1\n"), "- - -")
	wantBest(t, lines(t, "new 0\nmove 0 1\nstoreg 3 1\n"), "s - -")
	wantBest(t, lines(t, "new 0\nstorep 0 1 2\nloadp 0 0 1\n"), "s p -")
	wantBest(t, lines(t, "new 0\nstorep 0 1 0\n"), "- p")
}

// P12.1: a New that a jump leads back to itself, and one from which a jump leads to itself.
func TestBestOfItsOwnNextPlace(t *testing.T) {
	wantBest(t, lines(t, "new 0\njump 0\n"), "- -")
	wantBest(t, lines(t, "new 0\nzero 0 0\n"), "- -")
	wantBest(t, lines(t, "new 0\njump 1\n"), "s -")
	wantBest(t, lines(t, "jump 1\nnew 0\n"), "- s")
	wantBest(t, lines(t, "print 0\nnew 0\njump 1\n"), "- - -")
	wantBest(t, read(t, number(), "new 0\nstorei 0 0 0\njump 0\n"), "r - -")
}

// P12.1, Raw: of one local's two places the one is written whole, and the other is not.
func TestBestOfOneOfTwoPlaces(t *testing.T) {
	wantBest(t, lines(t, "new 0\nstorei 0 0 0\nnew 0\nstorei 0 0 0\nstorep 0 1 1\n"), "s - sr - p")
	wantBest(t, lines(t, "new 0\nstorei 0 0 0\nstorep 0 1 1\nnew 0\nstorei 0 0 0\n"), "sr - p s -")
	wantBest(t, lines(t, "new 0\nstorep 0 1 1\nstorei 0 0 0\nstoreg 0 0\nnew 0\nloadi 0 0 0\n"), "r p - - - -")
	wantBest(t, read(t, number(), "new 0\nloadi 0 0 0\nstorei 0 0 0\nnew 0\nstorei 0 0 0\nloadi 0 0 0\n"), "s - - sr - -")
	wantBest(t, read(t, number(), "new 0\nnew 1\nstorei 0 0 0\nstorei 1 0 0\n"), "s s - -")
}

// P12.1, Raw: in a loop, too, and whether it is stored or not.
func TestBestOfWholeOnes(t *testing.T) {
	wantBest(t, read(t, number(), "new 0\nstorei 0 0 0\nstoreg 0 0\njump 0\n"), "r - - -")
	wantBest(t, read(t, number(), "new 0\nprint 0\nset 1 5\nadd 1 1 1\nnil 1\nmove 1 0\nsame 1 0 1\nstorei 0 0 1\n"), "sr - - - - - - -")
	wantBest(t, read(t, number(), "new 0\nzero 0 2\nstorei 0 0 0\n"), "s - -")
	wantBest(t, read(t, number(), "new 0\nmove 1 0\nstorei 1 0 0\n"), "s - -")
}

// P12.1, Plain: into an object that is surely new, and into one that is not: behind a safepoint of each sort, behind a load, and by a Move.
func TestBestOfStores(t *testing.T) {
	wantBest(t, lines(t, "new 0\nstorep 0 1 1\n"), "s p")
	wantBest(t, lines(t, "new 0\nnew 1\nstorep 0 1 2\nstorep 1 1 2\n"), "s s - p")
	wantBest(t, lines(t, "new 0\nnew 0\nstorep 0 1 2\n"), "s s p")
	wantBest(t, lines(t, "new 0\nzero 0 0\nstorep 0 1 2\n"), "- - -")
	wantBest(t, lines(t, "new 0\njump 3\njump 4\njump 2\nstorep 0 1 2\n"), "s - - - -")
	wantBest(t, lines(t, "new 0\nzero 0 2\nstorep 0 1 2\n"), "s - p")
	wantBest(t, lines(t, "new 0\njump 2\nstorep 0 1 2\n"), "s - p")
	wantBest(t, lines(t, "new 0\nloadp 0 0 1\nstorep 0 1 2\n"), "s - -")
	wantBest(t, lines(t, "new 0\nloadp 1 0 1\nstorep 0 1 2\nstorep 1 1 2\n"), "s - p -")
	wantBest(t, lines(t, "new 0\nloadg 0 0\nstorep 0 1 2\n"), "s - -")
	wantBest(t, lines(t, "new 1\nmove 0 1\nstorep 0 1 2\n"), "s - p")
	wantBest(t, lines(t, "new 1\nnew 0\nmove 0 1\nstorep 0 1 2\n"), "s s - -")
	wantBest(t, lines(t, "new 1\nmove 0 1\nmove 3 0\nstorep 3 1 2\nstorep 1 1 2\n"), "s - - p p")
	// What is stored does not matter.
	wantBest(t, lines(t, "new 1\nnew 0\nstorep 0 1 1\nstorep 1 1 0\n"), "- - p -")
}

// P12.1, Plain: at the beginning all locals are nothing, and so is one behind a Nil; the store is looked at ahead of itself, and of each way that leads there.
func TestBestOfStoresIntoNothing(t *testing.T) {
	for a := range uint8(8) {
		wantBest(t, of(storeP(a, 1)), "p")
		wantBest(t, of(made(a), storeP(a, 1)), []string{"s p", "- p"}[count(a == 1)])
		wantBest(t, of(made((a+1)%8), storeP(a, a)), "s -")
	}
	wantBest(t, lines(t, "new 1\nnil 0\nstorep 0 1 2\n"), "s - p")
	wantBest(t, lines(t, "new 1\nstorep 0 1 2\nnil 0\n"), "s - -")
	wantBest(t, lines(t, "storep 0 1 2\njump 0\n"), "- -")
	wantBest(t, lines(t, "storep 0 1 2\nnew 0\nzero 0 1\nstorep 0 1 2\n"), "p - - -")
	wantBest(t, lines(t, "zero 0 3\nnew 0\njump 4\nloadg 0 0\nstorep 0 1 2\n"), "- s - - -")
	wantBest(t, lines(t, "zero 0 3\nnew 0\njump 4\nnil 0\nstorep 0 1 2\n"), "- s - - p")
}

// P12.1: of all others nothing is left out, whatever the promises below say of their p[A].
func TestBestOfOthers(t *testing.T) {
	wantBest(t, lines(t, "storei 0 0 1\nstoreg 0 0\nnil 0\nmove 0 1\nprint 0\nset 0 1\nadd 0 0 0\nsame 0 0 0\n"), "- - - - - - - -")
	wantBest(t, lines(t, "loadg 0 0\nstoreg 0 0\nzero 0 3\njump 4\nprint 0\n"), "- - - - -")
	wantBest(t, lines(t, "new 0\nstorei 0 0 1\nnil 1\nmove 2 0\nloadi 0 0 0\nloadp 3 0 1\nloadg 4 0\nprint 1\n"), "s - - - - - - -")
	wantBest(t, read(t, number(), "nil 0\nstorei 0 0 0\nloadi 0 0 0\n"), "- - -")
}

// P12.1: a New that is never run, and a StoreP that is not, are as others.
func TestBestOfWhatIsNeverRun(t *testing.T) {
	wantBest(t, lines(t, "jump 3\nnew 0\nstorep 0 1 1\nprint 0\n"), "- s p -")
	wantBest(t, lines(t, "jump 3\nstorep 0 1 1\nnew 0\nprint 0\n"), "- p s -")
	wantBest(t, lines(t, "jump 3\nnew 0\nstoreg 0 0\nprint 0\n"), "- - - -")
	wantBest(t, lines(t, "jump 3\nnew 0\njump 1\nprint 0\n"), "- - - -")
	wantBest(t, read(t, number(), "jump 3\nnew 0\nstorei 0 0 1\n"), "- sr -")
}

// P12.1: a type for each pointer: all its fields are asked for, and those of the others are not.
func TestBestOfManyTypes(t *testing.T) {
	p := api.Prog{Types: []string{"i", "01i", "000000"}, Locals: "0121", Globs: "12"}
	wantBest(t, read(t, p, "new 0\nstorei 0 0 1\n"), "sr -")
	wantBest(t, read(t, p, "new 1\nstorep 1 0 0\nstorep 1 1 3\nstorei 1 2 5\n"), "sr p p -")
	wantBest(t, read(t, p, "new 1\nstorep 1 0 0\nstorep 1 1 3\nprint 5\n"), "s p p -")
	wantBest(t, read(t, p, "new 2\nstorep 2 5 0\nstorep 2 4 0\nstorep 2 3 0\nstorep 2 2 0\nstorep 2 1 0\nstorep 2 0 0\n"), "sr p p p p p p")
	wantBest(t, read(t, p, "new 0\nnew 2\nstorep 2 5 0\nstorep 2 4 0\nstorep 2 3 0\nstorep 2 2 0\nstorep 2 1 0\nstorep 2 1 0\nstoreg 1 2\n"), "- - p p p p p p -")
}

// P12.1: programs of one instruction, of each operation.
func TestBestOfOneInstruction(t *testing.T) {
	for op := uint8(1); op <= api.Same; op++ {
		i := api.Ins{Op: op}
		if op == api.LoadP || op == api.StoreP {
			i.N = 1
		}
		text := "-"
		switch op {
		case api.New:
			text = "s"
		case api.StoreP:
			text = "p"
		}
		wantBest(t, of(i), text)
		if hasNoPointer := op != api.LoadP && op != api.StoreP; hasNoPointer {
			wantBest(t, number(i), text)
		}
	}
}

// texts is so many of one word each.
func texts(word string, many int) string { return strings.Repeat(word+" ", many) }

// P12.1: of the most instructions that there may be, and of one more.
func TestBestOfTheMostInstructions(t *testing.T) {
	wantBest(t, of(repeat(made(3), api.Most)...), texts("s", api.Most))
	wantBest(t, of(repeat(storeP(3, 2), api.Most)...), texts("p", api.Most))
	wantBest(t, of(repeat(api.Ins{Op: api.Print}, api.Most)...), texts("-", api.Most))
	// The last one changes what is so of all.
	p := of(repeat(made(3), api.Most)...)
	p.Code[api.Most-1] = jump(0)
	wantBest(t, p, texts("-", api.Most))
	p.Code[api.Most-1] = zero(100)
	wantBest(t, p, texts("s", 100)+texts("-", 100))
	p.Code[api.Most-1] = api.Ins{Op: api.StoreG, B: 3}
	wantBest(t, p, texts("-", api.Most))
	p.Code[api.Most-1] = storeI(3)
	wantBest(t, p, texts("s", api.Most-1)+"-")
	p.Types = []string{"i"}
	wantBest(t, p, texts("s", api.Most-2)+"sr -")
	// From the first one to the last one.
	p = of(repeat(api.Ins{Op: api.Set, A: 1, N: 5}, api.Most)...)
	p.Code[0], p.Code[1], p.Code[api.Most-1] = made(3), storeI(3), storeP(3, 2)
	wantBest(t, p, "sr "+texts("-", api.Most-2)+"p")
	wantRefused(t, of(repeat(made(3), api.Most+1)...))
}

// R6: writing over what was answered changes no later answer, and what is answered twice is apart.
func TestAnswersAreNewMemory(t *testing.T) {
	p := lines(t, "new 0\nstorei 0 0 1\nstorep 0 1 1\nnew 1\nstoreg 0 1\n")
	first, second := best(t, p), best(t, p)
	none, e := None(p)
	if e != api.OK {
		t.Fatal(e)
	}
	for k := range first {
		first[k], none[k] = Fact{true, true, true}, Fact{true, true, true}
	}
	wantBest(t, p, "sr - p - -")
	for k, one := range facts("sr - p - -") {
		if second[k] != one {
			t.Errorf("%d: %v", k, second)
		}
	}
	// What is written behind the end of one list is not in another.
	_ = append(second[:2], Fact{true, true, true})
	wantBest(t, p, "sr - p - -")
}
