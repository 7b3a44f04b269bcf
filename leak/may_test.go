package leak

import (
	"slices"
	"testing"

	"lockstitch/api"
)

// P11.1, P11.2: the chapter's example.
func TestExample(t *testing.T) {
	p := lines(t, "new 0\nmove 1 0\nnew 2\nstorep 2 1 1\n")
	wantMay(t, p, want{0: {0}, 1: {0}, 2: {2}})
	wantLeaks(t, p, 0)
}

// P11.1: a New's own local alone has its place.
func TestMayOfNewsAlone(t *testing.T) {
	for a := range uint8(8) {
		wantMay(t, with(made(a)), want{int(a): {0}})
		wantMay(t, with(api.Ins{Op: api.Print}, made(a), made(7-a)), want{int(a): {1}, int(7 - a): {2}})
	}
	wantMay(t, with(made(0), made(3), made(0), api.Ins{Op: api.Print}, made(0)), want{0: {0, 2, 4}, 3: {1}})
}

// P11.1: Moves in a row, of one local into another, and on, in each order of three of them, ahead of the New, behind it, and on both sides.
func TestMayOfMovesInARow(t *testing.T) {
	moves := []api.Ins{move(4, 1), move(5, 4), move(7, 5)}
	for _, order := range [][]int{{0, 1, 2}, {0, 2, 1}, {1, 0, 2}, {1, 2, 0}, {2, 0, 1}, {2, 1, 0}} {
		for ahead := range 4 {
			var code []api.Ins
			for _, k := range order {
				code = append(code, moves[k])
			}
			p := with(slices.Insert(code, ahead, made(1))...)
			wantRunnable(t, p)
			wantMay(t, p, want{1: {ahead}, 4: {ahead}, 5: {ahead}, 7: {ahead}})
		}
	}
}

// P11.1: what is handed on goes one way only.
func TestMayGoesOneWay(t *testing.T) {
	wantMay(t, lines(t, "new 1\nmove 1 0\n"), want{1: {0}})
	wantMay(t, lines(t, "move 0 1\nnew 0\n"), want{0: {1}})
	wantMay(t, lines(t, "new 0\nmove 1 0\nnew 1\nmove 2 1\nnew 2\n"), want{0: {0}, 1: {0, 2}, 2: {0, 2, 4}})
	wantMay(t, lines(t, "move 3 2\nmove 2 1\nnew 3\nnew 2\nnew 1\nnew 0\n"), want{0: {5}, 1: {4}, 2: {3, 4}, 3: {2, 3, 4}})
}

// chain is all eight locals, each moved into the next one of an order, and a New of the one of them that stands at begin.
func chain(order []uint8, begin int, against bool) api.Prog {
	var code []api.Ins
	for k := 1; k < len(order); k++ {
		code = append(code, move(order[k], order[k-1]))
	}
	if against {
		slices.Reverse(code)
	}
	return of("00000000", append(code, made(order[begin]))...)
}

// P11.1: a chain through all locals, its Moves in the order of the chain, and against it, of a New in its midst, too.
func TestMayOfTheLongestChain(t *testing.T) {
	for _, order := range [][]uint8{{0, 1, 2, 3, 4, 5, 6, 7}, {7, 6, 5, 4, 3, 2, 1, 0}, {3, 0, 7, 4, 1, 6, 2, 5}, {4, 5, 2, 7, 0, 6, 1, 3}} {
		for begin := range order {
			for _, against := range []bool{false, true} {
				p := chain(order, begin, against)
				wantRunnable(t, p)
				all := want{}
				for _, a := range order[begin:] {
					all[int(a)] = []int{7}
				}
				wantMay(t, p, all)
			}
		}
	}
}

// P11.1: two chains that meet, and go on as one; and one that parts.
func TestMayOfChainsThatMeet(t *testing.T) {
	wantMay(t, lines(t, "new 0\nmove 1 0\nmove 4 1\nnew 2\nmove 3 2\nmove 4 3\nmove 5 4\n"),
		want{0: {0}, 1: {0}, 2: {3}, 3: {3}, 4: {0, 3}, 5: {0, 3}})
	wantMay(t, lines(t, "move 5 4\nmove 4 3\nmove 4 1\nmove 3 2\nmove 1 0\nnew 2\nnew 0\n"),
		want{0: {6}, 1: {6}, 2: {5}, 3: {5}, 4: {5, 6}, 5: {5, 6}})
	wantMay(t, lines(t, "move 3 1\nmove 1 0\nmove 2 0\nmove 4 2\nnew 0\nnew 1\nnew 2\n"),
		want{0: {4}, 1: {4, 5}, 2: {4, 6}, 3: {4, 5}, 4: {4, 6}})
	// One comes to p[3] by two ways.
	wantMay(t, lines(t, "move 3 1\nmove 3 2\nmove 2 0\nmove 1 0\nnew 0\n"), want{0: {4}, 1: {4}, 2: {4}, 3: {4}})
}

// P11.1: a Move of a local into itself adds nothing, and of what no New made there is nothing to hand on.
func TestMayOfMovesIntoItself(t *testing.T) {
	wantMay(t, lines(t, "move 0 0\n"), nil)
	wantMay(t, lines(t, "new 0\nmove 0 0\nmove 1 1\n"), want{0: {0}})
	wantMay(t, lines(t, "move 1 1\nmove 1 0\nmove 0 0\nnew 0\n"), want{0: {3}, 1: {3}})
	wantMay(t, lines(t, "move 1 0\nmove 2 1\nmove 0 2\n"), nil)
}

// P11.1: in a round of Moves each local has all; what leads there gets nothing.
func TestMayOfARound(t *testing.T) {
	for begin := range uint8(3) {
		all := want{0: {3}, 1: {3}, 2: {3}}
		wantMay(t, of("00000000", move(1, 0), move(2, 1), move(0, 2), made(begin)), all)
		wantMay(t, of("00000000", move(0, 2), move(2, 1), move(1, 0), made(begin)), all)
	}
	wantMay(t, lines(t, "new 0\nnew 1\nmove 0 1\nmove 1 0\n"), want{0: {0, 1}, 1: {0, 1}})
	wantMay(t, lines(t, "new 3\nmove 0 3\nmove 1 0\nmove 0 1\nmove 4 1\nnew 4\n"), want{0: {0}, 1: {0}, 3: {0}, 4: {0, 5}})
	wantMay(t, lines(t, "new 1\nmove 0 3\nmove 1 0\nmove 0 1\nmove 4 1\nnew 3\n"), want{0: {0, 5}, 1: {0, 5}, 3: {5}, 4: {0, 5}})
	// All eight.
	var code []api.Ins
	for a := range uint8(8) {
		code = append(code, move((a+3)%8, a), made(a))
	}
	all := want{}
	for a := range 8 {
		all[a] = []int{1, 3, 5, 7, 9, 11, 13, 15}
	}
	wantMay(t, of("00000000", code...), all)
}

// P11.1: as many rows as Locals has letters, none where it has none, and a truth for each place, the end too.
func TestMayHasItsForm(t *testing.T) {
	for many := range 9 {
		for _, long := range []int{1, 2, 3, 64, 199, api.Most} {
			p := of("00000000"[:many], repeat(api.Ins{Op: api.Print}, long)...)
			wantRunnable(t, p)
			wantMay(t, p, nil)
			wantLeaks(t, p)
			for a := range many {
				p.Code[long-1] = made(uint8(a))
				wantMay(t, p, want{a: {long - 1}})
				p.Code[long-1] = move(uint8(a), uint8(many-1))
				wantMay(t, p, nil)
			}
		}
	}
}

// P11.1: nothing but a New and a Move gives a local a place, and nothing takes one away.
func TestMayOfOtherOperations(t *testing.T) {
	for _, text := range []string{
		"set 1 1", "add 1 1 1", "jump 3", "jump 0", "zero 1 3", "zero 1 0", "nil 1", "nil 0", "loadi 1 0 0", "storei 1 0 0", "storei 0 0 1",
		"loadp 1 0 1", "loadp 0 1 1", "loadp 0 0 1", "storep 1 1 0", "storep 0 1 1", "loadg 1 0", "loadg 0 1", "storeg 1 0", "storeg 0 1", "print 1", "print 0", "same 1 0 0", "same 0 1 0",
	} {
		wantMay(t, lines(t, text+"\nnew 0\nmove 2 0\n"), want{0: {1}, 2: {1}})
		wantMay(t, lines(t, "new 0\n"+text+"\nmove 2 0\n"), want{0: {0}, 2: {0}})
		wantMay(t, lines(t, "new 0\nmove 2 0\n"+text+"\n"), want{0: {0}, 2: {0}})
		wantMay(t, lines(t, "move 2 0\n"+text+"\nnew 0\nmove 3 1\n"), want{0: {2}, 2: {2}})
	}
}

// P11.1: what was loaded is handed on by no one, though the objects are the same.
func TestMayOfLoads(t *testing.T) {
	wantMay(t, lines(t, "new 0\nstorep 0 1 0\nloadp 1 0 1\nmove 2 1\n"), want{0: {0}})
	wantMay(t, lines(t, "new 0\nstoreg 2 0\nloadg 1 2\nmove 2 1\n"), want{0: {0}})
	wantMay(t, lines(t, "loadg 7 3\nloadp 6 7 1\n"), nil)
}

// P11.1: where no run comes, and behind what sets it anew, all counts as it does elsewhere.
func TestMayAsksForNoWay(t *testing.T) {
	wantMay(t, lines(t, "jump 3\nnew 0\nmove 1 0\nprint 0\n"), want{0: {1}, 1: {1}})
	wantMay(t, lines(t, "new 0\njump 3\nmove 1 0\nprint 0\n"), want{0: {0}, 1: {0}})
	wantMay(t, lines(t, "new 0\nnil 0\nmove 1 0\n"), want{0: {0}, 1: {0}})
	wantMay(t, lines(t, "new 0\nnew 0\nmove 1 0\n"), want{0: {0, 1}, 1: {0, 1}})
	wantMay(t, lines(t, "nil 0\nmove 1 0\nnew 2\nmove 0 2\n"), want{0: {2}, 1: {2}, 2: {2}})
}

// P11.1: programs of the most instructions: News alone; and one Move at each place among them.
func TestMayOfTheMostInstructions(t *testing.T) {
	p := of("00000000", repeat(made(5), api.Most)...)
	all := make([]int, api.Most)
	for at := range all {
		all[at] = at
	}
	wantMay(t, p, want{5: all})
	for _, at := range []int{0, 1, 63, 64, 100, 198, 199} {
		p.Code[at] = move(2, 5)
		rest := slices.Delete(slices.Clone(all), at, at+1)
		wantMay(t, p, want{5: rest, 2: rest})
		p.Code[at] = made(5)
	}
	// The chain against its order stands at the end, or far apart.
	for _, apart := range []int{1, 9, 28} {
		p := of("00000000", repeat(api.Ins{Op: api.Print}, api.Most)...)
		p.Code[0] = made(0)
		all := want{0: {0}}
		for k := range uint8(7) {
			p.Code[api.Most-1-int(k)*apart] = move(k+1, k)
			all[int(k)+1] = []int{0}
		}
		wantRunnable(t, p)
		wantMay(t, p, all)
	}
}

// R6: what is answered is new memory, and no row shares any with another one.
func TestMayIsNewMemory(t *testing.T) {
	text := "new 0\nmove 1 0\nmove 2 2\nnew 3\nprint 0\n"
	all := want{0: {0}, 1: {0}, 3: {3}}
	p := lines(t, text)
	for a := range 8 {
		may := May(p)
		row := may[a][:cap(may[a])]
		for at := range row {
			row[at] = !row[at]
		}
		for b, other := range may {
			if b != a && !slices.Equal(places(other), all[b]) {
				t.Errorf("writing over the row %d changes the row %d to %v", a, b, places(other))
			}
		}
		may[a] = nil
		wantMay(t, p, all)
		wantLeaks(t, p)
	}
}

// R6: what was handed in is not kept.
func TestMayDoesNotKeep(t *testing.T) {
	p := lines(t, "new 0\nmove 1 0\nstorep 2 1 1\n")
	may := May(p)
	p.Code[0], p.Code[1], p.Code[2] = made(2), move(3, 2), move(4, 3)
	if got := places(may[0]); !slices.Equal(got, []int{0}) {
		t.Errorf("p[0] %v", got)
	}
	if got := places(may[3]); got != nil {
		t.Errorf("p[3] %v", got)
	}
	wantMay(t, p, want{2: {0}, 3: {0}, 4: {0}})
	wantLeaks(t, p)
}
