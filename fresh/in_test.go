package fresh

import (
	"testing"

	"lockstitch/api"
)

// The example of the chapter: by the second New the first object is no new one any more.
func TestExample(t *testing.T) {
	wantIn(t, lines(t, "new 0\nnew 1\n"), all, bits(0), bits(1))
}

// P9.2: without jumps: what is behind each instruction is ahead of the next one, up to the end.
func TestInWithoutJumps(t *testing.T) {
	// Nothing takes anything.
	wantIn(t, lines(t, "set 0 1\nprint 0\nadd 0 1 2\n"), all, all, all, all)
	wantIn(t, lines(t, "nil 0\nnil 7\n"), all, all, all)
	wantIn(t, lines(t, "move 1 0\nmove 2 3\n"), all, all, all)
	wantIn(t, lines(t, "storep 0 1 1\nstoreg 0 1\nloadi 0 0 0\nstorei 0 0 0\nsame 0 1 4\n"), all, all, all, all, all, all)
	// What is loaded is taken away, and may come back.
	wantIn(t, lines(t, "loadg 0 0\nloadp 7 1 1\nnil 0\nnew 7\n"), all, but(0), but(0, 7), but(7), bits(7))
	wantIn(t, lines(t, "new 0\nloadp 0 0 1\nnil 0\n"), all, bits(0), 0, bits(0))
	// A Nil and what is moved come to what a New has made.
	wantIn(t, lines(t, "new 0\nnil 1\nmove 4 0\nmove 5 1\n"), all, bits(0), bits(0, 1), bits(0, 1, 4), bits(0, 1, 4, 5))
	wantIn(t, lines(t, "new 0\nmove 1 0\nmove 0 4\nmove 1 0\n"), all, bits(0), bits(0, 1), bits(1), 0)
	// What is stored, or asked, stays new.
	wantIn(t, lines(t, "new 0\nstorep 0 1 0\nstoreg 0 0\nsame 0 0 0\nstorei 0 0 0\nloadi 0 0 0\n"), all, bits(0), bits(0), bits(0), bits(0), bits(0), bits(0))
	// What is loaded of a new object is not.
	wantIn(t, lines(t, "new 0\nstorep 0 1 0\nloadp 1 0 1\nmove 0 1\n"), all, bits(0), bits(0), bits(0), 0)
	// Made anew in the same local.
	wantIn(t, lines(t, "new 0\nmove 1 0\nnew 0\n"), all, bits(0), bits(0, 1), bits(0))
}

// P9.2: of one instruction; a jump to itself is a safepoint, and its own next one.
func TestInOfOneInstruction(t *testing.T) {
	for _, c := range []struct {
		text     string
		own, end uint8
	}{
		{"set 0 1", all, all}, {"add 0 1 2", all, all}, {"jump 1", all, all}, {"zero 0 1", all, all}, {"new 0", all, bits(0)}, {"new 7", all, bits(7)},
		{"nil 7", all, all}, {"move 7 0", all, all}, {"move 7 7", all, all}, {"loadi 0 7 0", all, all}, {"storei 7 0 0", all, all},
		{"loadp 2 7 2", all, but(2)}, {"loadp 7 7 1", all, but(7)}, {"loadp 0 0 1", all, but(0)}, {"storep 7 2 2", all, all},
		{"loadg 7 0", all, but(7)}, {"storeg 1 6", all, all}, {"print 0", all, all}, {"same 0 7 1", all, all},
		// Nothing leads to the end behind a jump to itself, but behind a Zero it does.
		{"jump 0", 0, all}, {"zero 0 0", 0, 0},
	} {
		wantIn(t, lines(t, c.text+"\n"), c.own, c.end)
	}
}

// P9.2: a pointer local that is new along one way, along all of them, and along none.
func TestInOfWays(t *testing.T) {
	// Along one: along the other it is loaded.
	wantIn(t, lines(t, "zero 0 3\nnew 0\njump 4\nloadg 0 0\nprint 0\n"), all, all, bits(0), all, 0, 0)
	wantIn(t, lines(t, "zero 0 3\nloadg 0 0\njump 4\nnew 0\nprint 0\n"), all, all, but(0), all, 0, 0)
	// Along one: along the other the safepoint of another New lies behind it.
	wantIn(t, lines(t, "new 0\nzero 0 3\nnew 1\nprint 0\n"), all, bits(0), bits(0), 0, 0)
	// Along all.
	wantIn(t, lines(t, "zero 0 3\nnew 0\njump 4\nnew 0\nprint 0\n"), all, all, bits(0), all, bits(0), bits(0))
	wantIn(t, lines(t, "zero 0 3\nnew 0\njump 4\nnil 0\nprint 0\n"), all, all, bits(0), all, bits(0), bits(0))
	wantIn(t, lines(t, "new 0\nzero 0 4\nmove 1 0\njump 5\nnil 1\nprint 0\n"), all, bits(0), bits(0), bits(0, 1), bits(0), bits(0, 1), bits(0, 1))
	// Along all, but not the same objects.
	wantIn(t, lines(t, "zero 0 3\nnew 0\njump 5\nnew 1\nmove 0 1\nprint 0\n"), all, all, bits(0), all, bits(1), bits(0), bits(0))
	// Along none.
	wantIn(t, lines(t, "new 0\nzero 0 4\nloadg 0 0\njump 5\nloadp 0 0 1\nprint 0\n"), all, bits(0), bits(0), 0, bits(0), 0, 0)
	// One along each.
	wantIn(t, lines(t, "zero 0 3\nnew 0\njump 4\nnew 1\nprint 0\n"), all, all, bits(0), all, 0, 0)
}

// P9.2: a jump ahead takes nothing away, along both of a Zero's ways.
func TestInOfJumpsAhead(t *testing.T) {
	wantIn(t, lines(t, "new 0\njump 2\nprint 0\n"), all, bits(0), bits(0), bits(0))
	wantIn(t, lines(t, "new 0\nzero 0 2\nprint 0\n"), all, bits(0), bits(0), bits(0))
	wantIn(t, lines(t, "new 7\nzero 0 4\nnil 1\nmove 4 7\nprint 0\n"), all, bits(7), bits(7), bits(1, 7), bits(7), bits(7))
	wantIn(t, lines(t, "new 7\nzero 0 4\nloadg 7 0\njump 5\nmove 4 7\nprint 0\n"), all, bits(7), bits(7), 0, bits(7), 0, 0)
	// Two that lead to one place, and to the end.
	wantIn(t, lines(t, "new 0\nzero 0 4\nnew 1\nzero 0 5\nprint 0\n"), all, bits(0), bits(0), bits(1), 0, 0)
}

// P9.2: the place 0 has all eight, unless a jump comes back to it.
func TestInOfThePlaceZero(t *testing.T) {
	for _, way := range []string{"jump", "zero 0"} {
		end := uint8(0)
		if way == "jump" {
			end = all
		}
		wantIn(t, lines(t, "print 0\n"+way+" 0\n"), 0, 0, end)
		wantIn(t, lines(t, "print 0\n"+way+" 1\n"), all, 0, end)
		wantIn(t, lines(t, "new 0\n"+way+" 0\n"), 0, bits(0), end)
		wantIn(t, lines(t, "nil 0\n"+way+" 0\n"), 0, bits(0), end)
		wantIn(t, lines(t, "loadg 0 0\n"+way+" 0\n"), 0, 0, end)
	}
	// Though no run comes to the jump.
	wantIn(t, lines(t, "jump 2\njump 0\nprint 0\n"), 0, all, 0, 0)
}

// P9.2: places to which no run comes keep all that nothing takes from them, and take from others as if one came.
func TestInOfPlacesWithoutRuns(t *testing.T) {
	wantIn(t, lines(t, "new 0\njump 3\nprint 0\nprint 1\n"), all, bits(0), all, bits(0), bits(0))
	wantIn(t, lines(t, "new 0\njump 4\nnew 1\nmove 4 1\nprint 1\n"), all, bits(0), all, bits(1), 0, 0)
	wantIn(t, lines(t, "new 0\njump 3\nloadg 0 0\nprint 1\n"), all, bits(0), all, 0, 0)
	wantIn(t, lines(t, "new 0\njump 3\nnil 0\nprint 1\n"), all, bits(0), all, bits(0), bits(0))
	// A loop there takes its own away.
	wantIn(t, lines(t, "jump 3\nprint 0\njump 1\nprint 0\n"), all, 0, 0, all, all)
	wantIn(t, lines(t, "jump 4\nnil 1\nprint 0\nzero 0 1\nprint 0\n"), all, 0, bits(1), bits(1), 0, 0)
	// Behind a loop that has no end.
	wantIn(t, lines(t, "jump 0\nprint 0\nnew 3\n"), 0, all, all, bits(3))
	wantIn(t, lines(t, "print 0\njump 0\n"), 0, 0, all)
}

// P9.2: in a loop there is what it makes itself: what comes from ahead of it is taken away by the way back.
func TestInOfLoops(t *testing.T) {
	wantIn(t, lines(t, "new 0\nprint 0\nzero 0 1\nprint 1\n"), all, 0, 0, 0, 0)
	wantIn(t, lines(t, "new 0\nprint 0\njump 1\nprint 1\n"), all, 0, 0, all, all)
	wantIn(t, lines(t, "new 0\nnew 0\nprint 0\nzero 0 1\nprint 1\n"), all, 0, bits(0), bits(0), 0, 0)
	wantIn(t, lines(t, "new 0\nnil 1\nmove 4 0\nmove 5 1\nzero 0 1\nnil 7\n"), all, 0, bits(1), bits(1), bits(1, 5), 0, bits(7))
	// What was taken away goes on from move to move, ahead and not back.
	wantIn(t, lines(t, "new 0\nprint 0\nmove 1 0\nmove 4 1\nmove 5 4\nzero 0 1\n"), all, 0, 0, 0, 0, 0, 0)
	wantIn(t, lines(t, "nil 0\nmove 1 0\nzero 0 5\nzero 0 2\nmove 4 1\nmove 5 1\n"), all, all, 0, 0, 0, 0, 0)
	// Ahead of the loop nothing is taken away.
	wantIn(t, lines(t, "new 0\nmove 1 0\nnil 2\nprint 0\nzero 0 3\n"), all, bits(0), bits(0, 1), 0, 0, 0)
	// A loop that is entered in its middle.
	wantIn(t, lines(t, "new 0\njump 3\nnil 1\nprint 0\nzero 0 2\nprint 0\n"), all, bits(0), 0, 0, 0, 0, 0)
	wantIn(t, lines(t, "new 0\njump 3\nnew 0\nprint 0\nzero 0 2\nprint 0\n"), all, bits(0), 0, bits(0), bits(0), 0, 0)
	// A way out of it that goes ahead keeps what is new there.
	wantIn(t, lines(t, "new 0\nnew 1\nzero 0 4\njump 1\nprint 0\n"), all, 0, bits(1), bits(1), bits(1), bits(1))
}

// P9.2: loops in loops.
func TestInOfLoopsInLoops(t *testing.T) {
	// The inner one's way back takes away what the outer one makes.
	wantIn(t, lines(t, "new 0\nprint 0\nprint 1\nzero 0 1\nnil 1\nzero 1 0\nprint 0\n"), 0, 0, 0, 0, 0, bits(1), 0, 0)
	// The inner one makes its own.
	wantIn(t, lines(t, "print 0\nnew 1\nmove 4 1\nzero 0 1\nnew 0\nzero 1 0\nprint 0\n"), 0, 0, bits(1), bits(1, 4), 0, bits(0), 0, 0)
	// The outer one goes back into the middle of the inner one.
	wantIn(t, lines(t, "new 0\nnil 1\nnil 2\nzero 0 1\nnil 3\nzero 1 2\nnil 4\n"), all, 0, 0, bits(2), 0, bits(3), 0, bits(4))
	// Out of both of them at once, ahead.
	wantIn(t, lines(t, "print 0\nnew 3\nzero 2 6\nzero 0 1\nzero 1 0\nnil 3\nprint 0\n"), 0, 0, bits(3), bits(3), 0, 0, bits(3), bits(3))
}

// P9.2: of no pointer local, and of eight.
func TestInOfManyLocals(t *testing.T) {
	p := api.Prog{Types: []string{"i"}, Code: []api.Ins{{Op: api.Set}, zero(2), {Op: api.Print}, zero(3), jump(5)}}
	wantRunnable(t, p)
	wantIn(t, p, all, all, all, 0, 0, 0)
	p = api.Prog{Types: []string{"i"}, Locals: "0", Code: []api.Ins{{Op: api.Print}, {Op: api.New}, {Op: api.Print}}}
	wantRunnable(t, p)
	wantIn(t, p, all, all, 1, 1)
	p = api.Prog{Types: []string{"i"}, Locals: "00000000", Code: []api.Ins{{Op: api.New, A: 3}}}
	for _, a := range []uint8{0, 7, 1, 6, 2, 5, 4} {
		p.Code = append(p.Code, api.Ins{Op: api.Move, A: a, B: 3})
	}
	for a := range uint8(8) {
		p.Code = append(p.Code, api.Ins{Op: api.New, A: a})
	}
	wantRunnable(t, p)
	wantIn(t, p, all, bits(3), bits(0, 3), bits(0, 3, 7), bits(0, 1, 3, 7), bits(0, 1, 3, 6, 7), bits(0, 1, 2, 3, 6, 7), but(4), all, 1, 2, 4, 8, 16, 32, 64, 128)
}

// P9.2: of the most instructions that there may be.
func TestInOfTheMostInstructions(t *testing.T) {
	many := api.Most
	fill := func(first, last uint8) []uint8 {
		want := make([]uint8, many+1)
		for at := range want {
			want[at] = last
		}
		want[0] = first
		return want
	}
	p := with(repeat(api.Ins{Op: api.Print}, many)...)
	wantRunnable(t, p)
	wantIn(t, p, fill(all, all)...)
	// What the first one makes is new up to the end.
	p.Code[0] = api.Ins{Op: api.New, A: 7}
	wantIn(t, p, fill(all, bits(7))...)
	// A way back from the end takes it away.
	p.Code[many-1] = zero(1)
	wantRunnable(t, p)
	wantIn(t, p, fill(all, 0)...)
	p.Code[many-1] = zero(0)
	want := fill(0, bits(7))
	want[many] = 0
	wantIn(t, p, want...)
	// Each jumps to the one ahead of it.
	for at := range many {
		p.Code[at] = jump(max(at-1, 0))
	}
	wantRunnable(t, p)
	want = fill(0, 0)
	want[many-1], want[many] = all, all
	wantIn(t, p, want...)
	// Each makes another one.
	for at := range many {
		p.Code[at] = api.Ins{Op: api.New, A: uint8(at % 8)}
		want[at+1] = bits(at % 8)
	}
	want[0] = all
	wantRunnable(t, p)
	wantIn(t, p, want...)
}
