package live

import (
	"testing"

	"lockstitch/api"
)

// The example of the chapter.
func TestExample(t *testing.T) {
	wantIn(t, lines(t, "new 0\nloadi 0 0 0\n"), 0, bits(0), 0)
}

// P8.2: without jumps: what is used and not set ahead of it.
func TestInWithoutJumps(t *testing.T) {
	// Nothing is used: nothing matters.
	wantIn(t, lines(t, "new 0\nnil 1\nprint 0\n"), 0, 0, 0, 0)
	// Used without having been set.
	wantIn(t, lines(t, "print 0\nloadi 0 0 0\n"), bits(0), bits(0), 0)
	// Set twice: the first time for nothing.
	wantIn(t, lines(t, "new 0\nnew 0\nloadi 0 0 0\nnil 0\n"), 0, 0, bits(0), 0, 0)
	// Used twice.
	wantIn(t, lines(t, "new 0\nloadi 0 0 0\nset 0 1\nloadi 0 0 0\n"), 0, bits(0), bits(0), bits(0), 0)
	// Used ahead of its being set.
	wantIn(t, lines(t, "loadi 0 0 0\nnew 0\nloadi 0 0 0\n"), bits(0), 0, bits(0), 0)
	wantIn(t, lines(t, "new 0\nnew 1\nnew 2\nstorep 0 1 1\nstorep 0 2 2\nloadp 3 0 2\nsame 0 2 3\nprint 0\n"),
		0, bits(0), bits(0, 1), bits(0, 1, 2), bits(0, 2), bits(0, 2), bits(2, 3), 0, 0)
}

// P8.2: an instruction that sets what it uses, and ones that set another.
func TestInOfSetAndUsed(t *testing.T) {
	wantIn(t, lines(t, "new 0\nmove 0 0\nloadi 0 0 0\n"), 0, bits(0), bits(0), 0)
	wantIn(t, lines(t, "new 0\nmove 0 0\n"), 0, bits(0), 0)
	wantIn(t, lines(t, "new 0\nloadp 0 0 1\nloadi 0 0 0\n"), 0, bits(0), bits(0), 0)
	wantIn(t, lines(t, "new 0\nloadp 0 0 1\nnil 0\n"), 0, bits(0), 0, 0)
	wantIn(t, lines(t, "same 0 4 4\n"), bits(4), 0)
	wantIn(t, lines(t, "move 1 0\nloadi 0 1 0\n"), bits(0), bits(1), 0)
	wantIn(t, lines(t, "move 1 0\nsame 0 0 1\n"), bits(0), bits(0, 1), 0)
	wantIn(t, lines(t, "loadg 1 0\nstoreg 0 1\nloadg 1 0\n"), 0, bits(1), 0, 0)
}

// P8.2: of one instruction it is what it uses; a jump to itself holds nothing beside that.
func TestInOfOneInstruction(t *testing.T) {
	for _, c := range []struct {
		text string
		in   uint8
	}{
		{"set 0 1", 0}, {"add 0 1 2", 0}, {"jump 0", 0}, {"jump 1", 0}, {"zero 0 0", 0}, {"zero 0 1", 0}, {"new 7", 0}, {"nil 7", 0},
		{"move 7 0", bits(0)}, {"loadi 0 7 0", bits(7)}, {"storei 7 0 0", bits(7)}, {"loadp 2 7 2", bits(7)}, {"storep 7 2 2", bits(2, 7)},
		{"loadg 7 0", 0}, {"storeg 1 6", bits(6)}, {"print 0", 0}, {"same 0 7 1", bits(1, 7)},
	} {
		wantIn(t, lines(t, c.text+"\n"), c.in, 0)
	}
}

// P8.2: a pointer local that is set on all ways ahead of its use, and on all but one.
func TestInOfWays(t *testing.T) {
	wantIn(t, lines(t, "zero 0 3\nnew 0\njump 4\nnil 0\nloadi 0 0 0\n"), 0, 0, bits(0), 0, bits(0), 0)
	wantIn(t, lines(t, "zero 0 3\nnew 0\njump 4\nprint 0\nloadi 0 0 0\n"), bits(0), 0, bits(0), bits(0), bits(0), 0)
	wantIn(t, lines(t, "zero 0 3\nprint 0\njump 4\nnew 0\nloadi 0 0 0\n"), bits(0), bits(0), bits(0), 0, bits(0), 0)
}

// P8.2: what matters along one of a Zero's two ways alone.
func TestInOfZeros(t *testing.T) {
	// Along the way on.
	wantIn(t, lines(t, "zero 0 2\nloadi 0 0 0\nprint 0\n"), bits(0), bits(0), 0, 0)
	// Along the way of the jump.
	wantIn(t, lines(t, "zero 0 2\njump 3\nloadi 0 0 0\n"), bits(0), 0, bits(0), 0)
	// One along each.
	wantIn(t, lines(t, "zero 0 3\nloadi 0 1 0\njump 4\nloadi 0 0 0\n"), bits(0, 1), bits(1), 0, bits(0), 0)
	// A Zero's A is no pointer local.
	wantIn(t, lines(t, "zero 5 1\nprint 5\n"), 0, 0, 0)
}

// P8.2: what a jump goes past does not matter ahead of it.
func TestInPastPlaces(t *testing.T) {
	wantIn(t, lines(t, "jump 2\nloadi 0 0 0\nprint 0\n"), 0, bits(0), 0, 0)
	wantIn(t, lines(t, "jump 2\nnew 0\nloadi 0 0 0\n"), bits(0), 0, bits(0), 0)
}

// P8.2: a loop in which nothing is used holds nothing, for these are the least sets.
func TestInOfEmptyLoops(t *testing.T) {
	wantIn(t, lines(t, "new 0\nprint 0\njump 1\nloadi 0 0 0\n"), 0, 0, 0, bits(0), 0)
	wantIn(t, lines(t, "jump 0\n"), 0, 0)
	wantIn(t, lines(t, "new 0\nzero 0 0\nzero 1 1\n"), 0, 0, 0, 0)
	wantIn(t, lines(t, "jump 2\njump 0\njump 1\nsame 0 1 0\n"), 0, 0, 0, bits(0, 1), 0)
}

// P8.2: what matters only in a loop, and only behind one.
func TestInOfLoops(t *testing.T) {
	// Used at the loop's beginning: it matters up to its end.
	wantIn(t, lines(t, "new 0\nloadi 0 0 0\nprint 0\nzero 0 1\nprint 1\n"), 0, bits(0), bits(0), bits(0), 0, 0)
	// Set ahead of it, in the loop.
	wantIn(t, lines(t, "new 0\nloadi 0 0 0\nprint 0\nzero 0 0\nprint 1\n"), 0, bits(0), 0, 0, 0, 0)
	// Used behind the loop: it matters all through it.
	wantIn(t, lines(t, "new 0\nprint 0\nzero 0 1\nloadi 0 0 0\n"), 0, bits(0), bits(0), bits(0), 0)
	// Behind a loop that sets it.
	wantIn(t, lines(t, "new 0\nprint 0\nnew 0\nzero 0 1\nloadi 0 0 0\n"), 0, 0, 0, bits(0), bits(0), 0)
	// A loop that is entered in its middle.
	wantIn(t, lines(t, "jump 3\nloadi 0 0 0\nprint 0\nnew 1\nloadi 0 1 0\nzero 0 1\n"), bits(0), bits(0), bits(0), bits(0), bits(0, 1), bits(0), 0)
}

// P8.2: loops in loops: what the inner one uses matters in the outer one, and the other way.
func TestInOfLoopsInLoops(t *testing.T) {
	wantIn(t, lines(t, "print 0\nprint 1\nloadi 0 1 0\nzero 0 1\nloadi 0 0 0\nzero 1 0\nloadi 0 2 1\n"),
		bits(0, 1, 2), bits(0, 1, 2), bits(0, 1, 2), bits(0, 1, 2), bits(0, 1, 2), bits(0, 1, 2), bits(2), 0)
	// The outer one sets what the inner one uses.
	wantIn(t, lines(t, "new 1\nprint 1\nloadi 0 1 0\nzero 0 1\nloadi 0 0 0\nzero 1 0\n"),
		bits(0), bits(0, 1), bits(0, 1), bits(0, 1), bits(0), bits(0), 0)
	// What is moved from one to the next one, round by round.
	wantIn(t, lines(t, "move 5 4\nmove 4 1\nmove 1 0\nzero 0 0\nloadi 0 5 0\n"),
		bits(0, 1, 4), bits(0, 1, 5), bits(0, 4, 5), bits(0, 1, 4, 5), bits(5), 0)
}

// P8.2: of no pointer local, and of eight.
func TestInOfManyLocals(t *testing.T) {
	p := api.Prog{Types: []string{"i"}, Code: []api.Ins{{Op: api.Set}, zero(0), {Op: api.Print}, jump(4)}}
	wantRunnable(t, p)
	wantIn(t, p, 0, 0, 0, 0, 0)
	p = api.Prog{Types: []string{"i"}, Locals: "00000000"}
	for a := range uint8(8) {
		p.Code = append(p.Code, api.Ins{Op: api.New, A: a})
	}
	for a := range uint8(8) {
		p.Code = append(p.Code, api.Ins{Op: api.LoadI, B: a})
	}
	wantRunnable(t, p)
	wantIn(t, p, 0, 1, 3, 7, 15, 31, 63, 127, 255, 254, 252, 248, 240, 224, 192, 128, 0)
}

// P8.2: of the most instructions that there may be: a use at the end, a use of each place's own, and ways that lead back place by place.
func TestInOfTheMostInstructions(t *testing.T) {
	many := api.Most
	p := with(repeat(api.Ins{Op: api.Print}, many)...)
	p.Code[many-1] = api.Ins{Op: api.LoadI, B: 7}
	want := make([]uint8, many+1)
	for at := range many {
		want[at] = bits(7)
	}
	wantRunnable(t, p)
	wantIn(t, p, want...)
	// Each jumps to the one ahead of it, the first one uses p[7]; the last one is what begins.
	p.Code[0] = api.Ins{Op: api.LoadI, B: 7}
	for at := 1; at < many; at++ {
		p.Code[at] = jump(at - 1)
	}
	wantRunnable(t, p)
	wantIn(t, p, want...)
	// Without that use nothing matters.
	p.Code[0] = jump(many - 1)
	wantIn(t, p, make([]uint8, many+1)...)
	// The first one goes on behind its use.
	p.Code[0], p.Code[1] = api.Ins{Op: api.StoreP, A: 0, B: 1, N: 1}, jump(many)
	p.Code[2] = jump(0)
	want[0], want[1] = bits(0, 1), 0
	for at := 2; at < many; at++ {
		want[at] = bits(0, 1)
	}
	wantIn(t, p, want...)
}
