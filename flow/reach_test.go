package flow

import (
	"slices"
	"testing"

	"lockstitch/api"
)

// P7.2: without jumps each place behind is reached, and the place itself is not; from the end nothing is.
func TestReachWithoutJumps(t *testing.T) {
	for _, i := range append(plain(), api.Ins{Op: api.New}) {
		for _, many := range []int{1, 2, 3, 7} {
			p := with(slices.Repeat([]api.Ins{i}, many)...)
			wantRunnable(t, p)
			for at := range many + 1 {
				wantReach(t, p, at, span(at+1, many)...)
			}
		}
	}
}

// P7.2: of what is no place there is not a single truth, and it does not loop.
func TestReachOfNoPlaces(t *testing.T) {
	for _, many := range []int{1, 2, 200} {
		for _, i := range []api.Ins{{Op: api.Print}, jump(0), zero(0), jump(many)} {
			p := put(many, many-1, i)
			wantRunnable(t, p)
			for _, no := range noPlaces(many) {
				if got := Reach(p, no); len(got) != 0 {
					t.Errorf("Reach of %d, which is no place of %d instructions: %v", no, many, got)
				}
				if Loops(p, no) {
					t.Errorf("Loops of %d, which is no place of %d instructions", no, many)
				}
			}
			if got := Reach(p, many); len(got) != many+1 || slices.Contains(got, true) {
				t.Errorf("Reach of the end of %d instructions: %v", many, got)
			}
		}
	}
}

// P7.2: what a jump goes past is not reached, but by others.
func TestReachPastPlaces(t *testing.T) {
	p := lines(t, "jump 3\nprint 0\nprint 1\nprint 2\n")
	for at, places := range [][]int{{3, 4}, {2, 3, 4}, {3, 4}, {4}, {}} {
		wantReach(t, p, at, places...)
	}
	p = lines(t, "zero 0 3\nprint 0\njump 5\nprint 1\njump 6\nprint 2\n")
	for at, places := range [][]int{{1, 2, 3, 4, 5, 6}, {2, 5, 6}, {5, 6}, {4, 6}, {6}, {6}, {}} {
		wantReach(t, p, at, places...)
	}
	// Through two jumps ahead, one of them to the other.
	p = lines(t, "jump 2\nprint 0\njump 4\nprint 1\nprint 2\n")
	for at, places := range [][]int{{2, 4, 5}, {2, 4, 5}, {4, 5}, {4, 5}, {5}, {}} {
		wantReach(t, p, at, places...)
	}
}

// P7.2: a program of one instruction.
func TestReachOfOneInstruction(t *testing.T) {
	for _, c := range []struct {
		i      api.Ins
		places []int
	}{{api.Ins{Op: api.New}, []int{1}}, {jump(0), []int{0}}, {jump(1), []int{1}}, {zero(0), []int{0, 1}}, {zero(1), []int{1}}} {
		p := with(c.i)
		wantRunnable(t, p)
		wantReach(t, p, 0, c.places...)
		wantReach(t, p, 1)
	}
}

// P7.2: what is in a loop reaches itself; what leads to it, or out of it, does not.
func TestReachOfLoops(t *testing.T) {
	p := lines(t, "print 0\nprint 1\nzero 0 1\nprint 2\n")
	for at, places := range [][]int{{1, 2, 3, 4}, {1, 2, 3, 4}, {1, 2, 3, 4}, {4}, {}} {
		wantReach(t, p, at, places...)
	}
	// Without a way out the end is not reached, but from behind the loop.
	p = lines(t, "print 0\nprint 1\njump 1\nprint 2\n")
	for at, places := range [][]int{{1, 2}, {1, 2}, {1, 2}, {4}, {}} {
		wantReach(t, p, at, places...)
	}
	// A place that goes to itself.
	p = lines(t, "print 0\njump 1\nzero 0 2\nprint 1\n")
	for at, places := range [][]int{{1}, {1}, {2, 3, 4}, {4}, {}} {
		wantReach(t, p, at, places...)
	}
}

// P7.2: a loop in a loop, two loops behind one another, and a loop that is entered in its middle.
func TestReachOfSeveralLoops(t *testing.T) {
	p := lines(t, "print 0\nprint 1\nprint 2\nzero 0 2\nzero 1 1\nprint 3\n")
	for at, places := range [][]int{span(1, 6), span(1, 6), span(1, 6), span(1, 6), span(1, 6), {6}, {}} {
		wantReach(t, p, at, places...)
	}
	p = lines(t, "print 0\nzero 0 0\nprint 1\nzero 0 2\n")
	for at, places := range [][]int{span(0, 4), span(0, 4), {2, 3, 4}, {2, 3, 4}, {}} {
		wantReach(t, p, at, places...)
	}
	p = lines(t, "jump 3\nprint 0\nprint 1\nzero 0 5\njump 1\nprint 2\n")
	for at, places := range [][]int{span(1, 6), span(1, 6), span(1, 6), span(1, 6), span(1, 6), {6}, {}} {
		wantReach(t, p, at, places...)
	}
	// Two loops that share places, and a piece behind a jump that none comes to.
	p = lines(t, "zero 0 3\nzero 1 0\njump 5\nprint 0\nzero 2 1\njump 7\nprint 1\nprint 2\n")
	for at, places := range [][]int{{0, 1, 2, 3, 4, 5, 7, 8}, {0, 1, 2, 3, 4, 5, 7, 8}, {5, 7, 8}, {0, 1, 2, 3, 4, 5, 7, 8}, {0, 1, 2, 3, 4, 5, 7, 8}, {7, 8}, {7, 8}, {8}, {}} {
		wantReach(t, p, at, places...)
	}
}

// P7.2: of the most instructions that there may be: one behind the other, a loop of all of them, and jumps back and ahead by turns.
func TestReachOfTheMostInstructions(t *testing.T) {
	p := with(prints(api.Most)...)
	for at := range api.Most + 1 {
		wantReach(t, p, at, span(at+1, api.Most)...)
	}
	p.Code[api.Most-1] = jump(0)
	for at := range api.Most {
		wantReach(t, p, at, span(0, api.Most-1)...)
	}
	wantReach(t, p, api.Most)
	p.Code[api.Most-1] = zero(0)
	for at := range api.Most {
		wantReach(t, p, at, span(0, api.Most)...)
	}
	// From 0 by turns to 198, 1, 197, 2 and so on, and to 99 and 100 again and again.
	for at := range api.Most {
		p.Code[at] = jump(api.Most - 1 - at)
		if at < api.Most/2-1 {
			p.Code[at] = jump(api.Most - 2 - at)
		}
	}
	wantRunnable(t, p)
	wantReach(t, p, 0, span(1, api.Most-2)...)
	wantReach(t, p, api.Most-1, span(0, api.Most-2)...)
	wantReach(t, p, 98, 99, 100)
	wantReach(t, p, api.Most)
	wantAsChapter(t, p)
}
