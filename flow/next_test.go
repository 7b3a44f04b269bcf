package flow

import (
	"testing"

	"lockstitch/api"
)

// The example of the chapter.
func TestExample(t *testing.T) {
	p := lines(t, "set 0 1\nzero 0 0\nprint 0\n")
	wantNext(t, p, 1, 0, 2)
	wantSafe(t, p, 1, true)
	if !Loops(p, 0) {
		t.Error("Loops of 0")
	}
}

// P7.1: each operation that does not jump goes on to the next place, wherever it stands; New alone of these is a safepoint.
func TestOfEachOperation(t *testing.T) {
	each := append(plain(), api.Ins{Op: api.New}, api.Ins{Op: api.New, A: 2})
	ops := map[uint8]bool{api.Jump: true, api.Zero: true}
	for _, i := range each {
		ops[i.Op] = true
		for many := 1; many <= 5; many++ {
			for at := range many {
				p := put(many, at, i)
				wantRunnable(t, p)
				for place := range many {
					wantNext(t, p, place, place+1)
					wantSafe(t, p, place, place == at && i.Op == api.New)
				}
			}
		}
	}
	if len(ops) != 15 {
		t.Errorf("these are not all operations: %v", ops)
	}
}

// P7.1: a Jump from each place to each one.
func TestOfJumps(t *testing.T) {
	for many := 1; many <= 6; many++ {
		for at := range many {
			for to := range many + 1 {
				p := put(many, at, jump(to))
				wantRunnable(t, p)
				wantNext(t, p, at, to)
				wantSafe(t, p, at, to <= at)
			}
		}
	}
}

// P7.1: a Zero from each place to each one; where its N is the next place there is one next place alone.
func TestOfZeros(t *testing.T) {
	for many := 1; many <= 6; many++ {
		for at := range many {
			for to := range many + 1 {
				p := put(many, at, zero(to))
				wantRunnable(t, p)
				switch {
				case to <= at:
					wantNext(t, p, at, to, at+1)
				case to == at+1:
					wantNext(t, p, at, at+1)
				default:
					wantNext(t, p, at, at+1, to)
				}
				wantSafe(t, p, at, to <= at)
			}
		}
	}
}

// P7.1: the edges by hand: to 0, to itself, to the next place, to the one behind that, and to the end.
func TestNextOfEdges(t *testing.T) {
	p := lines(t, "zero 0 0\nzero 0 1\nzero 0 3\nzero 0 5\nzero 0 2\nzero 0 8\njump 0\njump 8\n")
	wantRunnable(t, p)
	for at, next := range [][]int{{0, 1}, {1, 2}, {3}, {4, 5}, {2, 5}, {6, 8}, {0}, {8}, {}} {
		wantNext(t, p, at, next...)
	}
	for at, safe := range []bool{true, true, false, false, true, false, true, false, false} {
		wantSafe(t, p, at, safe)
	}
	// A Zero of a local that is not 0 goes to the same places.
	for a := range uint8(8) {
		p := lines(t, "set 5 1\nzero 0 0\n")
		p.Code[1].A = a
		wantNext(t, p, 1, 0, 2)
		wantSafe(t, p, 1, true)
	}
}

// P7.1: what is no place has no next one, and is no safepoint; nor is the end.
func TestOfNoPlaces(t *testing.T) {
	for _, i := range append(plain(), api.Ins{Op: api.New}, jump(0), zero(0), jump(1), zero(1)) {
		for _, many := range []int{1, 2, 199, 200} {
			for _, at := range []int{0, many - 1} {
				p := put(many, at, i)
				wantRunnable(t, p)
				for _, no := range append(noPlaces(many), many) {
					wantNext(t, p, no)
					wantSafe(t, p, no, false)
				}
			}
		}
	}
}

// P7.1: of the most instructions that there may be, jumps from each place to the ends, and the instructions beside them.
func TestOfTheMostInstructions(t *testing.T) {
	for at := range api.Most {
		for _, to := range []int{0, at, at + 1, api.Most - 1, api.Most} {
			p := put(api.Most, at, jump(to))
			wantRunnable(t, p)
			wantNext(t, p, at, to)
			wantSafe(t, p, at, to <= at)
			if at > 0 {
				wantNext(t, p, at-1, at)
				wantSafe(t, p, at-1, false)
			}
			if at < api.Most-1 {
				wantNext(t, p, at+1, at+2)
				wantSafe(t, p, at+1, false)
			}
		}
	}
}
