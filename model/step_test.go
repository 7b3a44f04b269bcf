package model

import (
	"math"
	"slices"
	"strconv"
	"strings"
	"testing"

	"lockstitch/api"
)

// numbers is small ones, the ends, and some that are 0 when they are cut short.
func numbers() []int64 {
	return []int64{0, 1, -1, 2, 5, -7, 255, 256, -256, 1 << 16, 1 << 32, -1 << 32, math.MaxInt64, math.MinInt64, math.MaxInt64 - 1, math.MinInt64 + 1}
}

func setTo(x int, n int64) string {
	return "set " + strconv.Itoa(x) + " " + strconv.FormatInt(n, 10) + "\n"
}

// objects is two of the type 0 in p[0] and p[1], one of 1 in p[2], two of 2 in p[4] and p[5], with numbers in them; p[3] is nothing.
const objects = "set 0 10\nset 1 11\nset 2 12\nnew 0\nnew 1\nnew 2\nnew 4\nnew 5\nstorei 0 0 0\nstorei 0 3 1\nstorei 1 3 2\nstorei 5 1 1\n"

func nothing(*State) {}

// P6.1: set.
func TestSet(t *testing.T) {
	for x := range 8 {
		for _, n := range numbers() {
			wantChange(t, objects, setTo(x, n), func(s *State) { s.X[x] = n })
		}
	}
}

// P6.1: add, sums that wrap round at both ends, and one of a local that is itself summed.
func TestAdd(t *testing.T) {
	for _, b := range numbers() {
		for _, c := range numbers() {
			first := setTo(3, b) + setTo(5, c)
			wantChange(t, first, "add 7 3 5", func(s *State) { s.X[7] = b + c })
			wantChange(t, first, "add 3 3 5", func(s *State) { s.X[3] = b + c })
			wantChange(t, first, "add 5 3 5", func(s *State) { s.X[5] = b + c })
		}
		wantChange(t, setTo(6, b), "add 6 6 6", func(s *State) { s.X[6] = b + b })
	}
	wantChange(t, setTo(0, math.MaxInt64)+setTo(1, 1), "add 2 0 1", func(s *State) { s.X[2] = math.MinInt64 })
	wantChange(t, setTo(0, math.MinInt64)+setTo(1, -1), "add 2 0 1", func(s *State) { s.X[2] = math.MaxInt64 })
	wantChange(t, setTo(0, math.MaxInt64), "add 2 0 0", func(s *State) { s.X[2] = -2 })
	wantChange(t, setTo(0, math.MinInt64), "add 2 0 0", nothing)
}

// P6.1: jump to the beginning, back, to itself, on, and to the end.
func TestJump(t *testing.T) {
	for to := range 7 {
		first := "set 1 3\nnew 0\nset 2 4\n"
		p, s := behind(t, first, "jump "+strconv.Itoa(to)+"\nset 3 1\nset 4 1\n")
		want := deep(s)
		want.At, want.Steps = to, 4
		wantStep(t, p, s, want, false, api.OK)
	}
	for to := range 2 {
		p := lines(t, "jump "+strconv.Itoa(to))
		s := wantStep(t, p, State{}, State{At: to, Steps: 1}, false, api.OK)
		if to == 0 {
			wantStep(t, p, s, State{Steps: 2}, false, api.OK)
		} else {
			wantStep(t, p, s, s, true, api.OK)
		}
	}
}

// P6.1: zero where x[A] is 0, and where it is not, to each place.
func TestZero(t *testing.T) {
	for to := range 6 {
		for _, n := range numbers() {
			for _, x := range []string{"0", "7"} {
				// The other one is 0 where this one is not.
				other := map[bool]int64{true: 1}[n == 0]
				first := setTo(0, other) + setTo(7, other) + "set " + x + " " + strconv.FormatInt(n, 10) + "\n"
				p, s := behind(t, first, "zero "+x+" "+strconv.Itoa(to)+"\nset 3 1\nset 4 1\n")
				want := deep(s)
				want.At, want.Steps = 4, 4
				if n == 0 {
					want.At = to
				}
				wantStep(t, p, s, want, false, api.OK)
			}
		}
	}
}

// P6.1: new, of each size from 1 to 6, among types of other sizes, in locals that are numbered otherwise than their types.
func TestNewOfEachSize(t *testing.T) {
	for size := 1; size <= 6; size++ {
		for _, letter := range []string{"i", "0"} {
			right, other := strings.Repeat(letter, size), strings.Repeat(letter, size%6+1)
			for at := range 8 {
				p := api.Prog{Types: slices.Repeat([]string{other}, 8)}
				p.Types[at] = right
				for a := range 8 {
					digits := []byte(strings.Repeat(strconv.Itoa((at+1)%8), 8))
					digits[a] = byte('0' + at)
					p.Locals = string(digits)
					want := State{Objs: [][]int64{make([]int64, size)}, At: 1, Steps: 1}
					want.P[a] = 1
					wantStep(t, with(p, api.Ins{Op: api.New, A: uint8(a)}), State{}, want, false, api.OK)
				}
			}
		}
	}
}

// P6.1: objects are numbered in the order in which they are made; one that nothing points to any more stays.
func TestNewOneAfterTheOther(t *testing.T) {
	want := State{}
	p := lines(t, "new 5\nnew 0\nnew 2\nnew 0\nnew 4\nset 0 9\nstorei 4 0 0\nnew 4\n")
	s := wantStep(t, p, want, State{P: [8]int{5: 1}, Objs: [][]int64{{0, 0, 0}}, At: 1, Steps: 1}, false, api.OK)
	s = wantStep(t, p, s, State{P: [8]int{0: 2, 5: 1}, Objs: [][]int64{{0, 0, 0}, {0, 0, 0, 0}}, At: 2, Steps: 2}, false, api.OK)
	s = wantStep(t, p, s, State{P: [8]int{0: 2, 2: 3, 5: 1}, Objs: [][]int64{{0, 0, 0}, {0, 0, 0, 0}, {0}}, At: 3, Steps: 3}, false, api.OK)
	wantStep(t, p, s, State{P: [8]int{0: 4, 2: 3, 5: 1}, Objs: [][]int64{{0, 0, 0}, {0, 0, 0, 0}, {0}, {0, 0, 0, 0}}, At: 4, Steps: 4}, false, api.OK)
	want = State{X: [8]int64{9}, P: [8]int{0: 4, 2: 3, 4: 6, 5: 1}, Objs: [][]int64{{0, 0, 0}, {0, 0, 0, 0}, {0}, {0, 0, 0, 0}, {9, 0, 0}, {0, 0, 0}}, At: 8, Steps: 8}
	if got := after(t, p); !alike(got, want) {
		t.Errorf("%+v, want %+v", got, want)
	}
	wantChange(t, objects, "new 0", func(s *State) {
		s.P[0] = 6
		s.Objs = append(s.Objs, make([]int64, 4))
	})
}

// P6.1: nil, of what was something, and of what was nothing.
func TestNil(t *testing.T) {
	for _, a := range []int{0, 1, 2, 3, 4, 5} {
		wantChange(t, objects, "nil "+strconv.Itoa(a), func(s *State) { s.P[a] = 0 })
	}
	wantChange(t, "set 0 1\n", "nil 0", nothing)
}

// P6.1: move, of something, of nothing, and to itself.
func TestMove(t *testing.T) {
	wantChange(t, objects, "move 0 1", func(s *State) { s.P[0] = 2 })
	wantChange(t, objects, "move 1 0", func(s *State) { s.P[1] = 1 })
	wantChange(t, objects, "move 3 2", func(s *State) { s.P[3] = 3 })
	wantChange(t, objects, "move 2 3", func(s *State) { s.P[2] = 0 })
	wantChange(t, objects, "move 5 4", func(s *State) { s.P[5] = 4 })
	wantChange(t, objects, "move 4 4", nothing)
	wantChange(t, objects, "move 3 3", nothing)
}

// P6.1: loadi, of each field that is a number.
func TestLoadI(t *testing.T) {
	wantChange(t, objects, "loadi 7 0 0", func(s *State) { s.X[7] = 10 })
	wantChange(t, objects, "loadi 7 0 3", func(s *State) { s.X[7] = 11 })
	wantChange(t, objects, "loadi 0 1 3", func(s *State) { s.X[0] = 12 })
	wantChange(t, objects, "loadi 1 1 0", func(s *State) { s.X[1] = 0 })
	wantChange(t, objects, "loadi 2 5 1", func(s *State) { s.X[2] = 11 })
	wantChange(t, objects, "loadi 2 5 0", func(s *State) { s.X[2] = 0 })
	for _, n := range numbers() {
		wantChange(t, setTo(4, n)+"new 5\nstorei 5 1 4\n", "loadi 6 5 1", func(s *State) { s.X[6] = n })
	}
}

// P6.1: storei, of each field that is a number.
func TestStoreI(t *testing.T) {
	wantChange(t, objects, "storei 0 0 2", func(s *State) { s.Objs[0][0] = 12 })
	wantChange(t, objects, "storei 0 3 7", func(s *State) { s.Objs[0][3] = 0 })
	wantChange(t, objects, "storei 1 0 1", func(s *State) { s.Objs[1][0] = 11 })
	wantChange(t, objects, "storei 4 1 0", func(s *State) { s.Objs[3][1] = 10 })
	for _, n := range numbers() {
		wantChange(t, setTo(4, n)+"new 0\nnew 5\n", "storei 5 0 4", func(s *State) { s.Objs[1][0] = n })
	}
}

// linked is objects that point to each other: the 1 to the 3 and the 2, the 3 to the 1, the 5 to itself.
const linked = objects + "storep 0 1 2\nstorep 0 2 1\nstorep 2 0 0\nstorep 5 2 5\n"

// P6.1: loadp, of something and of nothing, and into the local that is followed.
func TestLoadP(t *testing.T) {
	wantChange(t, linked, "loadp 3 0 1", func(s *State) { s.P[3] = 3 })
	wantChange(t, linked, "loadp 1 0 2", func(s *State) { s.P[1] = 2 })
	wantChange(t, linked, "loadp 0 0 2", func(s *State) { s.P[0] = 2 })
	wantChange(t, linked, "loadp 1 2 0", func(s *State) { s.P[1] = 1 })
	wantChange(t, linked, "loadp 4 5 2", func(s *State) { s.P[4] = 5 })
	wantChange(t, linked, "loadp 5 5 2", nothing)
	wantChange(t, linked, "loadp 2 1 1", func(s *State) { s.P[2] = 0 })
	wantChange(t, linked, "loadp 0 1 2", func(s *State) { s.P[0] = 0 })
}

// P6.1: storep, of something and of nothing, to itself, and over what was there.
func TestStoreP(t *testing.T) {
	wantChange(t, objects, "storep 0 1 2", func(s *State) { s.Objs[0][1] = 3 })
	wantChange(t, objects, "storep 0 2 1", func(s *State) { s.Objs[0][2] = 2 })
	wantChange(t, objects, "storep 1 2 1", func(s *State) { s.Objs[1][2] = 2 })
	wantChange(t, objects, "storep 4 2 5", func(s *State) { s.Objs[3][2] = 5 })
	wantChange(t, linked, "storep 0 1 3", func(s *State) { s.Objs[0][1] = 0 })
	wantChange(t, linked, "storep 0 2 0", func(s *State) { s.Objs[0][2] = 1 })
	wantChange(t, linked, "storep 2 0 1", func(s *State) { s.Objs[2][0] = 2 })
}

// P6.1: storeg and loadg, of something and of nothing, each global on its own.
func TestGlobals(t *testing.T) {
	wantChange(t, objects, "storeg 0 1", func(s *State) { s.G[0] = 2 })
	wantChange(t, objects, "storeg 1 0", func(s *State) { s.G[1] = 1 })
	wantChange(t, objects, "storeg 2 2", func(s *State) { s.G[2] = 3 })
	wantChange(t, objects, "storeg 3 5", func(s *State) { s.G[3] = 5 })
	stored := objects + "storeg 0 0\nstoreg 1 1\nstoreg 2 2\nstoreg 3 4\n"
	wantChange(t, stored, "storeg 2 3", func(s *State) { s.G[2] = 0 })
	wantChange(t, stored, "storeg 1 0", func(s *State) { s.G[1] = 1 })
	wantChange(t, stored, "loadg 0 1", func(s *State) { s.P[0] = 2 })
	wantChange(t, stored, "loadg 1 0", func(s *State) { s.P[1] = 1 })
	wantChange(t, stored, "loadg 3 2", func(s *State) { s.P[3] = 3 })
	wantChange(t, stored, "loadg 5 3", func(s *State) { s.P[5] = 4 })
	wantChange(t, objects, "loadg 0 0", func(s *State) { s.P[0] = 0 })
	wantChange(t, objects, "loadg 4 3", func(s *State) { s.P[4] = 0 })
}

// P6.1: what is printed is behind what was printed.
func TestPrint(t *testing.T) {
	wantChange(t, objects, "print 2", func(s *State) { s.Out = []int64{12} })
	wantChange(t, objects, "print 7", func(s *State) { s.Out = []int64{0} })
	wantChange(t, objects+"print 2\nprint 0\n", "print 1", func(s *State) { s.Out = []int64{12, 10, 11} })
	wantChange(t, objects+"print 1\nprint 1\n", "print 1", func(s *State) { s.Out = []int64{11, 11, 11} })
	first, want := "", []int64(nil)
	for k, n := range numbers() {
		first += setTo(k%8, n) + "print " + strconv.Itoa(k%8) + "\n"
		want = append(want, n)
	}
	wantChange(t, first, setTo(0, 77), func(s *State) { s.X[0] = 77 })
	wantChange(t, first, "print 0", func(s *State) { s.Out = append(want, s.X[0]) })
}

// P6.1: same, of one object in two locals, of two that have the same in them, of nothing, of a local and itself.
func TestSame(t *testing.T) {
	to := func(n int64) func(*State) { return func(s *State) { s.X[7] = n } }
	for _, before := range numbers() {
		first := objects + setTo(7, before)
		wantChange(t, first, "same 7 0 1", to(0))
		wantChange(t, first, "same 7 1 0", to(0))
		wantChange(t, first, "same 7 0 0", to(1))
		wantChange(t, first, "same 7 3 3", to(1))
		wantChange(t, first, "same 7 2 3", to(0))
		wantChange(t, first, "same 7 3 2", to(0))
		wantChange(t, first+"move 1 0\n", "same 7 0 1", to(1))
		wantChange(t, first+"nil 0\nnil 1\n", "same 7 0 1", to(1))
		wantChange(t, "new 4\nnew 5\n"+setTo(7, before), "same 7 4 5", to(0))
		wantChange(t, "new 0\nstoreg 0 0\nloadg 1 0\n"+setTo(7, before), "same 7 1 0", to(1))
	}
	wantChange(t, objects, "same 0 0 0", func(s *State) { s.X[0] = 1 })
	wantChange(t, objects, "same 2 4 5", func(s *State) { s.X[2] = 0 })
}

// P6.1: what follows a nothing, whatever made it nothing, and whatever else there is.
func TestNothingIsFollowed(t *testing.T) {
	const others = "new 1\nnew 2\nnew 4\nset 0 3\nprint 0\nstoreg 1 1\n"
	ways := []string{"", "new 0\nnil 0\n", "new 0\nloadp 0 0 2\n", "new 0\nloadg 0 0\n", "new 0\nmove 2 3\nloadp 0 1 2\n"}
	for _, way := range ways {
		first := others + way
		for _, follow := range []string{"loadi 7 0 0", "loadi 7 0 3", "storei 0 0 1", "storei 0 3 0", "loadp 3 0 1", "loadp 1 0 2", "loadp 0 0 2", "storep 0 1 2", "storep 0 2 1", "storep 0 2 0", "storep 0 1 3"} {
			p, s := behind(t, first, follow+"\nprint 0\n")
			wantStep(t, p, s, s, false, api.ErrZero)
			wantStep(t, p, wantStep(t, p, s, s, false, api.ErrZero), s, false, api.ErrZero)
		}
	}
	for _, alone := range []string{"loadi 0 0 0", "storei 0 0 0", "loadp 0 0 2", "storep 0 2 0"} {
		wantStep(t, lines(t, alone), State{}, State{}, false, api.ErrZero)
	}
}

// P6.1: where a nothing is not followed, but taken, stored or compared, nothing is wrong.
func TestNothingIsNotFollowed(t *testing.T) {
	for _, text := range []string{"nil 0", "move 0 1", "loadg 0 0", "storeg 0 0", "storeg 3 5"} {
		wantChange(t, "", text, nothing)
	}
	wantChange(t, "", "same 0 0 1", func(s *State) { s.X[0] = 1 })
	wantChange(t, "new 0\n", "storep 0 1 2", nothing)
	wantChange(t, "new 0\n", "loadp 2 0 1", nothing)
}

// P6.1: at how many instructions there are it is done, and stays so.
func TestDone(t *testing.T) {
	for many := 1; many <= 200; many++ {
		text := strings.Repeat("print 0\n", many-1) + "set 1 2"
		p := lines(t, text)
		s := after(t, p)
		if s.At != many || s.Steps != many {
			t.Errorf("%d instructions: %+v", many, s)
		}
		wantStep(t, p, s, s, true, api.OK)
		wantStep(t, p, wantStep(t, p, s, s, true, api.OK), s, true, api.OK)
	}
	p := lines(t, linked+"storeg 0 0\nprint 1\n")
	wantStep(t, p, after(t, p), after(t, p), true, api.OK)
}

// P6.1: an At that is no place, and those that are the first and the last one.
func TestStepOfNoPlace(t *testing.T) {
	p := lines(t, objects+"print 1\nset 3 4")
	end := len(p.Code)
	for _, s := range []State{{}, after(t, p)} {
		for _, at := range []int{-1, -2, -end, end + 1, end + 2, 200, 201, 1 << 16, 1 << 32, -1 << 32, math.MaxInt, math.MinInt} {
			s.At = at
			wantStep(t, p, s, s, false, api.ErrArg)
		}
		s.At = end
		wantStep(t, p, s, s, true, api.OK)
	}
	want := State{At: 1, Steps: 1}
	want.X[0] = 10
	wantStep(t, p, State{}, want, false, api.OK)
}

// P6.1: a program that may not be run, wherever it is, at its end too.
func TestStepOfAWrongProgram(t *testing.T) {
	for _, p := range wrong() {
		for _, s := range []State{{}, after(t, lines(t, linked+"storeg 0 0\nprint 1\nprint 2"))} {
			for _, at := range []int{-1, 0, 1, len(p.Code), len(p.Code) + 1} {
				s.At = at
				wantStep(t, p, s, s, false, api.ErrArg)
			}
		}
	}
}

// R1: of states that come of no step nothing is promised, but that it ends.
func TestStepOfAnyStateEnds(t *testing.T) {
	p := lines(t, "loadi 0 0 3\nloadp 0 0 2\nstorei 0 3 0\nstorep 0 2 0\nnew 0\nprint 0\nsame 0 0 1\nstoreg 0 0\nloadg 0 0\nmove 0 1")
	for _, k := range []int{-1, 1, 2, 3, 4, 5, 1 << 32, math.MaxInt, math.MinInt} {
		for at := range p.Code {
			s := State{Objs: [][]int64{nil, {1}, {1, 2, 3, 4}, {1, 2, 77, 4, 5, 6, 7}}, At: at, Steps: math.MaxInt}
			s.P[0], s.G[0] = k, k
			was := deep(s)
			Step(p, s)
			if !alike(s, was) {
				t.Errorf("Step made %+v of %+v", s, was)
			}
		}
	}
}
