package flow

import (
	"slices"
	"strconv"
	"testing"

	"lockstitch/api"
	"lockstitch/model"
)

// visits is the places where a run is, one behind the other, so many steps at most.
func visits(t *testing.T, p api.Prog, most int) []int {
	t.Helper()
	var s model.State
	at := []int{s.At}
	for range most {
		next, done, e := model.Step(p, s)
		if e == api.ErrArg {
			t.Fatalf("%v may not be run", p.Code)
		}
		if done || e != api.OK {
			break
		}
		s = next
		at = append(at, s.At)
	}
	return at
}

// wantRun asks for P7.3 of a run, and for what P7.2 says of it. The answer is how many times a place was come back to.
func wantRun(t *testing.T, p api.Prog, most int) int {
	t.Helper()
	at, reach, back := visits(t, p, most), Reach(p, 0), 0
	lastSafe := -1        // the last step that was done at a safepoint
	last := map[int]int{} // of each place the step at which it was there last
	for step, place := range at {
		if step > 0 && !slices.Contains(Next(p, at[step-1]), place) {
			t.Errorf("it goes from %d to %d, Next is %v: %v", at[step-1], place, Next(p, at[step-1]), p.Code)
		}
		if was, is := last[place]; is {
			back++
			if lastSafe < was {
				t.Errorf("it is at %d again, and no place since was a safepoint: %v", place, p.Code)
			}
			if !Loops(p, place) {
				t.Errorf("it is at %d again, which does not loop: %v", place, p.Code)
			}
		}
		if step > 0 && !reach[place] {
			t.Errorf("it comes to %d, which is not reached: %v", place, p.Code)
		}
		last[place] = step
		if Safe(p, place) {
			lastSafe = step
		}
	}
	return back
}

// P7.3: of runs of many programs.
func TestRunsOfManyPrograms(t *testing.T) {
	again, back := 0, 0
	for seed := range 6000 {
		many := wantRun(t, some(seed), 60)
		back += many
		if many > 0 {
			again++
		}
		if t.Failed() {
			t.FailNow()
		}
	}
	// So that the runs are not all of one sort.
	if again < 500 || again > 5500 || back < 10000 {
		t.Errorf("of 6000 runs %d come back, %d times", again, back)
	}
}

// P7.3: of runs of all short programs.
func TestRunsOfAllShortPrograms(t *testing.T) {
	for many := 1; many <= 3; many++ {
		jumping(many, func(p api.Prog) { wantRun(t, p, 12) })
	}
}

// P7.3: a loop in a loop that ends, with the number of times that each place was come to.
func TestRunOfLoopsInLoops(t *testing.T) {
	p := lines(t, "set 0 -3\nset 7 1\nset 1 -4\nadd 1 1 7\nzero 1 6\njump 3\nadd 0 0 7\nzero 0 9\njump 2\nprint 0\n")
	wantRunnable(t, p)
	at := visits(t, p, 1000)
	if last := at[len(at)-1]; last != len(p.Code) {
		t.Fatalf("it does not come to its end, but to %d", last)
	}
	times := map[int]int{}
	for _, place := range at {
		times[place]++
	}
	if times[2] != 3 || times[3] != 12 || times[9] != 1 {
		t.Errorf("how often it is at each place: %v", times)
	}
	wantRun(t, p, 1000)
	for place, safe := range []bool{false, false, false, false, false, true, false, false, true, false, false} {
		wantSafe(t, p, place, safe)
	}
}

// P7.3: of the most instructions, all in one loop, the way back by a Jump or by a Zero, at the end or ahead of it.
func TestRunsOfTheMostInstructions(t *testing.T) {
	for _, way := range []string{"jump", "zero 0"} {
		for _, to := range []int{0, 1, 100, 198, 199} {
			p := lines(t, way+" "+strconv.Itoa(to)+"\n")
			p.Code = append(prints(api.Most-1), p.Code...)
			wantRunnable(t, p)
			if back := wantRun(t, p, 1000); back < 700 {
				t.Errorf("%s %d: it comes back %d times", way, to, back)
			}
		}
	}
}
