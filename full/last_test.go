package full

import (
	"math"
	"slices"
	"testing"

	"lockstitch/api"
	"lockstitch/check"
)

// The example of the chapter, and what it says of a print and a loadi between.
func TestExample(t *testing.T) {
	wantLasts(t, read(t, of("i0"), "new 0\nstorei 0 0 1\nnil 1\nstorep 0 1 1\n"), map[int]int{0: 3})
	wantLasts(t, read(t, of("i0"), "new 0\nstorei 0 0 1\nnil 1\nprint 0\nstorep 0 1 1\n"), map[int]int{0: 4})
	for _, load := range []string{"loadi 2 0 0\n", "loadi 2 1 0\n"} {
		for _, text := range []string{
			"new 0\n" + load + "storei 0 0 1\nnil 1\nstorep 0 1 1\n",
			"new 0\nstorei 0 0 1\n" + load + "nil 1\nstorep 0 1 1\n",
			"new 0\nstorei 0 0 1\nnil 1\n" + load + "storep 0 1 1\n",
		} {
			wantLasts(t, read(t, of("i0"), text), nil)
		}
	}
	// The seventh of DOC.md's.
	wantLasts(t, read(t, of("i0"), "new 0\nnew 1\nstorei 0 0 1\nstorep 0 1 1\n"), nil)
	wantLasts(t, read(t, of("i0"), "new 0\nstorei 0 0 1\nstorep 0 1 1\n"), map[int]int{0: 2})
}

// P10.1, P10.2: what stands between the New of p[0], with a number and a pointer, and its last write. It is put ahead of both writes, between them, and behind them, where it does not matter.
func TestWhatStandsBetween(t *testing.T) {
	for _, c := range []struct {
		text string
		is   bool
	}{
		// Numbers.
		{"set 0 5", true}, {"set 7 -5", true}, {"add 0 0 0", true}, {"add 3 1 2", true}, {"print 0", true}, {"print 7", true},
		// A Nil, and a Move, that sets p[0], and one that does not.
		{"nil 0", false}, {"nil 1", true}, {"nil 7", true},
		{"move 0 1", false}, {"move 0 0", false}, {"move 1 0", true}, {"move 7 0", true}, {"move 2 1", true}, {"move 1 1", true},
		// A Same sets none, whatever its int local is.
		{"same 0 0 0", true}, {"same 0 1 2", true}, {"same 1 0 1", true}, {"same 1 1 0", true}, {"same 7 3 3", true},
		// It goes elsewhere, or reads.
		{"loadi 0 0 0", false}, {"loadi 1 1 0", false}, {"loadp 0 0 1", false}, {"loadp 1 0 1", false}, {"loadp 0 1 1", false}, {"loadp 1 2 1", false},
		{"loadg 0 0", false}, {"loadg 1 0", false}, {"loadg 1 3", false}, {"storeg 0 0", false}, {"storeg 0 1", false}, {"storeg 1 2", false},
		{"new 0", false}, {"new 1", false}, {"new 7", false},
		{"jump 0", false}, {"jump 1", false}, {"jump 2", false}, {"jump 3", false}, {"jump 4", false},
		{"zero 0 0", false}, {"zero 0 1", false}, {"zero 1 2", false}, {"zero 1 3", false}, {"zero 0 4", false},
		// Writes of another local's object, of p[0] into it too.
		{"storei 1 0 0", false}, {"storei 7 0 1", false}, {"storep 1 1 0", false}, {"storep 1 1 1", false}, {"storep 1 1 2", false},
	} {
		last := func(k int) int {
			if c.is {
				return k
			}
			return -1
		}
		for _, writes := range [][]string{{"storei 0 0 3\n", "storep 0 1 2\n"}, {"storep 0 1 2\n", "storei 0 0 3\n"}} {
			text := c.text + "\n"
			behind := read(t, of("i0"), "new 0\n"+writes[0]+writes[1]+text)
			wantLast(t, behind, 0, 2)
			between := read(t, of("i0"), "new 0\n"+writes[0]+text+writes[1])
			wantLast(t, between, 0, last(3))
			ahead := read(t, of("i0"), "new 0\n"+text+writes[0]+writes[1])
			wantLast(t, ahead, 0, last(3))
		}
	}
}

// P10.1: its own fields written once more, ahead of the last one and behind it, and itself written into itself.
func TestItsOwnOnceMore(t *testing.T) {
	for _, c := range []struct {
		text string
		last int
	}{
		{"new 0\nstorei 0 0 0\nstorei 0 0 7\nstorep 0 1 2\n", 3},
		{"new 0\nstorep 0 1 1\nstorep 0 1 2\nstorei 0 0 0\n", 3},
		{"new 0\nstorep 0 1 1\nstorep 0 1 1\nstorep 0 1 1\nstorep 0 1 1\nstorei 0 0 0\n", 5},
		{"new 0\nstorei 0 0 3\nstorep 0 1 0\n", 2},
		{"new 0\nstorep 0 1 0\nstorei 0 0 3\n", 2},
		{"new 0\nstorep 0 1 1\nstorep 0 1 0\nstorei 0 0 3\n", 3},
		{"new 0\nstorei 0 0 3\nstorep 0 1 0\nstorep 0 1 1\nstorei 0 0 1\n", 2},
	} {
		wantLasts(t, read(t, of("i0"), c.text), map[int]int{0: c.last})
	}
}

// P10.1, P10.2: each operation with all numbers in A, B and C, between the New of each local and its writes.
func TestAllNumbersBetween(t *testing.T) {
	const letters = "i00"
	may := map[uint8]int{}
	for op := uint8(1); op <= 15; op++ {
		for which := range 8 * 8 * 8 * 4 {
			i := api.Ins{Op: op, A: uint8(which & 7), B: uint8(which >> 3 & 7), C: uint8(which >> 6 & 7), N: int64(which >> 9)}
			if _, e := check.Check(of(letters, i, i, i, i)); e != api.OK {
				continue
			}
			may[op]++
			for _, a := range []uint8{0, i.A, i.B, i.C, 7} {
				for at := range 4 {
					code := []api.Ins{{Op: api.New, A: a}, write(letters, a, 1), write(letters, a, 0), write(letters, a, 2)}
					p := of(letters, slices.Insert(code, at+1, i)...)
					wantChapter(t, p)
				}
			}
		}
	}
	if len(may) != 15 {
		t.Errorf("not each operation may be run: %v", may)
	}
}

// orders is all orders of the numbers below n.
func orders(n int) [][]int {
	if n == 0 {
		return [][]int{nil}
	}
	var all [][]int
	for _, o := range orders(n - 1) {
		for at := range n {
			all = append(all, slices.Insert(slices.Clone(o), at, n-1))
		}
	}
	return all
}

// types is each type of so many fields, of numbers and of pointers to itself.
func types(fields int) []string {
	var all []string
	for which := range 1 << fields {
		letters := make([]byte, fields)
		for k := range letters {
			letters[k] = "i0"[which>>k&1]
		}
		all = append(all, string(letters))
	}
	return all
}

// P10.1, P10.2: types of each number of fields, numbers and pointers among each other, written in each order.
func TestEachOrder(t *testing.T) {
	for fields := 1; fields <= api.Fields; fields++ {
		for which, letters := range types(fields) {
			for _, order := range orders(fields) {
				a := uint8(which+order[0]) % api.Ptrs
				code := []api.Ins{{Op: api.New, A: a}}
				for _, k := range order {
					code = append(code, write(letters, a, k))
				}
				p := of(letters, code...)
				wantRunnable(t, p)
				if Last(p, 0) != fields || !Full(p, 0) {
					t.Fatalf("Last = %d, Full = %v: %q, in the order %v", Last(p, 0), Full(p, 0), letters, order)
				}
				// Ahead of its last write it is not whole.
				p.Code = code[:fields]
				if fields > 1 && (Last(p, 0) != -1 || Full(p, 0)) {
					t.Fatalf("Last = %d, Full = %v: %q, in the order %v, without the last", Last(p, 0), Full(p, 0), letters, order)
				}
			}
		}
	}
}

// P10.1: one field is written twice ahead of another one's first write, or behind it; or all are but one.
func TestTwiceAndNever(t *testing.T) {
	for fields := 1; fields <= api.Fields; fields++ {
		for _, letters := range types(fields) {
			for k := range fields {
				for twice := range fields {
					code := []api.Ins{{Op: api.New, A: 5}, write(letters, 5, twice)}
					for other := range fields {
						if other != k {
							code = append(code, write(letters, 5, other))
						}
					}
					if twice != k {
						wantLast(t, of(letters, code...), 0, -1)
					}
					code = append(code, write(letters, 5, k), write(letters, 5, twice), write(letters, 5, k))
					p := of(letters, code...)
					wantRunnable(t, p)
					want := fields + 1
					if twice == k {
						want = fields // no field is written twice ahead of the last one
					}
					wantLast(t, p, 0, want)
				}
			}
		}
	}
}

// P10.1: the place is not a New's: all other operations, the end, and what is no place.
func TestNotTheNew(t *testing.T) {
	wantLasts(t, lines(t, "set 0 1\nadd 0 0 0\njump 3\nzero 0 4\nnil 0\nmove 0 1\nloadi 0 7 0\nstorei 7 0 0\nloadp 0 0 1\nstorep 0 1 1\nloadg 0 0\nstoreg 0 0\nprint 0\nsame 0 0 1\n"), nil)
	// Each other one in the New's stead, with the writes behind it.
	for op := uint8(1); op <= 15; op++ {
		if op == api.New {
			continue
		}
		i := api.Ins{Op: op}
		if op == api.LoadP || op == api.StoreP {
			i.N = 1
		}
		p := of("i0", i, api.Ins{Op: api.StoreI}, api.Ins{Op: api.StoreP, N: 1})
		wantRunnable(t, p)
		wantLasts(t, p, nil)
	}
	// Far off.
	p := read(t, of("i"), "new 0\nstorei 0 0 0\nnew 0\nstorei 0 0 0\n")
	wantLasts(t, p, map[int]int{0: 1, 2: 3})
	for _, at := range []int{-1, -2, -4, 4, 5, 6, 8, 200, 1 << 32, 1<<32 + 2, -1 << 32, math.MaxInt, math.MaxInt - 1, math.MinInt, math.MinInt + 2} {
		wantLast(t, p, at, -1)
	}
}

// P10.1: of programs of one instruction, and of a New that is the last one: there is nothing behind it.
func TestNewIsTheLast(t *testing.T) {
	for _, letters := range []string{"i", "0", "i0i0i0"} {
		wantLasts(t, read(t, of(letters), "new 0\n"), nil)
		wantLasts(t, read(t, of(letters), "nil 0\nnew 7\n"), nil)
	}
	wantLasts(t, read(t, of("i"), "storei 0 0 0\nnew 0\n"), nil)
	for _, text := range []string{"set 0 1\n", "print 0\n", "storei 0 0 0\n", "jump 0\n", "jump 1\n", "nil 0\n"} {
		wantLasts(t, read(t, of("i"), text), nil)
	}
	// A write ahead of it does not matter, even where a jump leads back to it.
	wantLasts(t, read(t, of("i"), "storei 0 0 0\nnew 0\njump 0\n"), nil)
	wantLasts(t, read(t, of("i"), "new 0\njump 2\nstorei 0 0 0\n"), nil)
}

// P10.1: of a type of one field, and of six.
func TestOneFieldAndSix(t *testing.T) {
	wantLasts(t, read(t, of("i"), "new 0\nstorei 0 0 0\n"), map[int]int{0: 1})
	wantLasts(t, read(t, of("0"), "new 0\nstorep 0 0 0\n"), map[int]int{0: 1})
	wantLasts(t, read(t, of("i"), "new 0\nset 0 1\nprint 0\nstorei 0 0 0\n"), map[int]int{0: 3})
	p := read(t, of("i0i0i0"), "new 3\nstorep 3 5 3\nstorei 3 4 1\nstorep 3 3 2\nstorei 3 2 1\nstorep 3 1 2\nstorei 3 0 1\nnil 3\n")
	wantLasts(t, p, map[int]int{0: 6})
	p.Code[6].N = 2
	wantLasts(t, p, nil)
	p.Code[6].N, p.Code[1].N = 0, 3
	wantLasts(t, p, nil)
}

// P10.1: the type is that of the local which is made, and fields are counted by it.
func TestTypeOfTheLocal(t *testing.T) {
	// p[2] has two fields, p[0] three.
	wantLasts(t, lines(t, "new 2\nstorep 2 0 1\nstorei 2 1 0\nnew 0\nstorep 0 2 2\nstorei 0 0 0\n"), map[int]int{0: 2})
	wantLasts(t, lines(t, "new 0\nstorep 0 2 2\nstorei 0 0 0\nnil 2\nstorep 0 1 0\n"), map[int]int{0: 4})
	p := api.Prog{Types: []string{"iiiiii", "i", "00", "123i"}, Locals: "01233210", Globs: ""}
	wantLasts(t, read(t, p, "new 1\nstorei 1 0 0\n"), map[int]int{0: 1})
	wantLasts(t, read(t, p, "new 6\nstorei 6 0 0\nstorei 6 0 0\n"), map[int]int{0: 1})
	wantLasts(t, read(t, p, "new 2\nstorep 2 0 0\nstorep 2 1 7\n"), map[int]int{0: 2})
	wantLasts(t, read(t, p, "new 4\nstorep 4 0 1\nstorep 4 1 5\nstorep 4 2 3\nstorei 4 3 0\n"), map[int]int{0: 4})
	wantLasts(t, read(t, p, "new 7\nstorei 7 3 0\nstorei 7 5 0\nstorei 7 4 0\nstorei 7 1 0\nstorei 7 0 0\nstorei 7 2 0\n"), map[int]int{0: 6})
}

// P10.1: the new object under another name: the Move does nothing, and a write by it ends it.
func TestOtherNames(t *testing.T) {
	wantLasts(t, read(t, of("ii"), "new 0\nmove 1 0\nstorei 0 0 0\nstorei 0 1 0\n"), map[int]int{0: 3})
	wantLasts(t, read(t, of("ii"), "new 0\nmove 1 0\nstorei 1 0 0\nstorei 0 1 0\n"), nil)
	wantLasts(t, read(t, of("ii"), "new 0\nmove 1 0\nstorei 0 1 0\nstorei 1 0 0\nstorei 0 0 0\n"), nil)
	wantLasts(t, read(t, of("ii"), "new 0\nmove 1 0\nnil 0\nstorei 1 0 0\nstorei 1 1 0\n"), nil)
	wantLasts(t, read(t, of("ii"), "new 0\nmove 1 0\nmove 0 1\nstorei 0 0 0\nstorei 0 1 0\n"), nil)
	wantLasts(t, read(t, of("i"), "new 0\nmove 1 0\nstorei 1 0 0\n"), nil)
}

// P10.1: what stands behind the last write does not matter, and each New is one of its own.
func TestManyNews(t *testing.T) {
	wantLasts(t, read(t, of("i"), "new 0\nstorei 0 0 0\nnew 0\nstorei 0 0 1\nnew 1\nstorei 0 0 1\nnew 1\nstorei 1 0 1\n"), map[int]int{0: 1, 2: 3, 6: 7})
	wantLasts(t, read(t, of("i0"), "new 0\nstorei 0 0 0\nnew 0\nstorep 0 1 0\nstorei 0 0 0\nstorei 0 0 0\n"), map[int]int{2: 4})
	wantLasts(t, read(t, of("i0"), "new 0\nnew 1\nstorei 1 0 0\nstorep 1 1 0\nstorei 0 0 0\nstorep 0 1 0\n"), map[int]int{1: 3})
	for _, behind := range []string{"loadi 0 0 0\n", "jump 0\n", "zero 0 0\n", "nil 0\n", "storeg 0 0\n", "storei 0 0 0\n", "new 0\n"} {
		wantLasts(t, read(t, of("i0"), "new 0\nstorep 0 1 0\nstorei 0 0 0\n"+behind+"storei 1 0 0\nstorep 1 1 0\n"), map[int]int{0: 2})
	}
	// A jump into the midst of its writes comes from elsewhere, and does not matter.
	wantLasts(t, read(t, of("i0"), "zero 0 3\nnew 0\nstorep 0 1 0\nstorei 0 0 0\nzero 0 2\n"), map[int]int{1: 3})
}

// P10.1: of the most instructions that there may be.
func TestTheMostInstructions(t *testing.T) {
	most := api.Most
	p := of("i", repeat(api.Ins{Op: api.Print}, most)...)
	p.Code[0] = api.Ins{Op: api.New, A: 7}
	wantRunnable(t, p)
	wantLasts(t, p, nil)
	p.Code[most-1] = api.Ins{Op: api.StoreI, A: 7}
	wantRunnable(t, p)
	wantLasts(t, p, map[int]int{0: most - 1})
	p.Code[most-2] = jump(most - 1)
	wantLasts(t, p, nil)
	// Each second one is a New, and is written by the next one.
	want := map[int]int{}
	for at := range most {
		a := uint8(at / 2 % api.Ptrs)
		p.Code[at] = api.Ins{Op: api.New, A: a}
		if at%2 == 1 {
			p.Code[at] = api.Ins{Op: api.StoreI, A: a}
			want[at-1] = at
		}
	}
	wantRunnable(t, p)
	wantLasts(t, p, want)
	p = of("i", repeat(api.Ins{Op: api.New}, most)...)
	wantLasts(t, p, nil)
}
