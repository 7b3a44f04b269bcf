package leak

import (
	"testing"

	"lockstitch/api"
)

// P11.2: a StoreP and a StoreG of the local itself.
func TestLeaksOfItsOwnLocal(t *testing.T) {
	wantLeaks(t, lines(t, "new 0\nstorep 1 1 0\n"), 0)
	wantLeaks(t, lines(t, "new 0\nstoreg 3 0\n"), 0)
	// Into the object itself, too.
	wantLeaks(t, lines(t, "new 0\nstorep 0 1 0\n"), 0)
	for a := range uint8(8) {
		wantLeaks(t, of("00000000", made(a), api.Ins{Op: api.StoreG, A: 2, B: a}), 0)
		wantLeaks(t, of("00000000", made(a), api.Ins{Op: api.StoreP, A: 4, B: a, N: 1}), 0)
		wantLeaks(t, of("00000000", made(a), api.Ins{Op: api.StoreG, A: 0, B: (a + 1) % 8}))
		wantLeaks(t, of("00000000", made(a), api.Ins{Op: api.StoreP, A: a, B: (a + 7) % 8, N: 1}))
	}
}

// P11.2: of a local to which it was moved, and on, in whatever order these stand.
func TestLeaksOfMovedLocals(t *testing.T) {
	for _, store := range []string{"storep 7 1 ", "storeg 1 "} {
		put := func(b string) string { return store + b + "\n" }
		wantLeaks(t, lines(t, "new 0\nmove 1 0\n"+put("1")), 0)
		wantLeaks(t, lines(t, "new 0\nmove 1 0\nmove 2 1\n"+put("2")), 0)
		wantLeaks(t, lines(t, put("2")+"move 2 1\nmove 1 0\nnew 0\n"), 3)
		wantLeaks(t, lines(t, "move 2 1\n"+put("2")+"new 0\nmove 1 0\n"), 2)
		// Of one from which it was moved it does not leak.
		wantLeaks(t, lines(t, "new 0\nmove 0 1\n"+put("1")))
		wantLeaks(t, lines(t, "new 1\nmove 1 0\nmove 2 1\n"+put("0")))
		wantLeaks(t, lines(t, "new 1\nmove 1 0\nmove 2 1\nnew 0\n"+put("0")), 3)
		wantLeaks(t, lines(t, "new 1\nmove 1 0\nmove 2 1\nnew 0\n"+put("1")), 0, 3)
		wantLeaks(t, lines(t, "new 2\nnew 1\nmove 1 0\nmove 2 1\nnew 0\n"+put("1")), 1, 4)
		// In a round both do.
		wantLeaks(t, lines(t, "new 0\nnew 1\nmove 1 0\nmove 0 1\n"+put("0")), 0, 1)
		// Two chains that meet, and are stored ahead of it, or behind it.
		wantLeaks(t, lines(t, "new 0\nnew 1\nmove 2 0\nmove 2 1\nmove 3 2\n"+put("0")), 0)
		wantLeaks(t, lines(t, "new 0\nnew 1\nmove 2 0\nmove 2 1\nmove 3 2\n"+put("3")), 0, 1)
	}
}

// P11.2: a StoreP's p[A] leaks nothing, a StoreI and a load do not either.
func TestLeaksOfOtherOperations(t *testing.T) {
	wantLeaks(t, lines(t, "new 0\nnew 1\nstorep 0 1 1\n"), 1)
	wantLeaks(t, lines(t, "new 0\nstorep 0 1 1\n"))
	wantLeaks(t, lines(t, "new 0\nmove 1 0\nstorep 1 1 2\n"))
	for _, text := range []string{
		"storei 0 0 0", "storei 1 0 0", "storei 0 0 1", "storei 1 0 1", "loadi 0 0 0", "loadi 1 0 0", "loadp 0 0 1", "loadp 1 0 1", "loadp 0 1 1",
		"loadg 0 0", "loadg 1 0", "loadg 0 1", "set 0 0", "add 0 0 0", "jump 0", "zero 0 0", "new 0", "nil 0", "move 0 0", "move 1 0", "print 0", "same 0 0 0", "storeg 0 1", "storep 0 1 1",
	} {
		wantLeaks(t, lines(t, "new 0\n"+text+"\n"))
		wantLeaks(t, lines(t, text+"\nnew 0\n"))
	}
}

// P11.2: a store of nothing, or of what was loaded, is none of a New's.
func TestLeaksOfLoadedLocals(t *testing.T) {
	wantLeaks(t, lines(t, "new 0\nstorep 0 1 0\nloadp 1 0 1\nnew 2\nstorep 2 1 1\nstoreg 0 1\n"), 0)
	wantLeaks(t, lines(t, "new 0\nloadg 1 0\nstoreg 1 1\nnil 2\nstorep 0 1 2\nstoreg 2 2\n"))
}

// P11.2: one local's News at several places all leak, and a store anywhere is enough.
func TestLeaksAsksForNoWay(t *testing.T) {
	wantLeaks(t, lines(t, "new 0\nprint 0\nnew 0\nnew 1\nnew 0\nstoreg 0 0\n"), 0, 2, 4)
	// Ahead of the New, where no run comes, and where something else stands in it.
	wantLeaks(t, lines(t, "storeg 0 0\nnew 0\n"), 1)
	wantLeaks(t, lines(t, "storep 1 1 0\nnew 0\n"), 1)
	wantLeaks(t, lines(t, "new 0\njump 3\nstoreg 0 0\nprint 0\n"), 0)
	wantLeaks(t, lines(t, "jump 2\nnew 0\nstoreg 0 0\n"), 1)
	wantLeaks(t, lines(t, "new 0\nnil 0\nstoreg 0 0\n"), 0)
	wantLeaks(t, lines(t, "new 0\nloadg 0 0\nstorep 1 1 0\n"), 0)
}

// P11.2: what is no New's place does not leak, though its local is stored; nor does the end, nor what is beside all places.
func TestLeaksOfOtherPlaces(t *testing.T) {
	wantLeaks(t, lines(t, "loadg 0 0\nmove 1 0\nnil 0\nloadp 0 0 1\nstoreg 0 0\nstorep 0 1 1\n"))
	wantLeaks(t, with(made(0), api.Ins{Op: api.StoreG}), 0)
	wantLeaks(t, with(made(0)))
	wantLeaks(t, with(api.Ins{Op: api.StoreG}))
	wantLeaks(t, with(api.Ins{Op: api.StoreP, N: 1}))
	p := with(append(repeat(made(0), api.Most-1), api.Ins{Op: api.StoreG})...)
	wantRunnable(t, p)
	for at := range api.Most - 1 {
		if !Leaks(p, at) {
			t.Errorf("%d does not leak", at)
		}
	}
	for _, at := range []int{-1, api.Most - 1, api.Most, api.Most + 1, -1 << 63, 1<<63 - 1, 1 << 32, -1 << 32, 1 << 8} {
		if Leaks(p, at) {
			t.Errorf("%d leaks", at)
		}
	}
}

// P11.2: of the most instructions, the store first, or last, of the end of a chain through all locals, or of its beginning.
func TestLeaksOfTheMostInstructions(t *testing.T) {
	for _, ends := range []bool{false, true} {
		for _, op := range []uint8{api.StoreP, api.StoreG} {
			for b := range uint8(8) {
				p := of("00000000", repeat(api.Ins{Op: api.Print}, api.Most)...)
				for k := range uint8(7) {
					p.Code[10+20*k] = move(6-k, 7-k)
				}
				p.Code[1], p.Code[198] = made(4), made(7)
				store := api.Ins{Op: op, B: b}
				if op == api.StoreP {
					store.N = 1
				}
				p.Code[0] = store
				if ends {
					p.Code[0], p.Code[199] = p.Code[199], store
				}
				wantRunnable(t, p)
				// p[7] is moved into all, p[4] into those below it.
				if b <= 4 {
					wantLeaks(t, p, 1, 198)
				} else {
					wantLeaks(t, p, 198)
				}
			}
		}
	}
}
