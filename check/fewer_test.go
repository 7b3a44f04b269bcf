package check

import (
	"bytes"
	"slices"
	"testing"

	"lockstitch/api"
)

// dice is numbers of a short rule.
type dice struct{ at uint64 }

func (d *dice) below(n int) int {
	d.at = d.at*6364136223846793005 + 1442695040888963407
	return int(d.at >> 33 % uint64(n))
}

// letters is so many, each one of these.
func (d *dice) letters(many int, of string) string {
	s := make([]byte, many)
	for k := range s {
		s[k] = of[d.below(len(of))]
	}
	return string(s)
}

// some is a program that is close to one that may be run, another one for each number.
func some(seed int) api.Prog {
	d := &dice{uint64(seed)*0x9e3779b97f4a7c15 + 1}
	digits := "01234567"[:1+d.below(8)]
	var p api.Prog
	for range digits {
		p.Types = append(p.Types, d.letters(1+d.below(6), "ii"+digits))
	}
	p.Locals, p.Globs = d.letters(d.below(9), digits), d.letters(d.below(5), digits)
	many := 1 + d.below(12)
	for range many {
		i := api.Ins{Op: uint8(1 + d.below(15))}
		for _, name := range namesOf(i.Op) {
			if name == "N" {
				i.N = int64(d.below(many+3)) - 1
			} else {
				i = set(i, name[1], uint8(d.below(9)))
			}
		}
		p.Code = append(p.Code, i)
	}
	return p
}

// mended is p without the instructions that may not be.
func mended(p api.Prog) api.Prog {
	for {
		at, e := checkByChapter(p)
		if e == api.OK || at < 0 {
			return p
		}
		p.Code = slices.Delete(slices.Clone(p.Code), at, at+1)
	}
}

// jumpsBehind is the first one of these instructions that jumps behind their end; -1: none does.
func jumpsBehind(code []api.Ins) int {
	return slices.IndexFunc(code, func(i api.Ins) bool {
		return (i.Op == api.Jump || i.Op == api.Zero) && i.N > int64(len(code))
	})
}

// wantFewer is for a program that may be run.
func wantFewer(t *testing.T, p api.Prog) {
	t.Helper()
	wantOK(t, p)
	fewer := with(p, p.Code[:len(p.Code)-1]...)
	if len(fewer.Code) == 0 {
		wantCheck(t, fewer, -1, api.ErrBig)
		return
	}
	if at := jumpsBehind(fewer.Code); at >= 0 {
		wantCheck(t, fewer, at, api.ErrJump)
		return
	}
	wantOK(t, fewer)
}

// P5.3: a jump to the end ahead of the last instruction may not be without it; one to the last instruction, and the last instruction's own, do not matter.
func TestFewerOfJumps(t *testing.T) {
	fine := api.Ins{Op: api.Print}
	for _, op := range []uint8{api.Jump, api.Zero} {
		to := func(n int64) api.Ins { return api.Ins{Op: op, N: n} }
		wantOK(t, with(base(), fine, to(2)))
		wantOK(t, with(base(), fine))
		wantOK(t, with(base(), to(2), fine))
		wantCheck(t, with(base(), to(2)), 0, api.ErrJump)
		wantOK(t, with(base(), to(1), fine))
		wantOK(t, with(base(), to(1)))
		wantOK(t, with(base(), fine, to(4), to(3), fine))
		wantCheck(t, with(base(), fine, to(4), to(3)), 1, api.ErrJump)
		wantCheck(t, with(base(), fine, to(4)), 1, api.ErrJump)
		wantOK(t, with(base(), to(3), to(2), fine))
		wantCheck(t, with(base(), to(3), to(2)), 0, api.ErrJump)
		wantCheck(t, with(base(), to(0)), -1, api.OK)
		wantCheck(t, with(base()), -1, api.ErrBig)
	}
}

// P5.3: one instruction after the other is left away, of each operation.
func TestFewerOfEachOperation(t *testing.T) {
	for code := right(); len(code) > 0; code = code[:len(code)-1] {
		wantFewer(t, with(base(), code...))
	}
	for _, i := range right() {
		for many := 1; many <= 200; many++ {
			wantFewer(t, with(base(), slices.Repeat([]api.Ins{i}, many)...))
		}
	}
}

// P5.2 and P5.3: of many programs, and of those without the instructions that may not be.
func TestManyPrograms(t *testing.T) {
	ops, run, behind := map[uint8]int{}, 0, 0
	for seed := range 3000 {
		p := some(seed)
		at, e := checkByChapter(p)
		wantCheck(t, p, at, e)
		for p = mended(p); len(p.Code) > 0; p = mended(with(p, p.Code[:len(p.Code)-1]...)) {
			run++
			for _, i := range p.Code {
				ops[i.Op]++
			}
			if jumpsBehind(p.Code[:len(p.Code)-1]) >= 0 {
				behind++
			}
			wantFewer(t, p)
		}
	}
	// So that the programs are not all of one sort.
	if len(ops) != 15 || run < 1000 || behind < 100 {
		t.Errorf("of %d programs that may be run %d jump behind their last instruction; operations: %v", run, behind, ops)
	}
}

// codeOf takes five bytes for an instruction, the last one for an N that is small or far off.
func codeOf(b []byte) []api.Ins {
	var code []api.Ins
	for c := range slices.Chunk(b, 5) {
		if len(c) < 5 {
			break
		}
		n := int64(int8(c[4]))
		if n > 100 {
			n <<= 32
		}
		code = append(code, api.Ins{Op: c[0], A: c[1], B: c[2], C: c[3], N: n})
	}
	return code
}

func FuzzCheck(f *testing.F) {
	f.Add("i1", "0", "", 2, "011", "1", []byte{9, 0, 1, 0, 0, 11, 0, 1, 0, 1, 3, 0, 0, 0, 2})
	f.Add("000000", "i", "2", 3, "012", "2", bytes.Repeat([]byte{14, 7, 0, 0, 0}, 200))
	f.Add("i", "i8", "é", 9, "01234567", "00000", []byte{16, 8, 255, 1, 200})
	f.Fuzz(func(t *testing.T, a, b, c string, many int, locals, globs string, code []byte) {
		p := api.Prog{Locals: locals, Globs: globs, Code: codeOf(code)}
		for k := range min(max(many, 0), 20) {
			p.Types = append(p.Types, []string{a, b, c}[k%3])
		}
		at, e := checkByChapter(p)
		wantCheck(t, p, at, e)
		if e == api.OK {
			wantFewer(t, p)
		}
		for n := range min(max(len(locals), len(globs))+1, 256) {
			if l, g := Local(p, uint8(n)), Glob(p, uint8(n)); l >= len(p.Types) || g >= len(p.Types) || l < -1 || g < -1 || l >= 0 && int(locals[n]) != '0'+l || g >= 0 && int(globs[n]) != '0'+g {
				t.Errorf("Local and Glob of %d of %q, %q, %q: %d, %d", n, p.Types, locals, globs, l, g)
			}
		}
		if kinds := kindsByChapter(api.Prog{Types: p.Types}); kinds != (Need(p) > 0) {
			t.Errorf("Need of %q = %d", p.Types, Need(p))
		}
	})
}
