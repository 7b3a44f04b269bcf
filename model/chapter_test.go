package model

import (
	"slices"
	"strings"

	"lockstitch/api"
	"lockstitch/check"
)

// thing is an object of the second reading: it points to others by what they are, not by their numbers.
type thing struct {
	number  int
	letters string
	ints    map[int64]uint64
	things  map[int64]*thing
}

// second is a second reading of the chapter, with nothing of the package.
type second struct {
	x      map[uint8]uint64
	p, g   map[uint8]*thing
	all    []*thing
	out    []int64
	places []int // each one where it was, the last one where it is
}

func newSecond() *second {
	return &second{x: map[uint8]uint64{}, p: map[uint8]*thing{}, g: map[uint8]*thing{}, places: []int{0}}
}

func (s *second) at() int    { return s.places[len(s.places)-1] }
func (s *second) steps() int { return len(s.places) - 1 }

// next is the error that the next step answers; of none that is left it is OK.
func (s *second) next(p api.Prog) api.Errno {
	if s.at() == len(p.Code) {
		return api.OK
	}
	i := p.Code[s.at()]
	of := map[uint8]uint8{api.LoadI: i.B, api.LoadP: i.B, api.StoreI: i.A, api.StoreP: i.A}
	if a, is := of[i.Op]; is && s.p[a] == nil {
		return api.ErrZero
	}
	return api.OK
}

// step is for one that is left, and answers no error.
func (s *second) step(p api.Prog) {
	i := p.Code[s.at()]
	to := s.at() + 1
	switch i.Op {
	case api.Set:
		s.x[i.A] = uint64(i.N)
	case api.Add:
		s.x[i.A] = s.x[i.B] + s.x[i.C]
	case api.Jump:
		to = int(i.N)
	case api.Zero:
		if s.x[i.A] == 0 {
			to = int(i.N)
		}
	case api.New:
		made := &thing{number: len(s.all) + 1, letters: p.Types[p.Locals[i.A]-'0'], ints: map[int64]uint64{}, things: map[int64]*thing{}}
		s.all = append(s.all, made)
		s.p[i.A] = made
	case api.Nil:
		delete(s.p, i.A)
	case api.Move:
		s.p[i.A] = s.p[i.B]
	case api.LoadI:
		s.x[i.A] = s.p[i.B].ints[i.N]
	case api.StoreI:
		s.p[i.A].ints[i.N] = s.x[i.B]
	case api.LoadP:
		s.p[i.A] = s.p[i.B].things[i.N]
	case api.StoreP:
		s.p[i.A].things[i.N] = s.p[i.B]
	case api.LoadG:
		s.p[i.A] = s.g[i.B]
	case api.StoreG:
		s.g[i.A] = s.p[i.B]
	case api.Print:
		s.out = append(s.out, int64(s.x[i.A]))
	case api.Same:
		s.x[i.A] = map[bool]uint64{true: 1}[s.p[i.B] == s.p[i.C]]
	}
	s.places = append(s.places, to)
}

func numberOf(o *thing) int {
	if o == nil {
		return 0
	}
	return o.number
}

func (s *second) state() State {
	is := State{Out: s.out, At: s.at(), Steps: s.steps()}
	for a := range is.X {
		is.X[a] = int64(s.x[uint8(a)])
	}
	for a := range is.P {
		is.P[a] = numberOf(s.p[uint8(a)])
	}
	for a := range is.G {
		is.G[a] = numberOf(s.g[uint8(a)])
	}
	for _, o := range s.all {
		var fields []int64
		for k, letter := range strings.Split(o.letters, "") {
			field := int64(numberOf(o.things[int64(k)]))
			if letter == "i" {
				field = int64(o.ints[int64(k)])
			}
			fields = append(fields, field)
		}
		is.Objs = append(is.Objs, fields)
	}
	return is
}

// runByChapter is what P6.2 says of a program that may be run, and how many steps were done.
func runByChapter(p api.Prog, fuel int) ([]int64, api.Errno, int) {
	s := newSecond()
	for s.at() < len(p.Code) {
		if e := s.next(p); e != api.OK {
			return s.out, e, s.steps()
		}
		if s.steps() == fuel {
			return s.out, api.ErrFuel, s.steps()
		}
		s.step(p)
	}
	return s.out, api.OK, s.steps()
}

// dice is numbers of a short rule.
type dice struct{ at uint64 }

func (d *dice) below(n int) int {
	d.at = d.at*6364136223846793005 + 1442695040888963407
	return int(d.at >> 33 % uint64(n))
}

// letters is so many, each one of these.
func (d *dice) letters(many int, of string) string {
	s := make([]byte, many)
	for k := range s {
		s[k] = of[d.below(len(of))]
	}
	return string(s)
}

// ins is an instruction of that operation, perhaps one that may not be.
func (d *dice) ins(op uint8, many int) api.Ins {
	i := api.Ins{Op: op, A: uint8(d.below(8)), B: uint8(d.below(8)), C: uint8(d.below(8))}
	switch op {
	case api.Jump:
		return api.Ins{Op: op, N: int64(d.below(many + 1))}
	case api.Set, api.Zero:
		return api.Ins{Op: op, A: i.A, N: int64(d.below(many + 1))}
	case api.New, api.Nil, api.Print:
		return api.Ins{Op: op, A: i.A}
	case api.Move, api.LoadG, api.StoreG:
		i.C = 0
	case api.LoadI, api.StoreI, api.LoadP, api.StoreP:
		i.C, i.N = 0, int64(d.below(6))
	}
	return i
}

// put tries to lay an instruction of some operation at that place of p; where none fits, what is there stays.
func (d *dice) put(p api.Prog, at int) {
	was, op := p.Code[at], uint8(1+d.below(15))
	for range 100 {
		p.Code[at] = d.ins(op, len(p.Code))
		if _, e := check.Check(p); e == api.OK {
			return
		}
	}
	p.Code[at] = was
}

// some is a program that may be run, another one for each number. Most of them begin with an object for each pointer local.
func some(seed int) api.Prog {
	d := &dice{uint64(seed)*0x9e3779b97f4a7c15 + 1}
	digits := "01234567"[:1+d.below(3)]
	var p api.Prog
	for range digits {
		p.Types = append(p.Types, d.letters(1+d.below(6), "ii"+digits))
	}
	p.Locals, p.Globs = d.letters(1+d.below(8), digits), d.letters(d.below(5), digits)
	for a := range min(len(p.Locals), d.below(12)) {
		p.Code = append(p.Code, api.Ins{Op: api.New, A: uint8(a)})
	}
	news := len(p.Code)
	p.Code = append(p.Code, slices.Repeat([]api.Ins{{Op: api.Print}}, 1+d.below(24))...)
	for at := news; at < len(p.Code); at++ {
		d.put(p, at)
	}
	return p
}
