package code

import (
	"math"
	"regexp"
	"slices"
	"strconv"
	"strings"
	"testing"

	"lockstitch/api"
	"lockstitch/word"
)

// P4.4: a program comes back from its text.
func wantBack(t *testing.T, p api.Prog) {
	t.Helper()
	s, e := Print(p)
	if e != api.OK {
		t.Errorf("Print(%+v) = %d", p, e)
		return
	}
	wantParse(t, s, p)
}

// P4.4: of what was parsed the text is that with one space between words, and nothing else.
func wantTextBack(t *testing.T, s string) {
	t.Helper()
	p, _, e := Parse(s)
	if e != api.OK {
		t.Errorf("Parse(%.300q) = %d", s, e)
		return
	}
	lines, _, _ := word.Lines(s)
	var want strings.Builder
	for _, words := range lines {
		want.WriteString(strings.Join(words, " ") + "\n")
	}
	wantPrint(t, p, want.String())
}

// P4.4.
func TestProgramsComeBack(t *testing.T) {
	wantBack(t, api.Prog{})
	wantBack(t, list())
	wantBack(t, headProg())
	wantBack(t, api.Prog{Types: []string{"i"}})
	wantBack(t, api.Prog{Locals: "0"})
	wantBack(t, api.Prog{Globs: "0"})
	long := "abcdefghijklmnopqrstuvwxyz0123"
	wantBack(t, api.Prog{Types: []string{long, "456789", "a", "0"}, Locals: long, Globs: long})
	wantBack(t, api.Prog{Types: []string{"type", "locals", "globals", "set"}, Locals: "type", Globs: "new"})
	wantBack(t, api.Prog{Types: slices.Repeat([]string{long}, 500), Code: slices.Repeat([]api.Ins{{Op: api.New}}, 200)})
}

// P4.4: each instruction that may be, with numbers that are told apart.
func TestInstructionsComeBack(t *testing.T) {
	for op := 1; op <= 15; op++ {
		_, letters := form(op)
		for _, n := range [][]int64{{0, 0, 0}, {1, 2, 3}, {3, 1, 2}, {255, 254, 253}, {0, 255, 128}} {
			for _, big := range []int64{0, 1, -1, 255, 256, 1 << 32, math.MaxInt64, math.MinInt64} {
				i := api.Ins{Op: uint8(op)}
				for k, letter := range letters {
					if letter == "N" {
						i.N = big
					} else {
						i = with(i, letter, n[k])
					}
				}
				wantBack(t, api.Prog{Code: []api.Ins{i}})
				wantBack(t, headProg(slices.Repeat([]api.Ins{i, {Op: api.Nil}}, 100)...))
			}
		}
	}
}

// some is a program of a short rule, another one for each number.
func some(seed int) api.Prog {
	at := uint64(seed)*0x9e3779b97f4a7c15 + 1
	next := func(below int) int {
		at = at*6364136223846793005 + 1442695040888963407
		return int(at >> 33 % uint64(below))
	}
	letters := func(least, most int) string {
		var s strings.Builder
		for range least + next(most-least+1) {
			s.WriteByte("0123456789abcdefghijklmnopqrstuvwxyz"[next(36)])
		}
		return s.String()
	}
	var p api.Prog
	for range next(10) {
		p.Types = append(p.Types, letters(1, 30))
	}
	p.Locals, p.Globs = letters(0, 30), letters(0, 30)
	for range next(201) {
		op := 1 + next(15)
		i := api.Ins{Op: uint8(op)}
		_, has := form(op)
		for _, letter := range has {
			if letter != "N" {
				i = with(i, letter, int64(next(256)))
			} else {
				i.N = int64(at) >> next(64)
			}
		}
		p.Code = append(p.Code, i)
	}
	return p
}

// P4.4.
func TestManyProgramsComeBack(t *testing.T) {
	for seed := range 300 {
		p := some(seed)
		wantBack(t, p)
		s, _ := Print(p)
		wantTextBack(t, s)
		wantTextBack(t, "#\n\n "+strings.ReplaceAll(strings.ReplaceAll(s, " ", "  "), "\n", " # a\n\n"))
	}
}

// P4.4: with one space between words, and nothing else.
func TestTextsComeBack(t *testing.T) {
	wantTextBack(t, listText)
	wantTextBack(t, "locals -\nglobals -")
	wantTextBack(t, "# a list\n\n  type   i1 # a number, a pointer\n type 0\nlocals  01#\n\n#\nglobals 0 #-\n\n new 1# new 2\n\n")
	wantTextBack(t, "type i\nlocals -\n\nglobals   - \n set    255   -9223372036854775808 # least\nzero 0 -1")
	for op := 1; op <= 15; op++ {
		name, letters := form(op)
		wantTextBack(t, head+"   "+name+strings.Repeat("   17", len(letters))+"   #"+name)
	}
}

// P4.4: a text of 20000 bytes is read, one of 20001 is not, though it is printed.
func TestTheLongestTextsComeBack(t *testing.T) {
	p := api.Prog{Types: append(slices.Repeat([]string{strings.Repeat("z", 30)}, 554), "a", strings.Repeat("a", 24))}
	if s, _ := Print(p); len(s) != 20000 {
		t.Fatalf("the text has %d bytes", len(s))
	}
	wantBack(t, p)
	p.Locals = "00"
	s, e := Print(p)
	if len(s) != 20001 || e != api.OK {
		t.Fatalf("the text has %d bytes, %d", len(s), e)
	}
	wantNoParse(t, s, 0, api.ErrBig)
}

// forms are whole lines of instructions, in the order of the operations.
var forms = func() []*regexp.Regexp {
	var all []*regexp.Regexp
	for op := 1; op <= 15; op++ {
		name, letters := form(op)
		line := "^" + name
		for _, letter := range letters {
			if letter == "N" {
				line += " (0|-?[1-9][0-9]*)"
			} else {
				line += " (0|[1-9][0-9]?|1[0-9][0-9]|2[0-4][0-9]|25[0-5])"
			}
		}
		all = append(all, regexp.MustCompile(line+"$"))
	}
	return all
}()

var heads = map[string]*regexp.Regexp{
	"type":    regexp.MustCompile("^type ([a-z0-9]{1,30})$"),
	"locals":  regexp.MustCompile("^locals (-|[a-z0-9]{1,30})$"),
	"globals": regexp.MustCompile("^globals (-|[a-z0-9]{1,30})$"),
}

func insByForm(line string) (api.Ins, bool) {
	for k, f := range forms {
		name, letters := form(k + 1)
		if !strings.HasPrefix(line, name+" ") {
			continue
		}
		m := f.FindStringSubmatch(line)
		if m == nil {
			return api.Ins{}, false
		}
		i := api.Ins{Op: uint8(k + 1)}
		for at, letter := range letters {
			n, err := strconv.ParseInt(m[1+at], 10, 64)
			if err != nil {
				return api.Ins{}, false
			}
			i = with(i, letter, n)
		}
		return i, true
	}
	return api.Ins{}, false
}

// progByForms says what P4.3 does by the forms of whole lines, with nothing of the package.
func progByForms(s string) (api.Prog, int, api.Errno) {
	words, line, e := word.Lines(s)
	if e != api.OK {
		return api.Prog{}, line, e
	}
	var lines []string
	for _, w := range words {
		lines = append(lines, strings.Join(w, " "))
	}
	var p api.Prog
	read := 0
	take := func(name string) (string, bool) {
		if read == len(lines) || !heads[name].MatchString(lines[read]) {
			return "", false
		}
		read++
		return strings.TrimSuffix(lines[read-1][len(name)+1:], "-"), true
	}
	for letters, is := take("type"); is; letters, is = take("type") {
		p.Types = append(p.Types, letters)
	}
	var is bool
	if p.Locals, is = take("locals"); !is {
		return api.Prog{}, read + 1, api.ErrForm
	}
	if p.Globs, is = take("globals"); !is {
		return api.Prog{}, read + 1, api.ErrForm
	}
	for ; read < len(lines); read++ {
		i, is := insByForm(lines[read])
		if !is || len(p.Code) == 200 {
			return api.Prog{}, read + 1, api.ErrForm
		}
		p.Code = append(p.Code, i)
	}
	return p, 0, api.OK
}

// wantByForms is for any text.
func wantByForms(t *testing.T, s string) {
	t.Helper()
	p, line, e := progByForms(s)
	if e != api.OK {
		wantNoParse(t, s, line, e)
		return
	}
	wantParse(t, s, p)
	wantTextBack(t, s)
	wantBack(t, p)
}

// P4.3: texts with one byte other, away, or more.
func TestTextsThatAreSomewhatWrong(t *testing.T) {
	for _, s := range []string{listText, head + "set 1 -4\nadd 1 2 3\nzero 255 4\nsame 10 20 30", "type i\ntype 00\nlocals -\nglobals 01\nmove 0 1\nloadg 0 0"} {
		for at := range len(s) {
			wantByForms(t, s[:at])
			wantByForms(t, s[:at]+s[at+1:])
			for _, b := range "-019az #\n\x00A" {
				wantByForms(t, s[:at]+string(b)+s[at:])
				wantByForms(t, s[:at]+string(b)+s[at+1:])
			}
		}
	}
}

// P4.3: texts with one line away, twice, or in another place.
func TestTextsWithLinesInAnotherOrder(t *testing.T) {
	for seed := range 5 {
		s, _ := Print(some(seed))
		lines := strings.SplitAfter(s, "\n")
		for at := range min(len(lines), 12) {
			wantByForms(t, strings.Join(slices.Delete(slices.Clone(lines), at, at+1), ""))
			for to := range min(len(lines), 12) {
				wantByForms(t, strings.Join(slices.Insert(slices.Clone(lines), to, lines[at]), ""))
			}
		}
	}
}

func FuzzParse(f *testing.F) {
	for _, s := range []string{"", listText, head + "set 0 -1\nsame 0 255 256", "type i\nlocals -\nglobals -\n\nnew 1 # new\njump -07", "globals 0\nlocals 0"} {
		f.Add(s)
	}
	f.Fuzz(wantByForms)
}
