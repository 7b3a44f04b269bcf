package code

import (
	"slices"
	"strconv"
	"strings"
	"testing"

	"lockstitch/api"
)

func sameProg(a, b api.Prog) bool {
	return slices.Equal(a.Types, b.Types) && a.Locals == b.Locals && a.Globs == b.Globs && slices.Equal(a.Code, b.Code)
}

func wantParse(t *testing.T, s string, want api.Prog) {
	t.Helper()
	if got, line, e := Parse(s); !sameProg(got, want) || line != 0 || e != api.OK {
		t.Errorf("Parse(%.300q) = %+v, %d, %d; want %+v", s, got, line, e, want)
	}
}

// wantNoParse asks for no program beside the error, too.
func wantNoParse(t *testing.T, s string, line int, e api.Errno) {
	t.Helper()
	got, gotLine, gotE := Parse(s)
	if len(got.Types) != 0 || got.Locals != "" || got.Globs != "" || len(got.Code) != 0 {
		t.Errorf("Parse(%.300q) has a program beside an error: %+v", s, got)
	}
	if gotLine != line || gotE != e {
		t.Errorf("Parse(%.300q) = %d, %d; want %d, %d", s, gotLine, gotE, line, e)
	}
}

const (
	head      = "type i\nlocals 0\nglobals -\n"
	headLines = 3
)

// headProg is the program of head with these instructions.
func headProg(code ...api.Ins) api.Prog {
	return api.Prog{Types: []string{"i"}, Locals: "0", Code: code}
}

// wantLine asks for that instruction of a text that is that line alone, behind head, and of one that has others around it.
func wantLine(t *testing.T, line string, want api.Ins) {
	t.Helper()
	print7 := api.Ins{Op: api.Print, A: 7}
	wantParse(t, head+line, headProg(want))
	wantParse(t, head+"print 7\n"+line+"\nprint 7\n", headProg(print7, want, print7))
}

// wantNoLine asks for an error at that line, wherever it stands.
func wantNoLine(t *testing.T, line string) {
	t.Helper()
	wantNoParse(t, head+line, headLines+1, api.ErrForm)
	wantNoParse(t, head+line+"\n", headLines+1, api.ErrForm)
	wantNoParse(t, head+"print 7\nprint 7\n"+line+"\nprint 7\n", headLines+3, api.ErrForm)
	wantNoParse(t, head+strings.Repeat("print 7\n", 199)+line+"\n", headLines+200, api.ErrForm)
}

// P4.3, example 1.
func TestParseExample(t *testing.T) {
	wantParse(t, "type i\nlocals 0\nglobals -\nnew 0\nstorei 0 0 3\n", headProg(api.Ins{Op: api.New}, api.Ins{Op: api.StoreI, A: 0, B: 3, N: 0}))
}

// P4.3: the lines in their order.
func TestParseOrdinary(t *testing.T) {
	wantParse(t, listText, list())
	wantParse(t, "locals -\nglobals -\n", api.Prog{})
	wantParse(t, "locals -\nglobals 0", api.Prog{Globs: "0"})
	wantParse(t, "locals 7\nglobals -", api.Prog{Locals: "7"})
}

// P4.3: spaces, empty lines and remarks are not seen.
func TestParseOfSpacesAndRemarks(t *testing.T) {
	want := api.Prog{Types: []string{"i1", "0"}, Locals: "01", Globs: "0", Code: []api.Ins{{Op: api.New, A: 1}}}
	wantParse(t, "type i1\ntype 0\nlocals 01\nglobals 0\nnew 1", want)
	wantParse(t, "# a list\n\n  type   i1 # a number, a pointer\n type 0\nlocals  01#\n\n#\nglobals 0 #-\n\n new 1# new 2\n\n", want)
}

// P4.3: each operation, its numbers in the order of the chapter.
func TestParseEachOperation(t *testing.T) {
	for line, want := range map[string]api.Ins{
		"set 1 4":      {Op: api.Set, A: 1, N: 4},
		"add 1 2 3":    {Op: api.Add, A: 1, B: 2, C: 3},
		"jump 4":       {Op: api.Jump, N: 4},
		"zero 1 4":     {Op: api.Zero, A: 1, N: 4},
		"new 1":        {Op: api.New, A: 1},
		"nil 1":        {Op: api.Nil, A: 1},
		"move 1 2":     {Op: api.Move, A: 1, B: 2},
		"loadi 1 2 4":  {Op: api.LoadI, A: 1, B: 2, N: 4},
		"storei 1 4 2": {Op: api.StoreI, A: 1, B: 2, N: 4},
		"loadp 1 2 4":  {Op: api.LoadP, A: 1, B: 2, N: 4},
		"storep 1 4 2": {Op: api.StoreP, A: 1, B: 2, N: 4},
		"loadg 1 2":    {Op: api.LoadG, A: 1, B: 2},
		"storeg 1 2":   {Op: api.StoreG, A: 1, B: 2},
		"print 1":      {Op: api.Print, A: 1},
		"same 1 2 3":   {Op: api.Same, A: 1, B: 2, C: 3},
	} {
		wantLine(t, line, want)
	}
}

// lineOf is an operation's line, with this at the number k, and 1 at all others.
func lineOf(op, k int, word string) string {
	name, letters := form(op)
	words := slices.Repeat([]string{"1"}, len(letters))
	words[k] = word
	return name + " " + strings.Join(words, " ")
}

// insOf is what lineOf says, if the word is that number.
func insOf(op, k int, n int64) api.Ins {
	_, letters := form(op)
	i := api.Ins{Op: uint8(op)}
	for at, letter := range letters {
		if at == k {
			i = with(i, letter, n)
		} else {
			i = with(i, letter, 1)
		}
	}
	return i
}

// eachNumber tells of each number of each operation: the letter that it is.
func eachNumber(do func(op, k int, letter string)) {
	for op := 1; op <= 15; op++ {
		_, letters := form(op)
		for k, letter := range letters {
			do(op, k, letter)
		}
	}
}

// P4.3: A, B and C are 0 to 255; N is any number.
func TestParseEachNumber(t *testing.T) {
	for word, n := range map[string]int64{
		"0": 0, "1": 1, "7": 7, "8": 8, "127": 127, "128": 128, "200": 200, "254": 254, "255": 255,
		"256": 256, "257": 257, "511": 511, "65536": 65536, "65537": 65537, "4294967296": 1 << 32, "4294967297": 1<<32 + 1,
		"-1": -1, "-255": -255, "-256": -256, "-4294967296": -1 << 32,
		"9223372036854775807": 1<<63 - 1, "-9223372036854775808": -1 << 63, "-9223372036854775807": -1<<63 + 1, "-9223372036854775552": -1<<63 + 256,
	} {
		eachNumber(func(op, k int, letter string) {
			if letter == "N" || 0 <= n && n <= 255 {
				wantLine(t, lineOf(op, k, word), insOf(op, k, n))
			} else {
				wantNoLine(t, lineOf(op, k, word))
			}
		})
	}
}

// P4.3: each byte there is.
func TestParseEachByte(t *testing.T) {
	for n := range 300 {
		word := strconv.Itoa(n)
		for k, letter := range []string{"A", "B", "C"} {
			want := with(api.Ins{Op: api.Add, A: 1, B: 1, C: 1}, letter, int64(n))
			if n <= 255 {
				wantLine(t, lineOf(api.Add, k, word), want)
			} else {
				wantNoLine(t, lineOf(api.Add, k, word))
			}
		}
	}
}

// P4.3: numbers that are not written as the chapter of word has it, or are no int64.
func TestParseOfWrongNumbers(t *testing.T) {
	for _, word := range []string{"-", "--1", "-0", "00", "01", "-01", "007", "000255", "1-", "1-1", "a", "1a", "a1", "0x1", "1e2", "x0", "-a",
		"9223372036854775808", "-9223372036854775809", "18446744073709551616", "18446744073709551617", strings.Repeat("9", 30), strings.Repeat("0", 30)} {
		eachNumber(func(op, k int, _ string) {
			wantNoLine(t, lineOf(op, k, word))
		})
	}
}

// P4.3: an operation has just so many numbers.
func TestParseHowManyNumbers(t *testing.T) {
	for op := 1; op <= 15; op++ {
		name, letters := form(op)
		for many := range 10 {
			line := name + strings.Repeat(" 0", many)
			if many == len(letters) {
				wantLine(t, line, api.Ins{Op: uint8(op)})
			} else {
				wantNoLine(t, line)
			}
		}
	}
}

// P4.3: names that are no operation's, with any many numbers.
func TestParseOfWrongNames(t *testing.T) {
	for _, name := range []string{"halt", "a", "z", "0", "1", "5", "-", "s", "se", "sets", "set-", "-set", "set0", "sett", "ad", "added", "jum", "jump-", "load", "store", "loadx", "newnew", "i", "nop", "op", "sub", "types", "local", "global", "type", "locals", "globals"} {
		for many := range 5 {
			wantNoLine(t, name+strings.Repeat(" 0", many))
		}
	}
	wantNoLine(t, "type i")
	wantNoLine(t, "locals 0")
	wantNoLine(t, "locals -")
	wantNoLine(t, "globals -")
	wantNoLine(t, "0 new")
	wantNoLine(t, "0 0")
}

// P4.3: where a line is missing, one more than there are is told.
func TestParseOfMissingLines(t *testing.T) {
	for s, line := range map[string]int{
		"":                             1,
		"\n":                           1,
		" \n\n  ":                      1,
		"# locals -\n# globals -":      1,
		"type i":                       2,
		"type i\ntype 0\n":             3,
		"# a\n\ntype i\n\n# b\ntype 0": 3,
		"locals -":                     2,
		"locals 0\n":                   2,
		"type i\nlocals 0":             3,
		"type i\n\n\nlocals 0\n\n#\n":  3,
		"type i\ntype i\nlocals -\n":   4,
	} {
		wantNoParse(t, s, line, api.ErrForm)
	}
}

// P4.3: lines in another order, or said twice: the first one that is not what it has to be.
func TestParseOfAnotherOrder(t *testing.T) {
	for s, line := range map[string]int{
		"globals -":                             1,
		"globals -\nlocals -":                   1,
		"globals -\nlocals -\nnew 0":            1,
		"type i\nglobals 0\nlocals 0\n":         2,
		"new 0":                                 1,
		"type i\nnew 0\nlocals 0\nglobals -":    2,
		"type i\nlocals 0\nnew 0\nglobals -":    3,
		"type i\nlocals 0\nnew 0":               3,
		"locals -\nlocals -\nglobals -":         2,
		"locals -\nglobals -\nglobals -":        3,
		"locals -\nglobals -\nlocals -":         3,
		"locals -\ntype i\nglobals -":           2,
		"locals -\nglobals -\ntype i":           3,
		"type i\nlocals -\ntype i\nglobals -":   3,
		"type i\nlocals -\nglobals -\ntype i":   4,
		"type i\nlocals -\nglobals -\nlocals 0": 4,
		"i\nlocals 0\nglobals -":                1,
		"types i\nlocals 0\nglobals -":          1,
		"type i\nlocal 0\nglobals -":            2,
		"type i\nlocals 0\nglobal -":            3,
		"type i\nlocals 0\nglobs -":             3,
	} {
		wantNoParse(t, s, line, api.ErrForm)
	}
}

// P4.3: each of the three kinds of lines has two words.
func TestParseHowManyWords(t *testing.T) {
	for _, more := range []string{"", " 0 0", " 0 -", " - 0", " - -", " 0 1 2"} {
		wantNoParse(t, "type"+more+"\nlocals 0\nglobals 0\n", 1, api.ErrForm)
		wantNoParse(t, "type i\ntype"+more+"\nlocals 0\nglobals 0\n", 2, api.ErrForm)
		wantNoParse(t, "locals"+more+"\nglobals 0\n", 1, api.ErrForm)
		wantNoParse(t, "type i\nlocals"+more+"\nglobals 0\nnew 0", 2, api.ErrForm)
		wantNoParse(t, "locals 0\nglobals"+more, 2, api.ErrForm)
		wantNoParse(t, "type i\nlocals 0\nglobals"+more+"\nnew 0", 3, api.ErrForm)
	}
}

// linesWith are texts with these letters as a type, as Locals and as Globs, and the program of each.
func linesWith(letters string) ([]string, []api.Prog) {
	return []string{
		"type " + letters + "\nlocals 0\nglobals 1\nprint 1",
		"type i\nlocals " + letters + "\nglobals 1\nprint 1",
		"type i\nlocals 0\nglobals " + letters + "\nprint 1",
	}, []api.Prog{
		{Types: []string{letters}, Locals: "0", Globs: "1", Code: []api.Ins{{Op: api.Print, A: 1}}},
		{Types: []string{"i"}, Locals: letters, Globs: "1", Code: []api.Ins{{Op: api.Print, A: 1}}},
		{Types: []string{"i"}, Locals: "0", Globs: letters, Code: []api.Ins{{Op: api.Print, A: 1}}},
	}
}

// P4.3: the letters a to z and 0 to 9; all others, but - , may not be in a word, nor may - in letters.
func TestParseEachLetter(t *testing.T) {
	for b := range 256 {
		if b == ' ' || b == '\n' || b == '#' {
			continue
		}
		letter := string([]byte{byte(b)})
		right := strings.Contains("abcdefghijklmnopqrstuvwxyz0123456789", letter)
		for _, letters := range []string{letter + "i", "i" + letter, "0" + letter + "0"} {
			texts, progs := linesWith(letters)
			for k := range texts {
				if right {
					wantParse(t, texts[k], progs[k])
				} else {
					wantNoParse(t, texts[k], k+1, api.ErrForm)
				}
			}
		}
	}
}

// P4.3: - is none, alone, and of Locals and Globs alone.
func TestParseOfNoLetters(t *testing.T) {
	texts, progs := linesWith("-")
	wantNoParse(t, texts[0], 1, api.ErrForm)
	progs[1].Locals = ""
	wantParse(t, texts[1], progs[1])
	progs[2].Globs = ""
	wantParse(t, texts[2], progs[2])
	for _, letters := range []string{"--", "-0", "0-", "i-i", "---"} {
		texts, _ := linesWith(letters)
		for k := range texts {
			wantNoParse(t, texts[k], k+1, api.ErrForm)
		}
	}
}

// P4.3: of 1, 30 and 31 letters; the last ones are no word, wherever else something is wrong.
func TestParseHowManyLetters(t *testing.T) {
	for n := 1; n <= 30; n++ {
		for _, letter := range []string{"a", "z", "0", "9"} {
			texts, progs := linesWith(strings.Repeat(letter, n))
			for k := range texts {
				wantParse(t, texts[k], progs[k])
			}
		}
	}
	for _, n := range []int{31, 32, 60, 256} {
		texts, _ := linesWith(strings.Repeat("0", n))
		for k := range texts {
			wantNoParse(t, texts[k], k+1, api.ErrForm)
			wantNoParse(t, "#\n\n"+texts[k], k+3, api.ErrForm)
		}
	}
}

// P4.3: lines of types, as many as there are; whether types may be is not asked.
func TestParseHowManyTypes(t *testing.T) {
	for _, n := range []int{0, 1, 2, 8, 9, 30, 200, 201, 1000, 2000} {
		wantParse(t, strings.Repeat("type i\n", n)+"locals 0\nglobals -", api.Prog{Types: slices.Repeat([]string{"i"}, n), Locals: "0"})
		wantNoParse(t, strings.Repeat("type i\n", n)+"type -\nlocals 0\nglobals -", n+1, api.ErrForm)
		wantNoParse(t, strings.Repeat("type i\n", n)+"locals 0\nglobals -\nnew", n+3, api.ErrForm)
	}
	wantParse(t, "type type\ntype 9\ntype zzzzzzz\nlocals locals\nglobals globals", api.Prog{Types: []string{"type", "9", "zzzzzzz"}, Locals: "locals", Globs: "globals"})
}

// P4.3: 200 instructions, and at 201 the line of the last one, whatever it is.
func TestParseHowManyInstructions(t *testing.T) {
	new4 := api.Ins{Op: api.New, A: 4}
	for _, n := range []int{0, 1, 2, 199, 200} {
		wantParse(t, head+strings.Repeat("new 4\n", n), headProg(slices.Repeat([]api.Ins{new4}, n)...))
	}
	for _, n := range []int{201, 202, 256, 400, 2000} {
		wantNoParse(t, head+strings.Repeat("new 4\n", n), headLines+201, api.ErrForm)
	}
	many := strings.Repeat("new 4\n", 200)
	wantNoParse(t, head+many+"halt", headLines+201, api.ErrForm)
	wantNoParse(t, head+many+"type i", headLines+201, api.ErrForm)
	wantNoParse(t, head+many+"new 4\nhalt", headLines+201, api.ErrForm)
	wantNoParse(t, "\n"+head+"\n#\n"+many+"\n\nnew 4", headLines+201, api.ErrForm)
	wantNoParse(t, head+"halt\n"+many+many, headLines+1, api.ErrForm)
	wantParse(t, head+many+"# new 4\n\n \n", headProg(slices.Repeat([]api.Ins{new4}, 200)...))
}

// P4.3: the line is counted among those that have words.
func TestParseWhichLine(t *testing.T) {
	for s, line := range map[string]int{
		"\n\nhalt":                                       1,
		"# a\n \nhalt 1 # b\n":                           1,
		"\n#\ntype i\n\n\nhalt":                          2,
		"#\ntype i\n#\nlocals -\n#\nhalt\n":              3,
		"\ntype i\n\nlocals -\n\nglobals -\n\nhalt":      4,
		"locals -\n\nglobals -\n\nnew 0\n\n\nnew\n\nnew": 4,
	} {
		wantNoParse(t, s, line, api.ErrForm)
	}
}

// P4.3: of two lines that are not what they have to be, the first one.
func TestParseTwoErrors(t *testing.T) {
	wantNoParse(t, "type -\nlocals\nglobals", 1, api.ErrForm)
	wantNoParse(t, "type i\nlocals --\nglobals --\nhalt", 2, api.ErrForm)
	wantNoParse(t, "type i\nlocals 0\nglobals --\nhalt", 3, api.ErrForm)
	wantNoParse(t, head+"new 0\nnew 256\nhalt\nnew", headLines+2, api.ErrForm)
}

// P4.3 and R2: word's error is named first, and its line is counted among all lines.
func TestParseOfWrongWords(t *testing.T) {
	for s, line := range map[string]int{
		"A":                                      1,
		"\n\nA":                                  3,
		"halt\n\n#\nlocals A":                    4,
		"type -\nlocals\n\nglobals +":            4,
		"type i\n\nlocals 0,1\nglobals -":        3,
		head + "\n\nset 0 +5":                    6,
		head + "\nhalt\nnew 0\n\nprint 0.5":      8,
		head + "print\t0":                        4,
		head + "print 0\r\nprint 0\r\n":          4,
		"type i\rlocals -":                       1,
		head + "jump " + strings.Repeat("9", 31): 4,
		strings.Repeat("\n", 9) + "é":            10,
	} {
		wantNoParse(t, s, line, api.ErrForm)
	}
}

// P4.3: word's other error has no line.
func TestParseOfMuch(t *testing.T) {
	for _, s := range []string{head, "", "halt", "A"} {
		wantNoParse(t, s+strings.Repeat("\n", 20001-len(s)), 0, api.ErrBig)
		wantNoParse(t, s+strings.Repeat("#", 40000), 0, api.ErrBig)
	}
	wantParse(t, head+strings.Repeat("\n", 20000-len(head)), headProg())
	wantNoParse(t, strings.Repeat("\n", 20000), 1, api.ErrForm)
}

// R6: no two answers share any memory, nor do the lists of one.
func TestParseIsNewMemory(t *testing.T) {
	first, _, _ := Parse(listText)
	second, _, _ := Parse(listText)
	if len(first.Types) == 0 || len(first.Code) == 0 {
		t.Fatalf("Parse = %+v", first)
	}
	for k := range first.Types {
		first.Types[k] = "x"
	}
	clear(first.Code)
	if !sameProg(second, list()) {
		t.Errorf("what is written in one answer is in the other one: %+v", second)
	}
	wantParse(t, listText, list())
}
