package word

import (
	"slices"
	"strings"
	"testing"

	"lockstitch/api"
)

func sameLines(a, b [][]string) bool {
	return slices.EqualFunc(a, b, slices.Equal[[]string])
}

func wantLines(t *testing.T, s string, want ...[]string) {
	t.Helper()
	got, line, e := Lines(s)
	if !sameLines(got, want) || line != 0 || e != api.OK {
		t.Errorf("Lines(%.60q) = %q, %d, %d; want %q, 0, OK", s, got, line, e, want)
	}
}

func wantNoLines(t *testing.T, s string, wantLine int, want api.Errno) {
	t.Helper()
	got, line, e := Lines(s)
	if len(got) != 0 || line != wantLine || e != want {
		t.Errorf("Lines(%.60q) = %q, %d, %d; want none, %d, %d", s, got, line, e, wantLine, want)
	}
}

// P2.1, example 1.
func TestLinesExample(t *testing.T) {
	wantLines(t, "set 0 5 # five\n\n new 1", []string{"set", "0", "5"}, []string{"new", "1"})
}

// P2.1.
func TestLinesInOrder(t *testing.T) {
	wantLines(t, "c b a\nb\na c\nb\n", []string{"c", "b", "a"}, []string{"b"}, []string{"a", "c"}, []string{"b"})
	wantLines(t, "a a a", []string{"a", "a", "a"})
}

// P2.1: the last line stands behind the last byte 10, or is the whole text.
func TestLinesAtTheEnd(t *testing.T) {
	wantLines(t, "a", []string{"a"})
	wantLines(t, "a\n", []string{"a"})
	wantLines(t, "a\nb", []string{"a"}, []string{"b"})
	wantLines(t, "a\nb\n", []string{"a"}, []string{"b"})
	wantLines(t, "a\n ", []string{"a"})
	wantLines(t, "a\n#b", []string{"a"})
	wantLines(t, "\na", []string{"a"})
}

// P2.1: a line without words is left out.
func TestLinesWithoutWords(t *testing.T) {
	for _, s := range []string{"", "\n", "\n\n\n", " ", "    ", " \n  \n   ", "#", "##", "# a", "  #a", "#\n#\n", " # \n#A"} {
		wantLines(t, s)
	}
	wantLines(t, "\n\na\n\n\nb\n\n", []string{"a"}, []string{"b"})
	wantLines(t, "  \na\n    \n \nb\n  ", []string{"a"}, []string{"b"})
}

// P2.1: what stands between two spaces, if it is nothing, is no word.
func TestLinesSpaces(t *testing.T) {
	for _, s := range []string{"a b", " a b", "a b ", "a  b", "a     b", "   a  b   ", " a b #", "a b#", "  a   b  # c"} {
		wantLines(t, s, []string{"a", "b"})
	}
}

// P2.1: from the first # on a line is no more, whatever stands there, and the next line is there again.
func TestLinesRemarks(t *testing.T) {
	wantLines(t, "#a b\nc", []string{"c"})
	wantLines(t, "a#b c\nd", []string{"a"}, []string{"d"})
	wantLines(t, "a b#", []string{"a", "b"})
	wantLines(t, "a b #c#d", []string{"a", "b"})
	wantLines(t, "a #B\t\r\x00\xff~ é", []string{"a"})
	wantLines(t, "#"+strings.Repeat("b", mostOfWord+1)+"\na", []string{"a"})
	word := strings.Repeat("z", 30)
	wantLines(t, word+"#z", []string{word})
}

// P2.1: each byte that a word may have, and each that it may not.
func TestLinesEachByte(t *testing.T) {
	const may = "abcdefghijklmnopqrstuvwxyz0123456789-"
	for b := range 256 {
		c := string([]byte{byte(b)})
		switch {
		case strings.Contains(may, c):
			wantLines(t, c, []string{c})
			wantLines(t, "x"+c+"x y", []string{"x" + c + "x", "y"})
		case c == "\n":
			wantLines(t, "x"+c+"x y", []string{"x"}, []string{"x", "y"})
		case c == " ":
			wantLines(t, "x"+c+"x y", []string{"x", "x", "y"})
		case c == "#":
			wantLines(t, "x"+c+"x y", []string{"x"})
		default:
			for _, w := range []string{c, c + "x", "x" + c, "x" + c + "x"} {
				wantNoLines(t, w, 1, api.ErrForm)
				wantNoLines(t, "y "+w+" y", 1, api.ErrForm)
			}
		}
	}
}

// P2.1: words are their bytes, so that their form as numbers is not looked at, nor what other letters mean.
func TestLinesOfAnyWords(t *testing.T) {
	wantLines(t, "- -- -0 007 0-0 a-b 9z", []string{"-", "--", "-0", "007", "0-0", "a-b", "9z"})
	for _, w := range []string{"é", "ａ", "٣", "a\u00a0b", "a\u2003b", "a\u2028b", "\ufeffa", "a\tb", "a\r", "a\vb", "a\fb", "a\u0085b"} {
		wantNoLines(t, w, 1, api.ErrForm)
	}
}

// P2.1: lines stand between bytes 10 alone; a byte 13 ahead of one, or behind it, is a word's.
func TestLinesByteThirteen(t *testing.T) {
	wantNoLines(t, "a\r\nb\r\n", 1, api.ErrForm)
	wantNoLines(t, "a\nb\n\r\nc", 3, api.ErrForm)
	wantNoLines(t, "a\n\rb", 2, api.ErrForm)
	wantNoLines(t, "a\rb", 1, api.ErrForm)
	wantLines(t, "a #\r\nb", []string{"a"}, []string{"b"})
}

// P2.1: 30 bytes are a word, 31 are none.
func TestLinesLongWords(t *testing.T) {
	for _, c := range []string{"a", "z", "0", "9", "-"} {
		for n := 1; n <= 30; n++ {
			w := strings.Repeat(c, n)
			wantLines(t, w, []string{w})
			wantLines(t, "b "+w+"\n"+w+" c", []string{"b", w}, []string{w, "c"})
		}
		for _, n := range []int{31, 32, 60, 61, 256, 286, 20000} {
			wantNoLines(t, strings.Repeat(c, n), 1, api.ErrForm)
		}
		wantNoLines(t, "a\n"+strings.Repeat(c, 31)+"#", 2, api.ErrForm)
	}
}

// P2.1: the line is counted among all of the text's lines, from 1 on.
func TestLinesWhichLine(t *testing.T) {
	for _, x := range []struct {
		s    string
		line int
	}{
		{"A", 1},
		{"A\n", 1},
		{"a B", 1},
		{"a B\nc", 1},
		{"a\nB", 2},
		{"\nA", 2},
		{"\n\n \n# a\na\nb A c\nd", 6},
		{"#\n#A\n  A", 3},
		{strings.Repeat("\n", 19999) + "A", 20000},
	} {
		wantNoLines(t, x.s, x.line, api.ErrForm)
	}
}

// P2.1: of two words that may not be the first one is told.
func TestLinesTwoErrors(t *testing.T) {
	long := strings.Repeat("a", 31)
	wantNoLines(t, "a\nB\nc\nD", 2, api.ErrForm)
	wantNoLines(t, "a\n"+long+"\nB", 2, api.ErrForm)
	wantNoLines(t, "a\n\nB\n"+long, 3, api.ErrForm)
	wantNoLines(t, "A B\nC", 1, api.ErrForm)
	wantNoLines(t, "a #B\nC\nD", 2, api.ErrForm)
}

// P2.1: 20000 bytes are a text, whatever they are; 20001 are none.
func TestLinesLongTexts(t *testing.T) {
	for _, c := range []string{" ", "\n", "#"} {
		wantLines(t, strings.Repeat(c, 20000))
		for _, n := range []int{20001, 20002, 40000, 1 << 20} {
			wantNoLines(t, strings.Repeat(c, n), 0, api.ErrBig)
		}
	}
	words := slices.Repeat([]string{"a"}, 10000)
	wantLines(t, strings.Repeat("a ", 10000), words)
	wantNoLines(t, strings.Repeat("a ", 10000)+" ", 0, api.ErrBig)
	wantNoLines(t, strings.Repeat("a ", 10000)+"a", 0, api.ErrBig)
	lines := slices.Repeat([][]string{{"a"}}, 10000)
	wantLines(t, strings.Repeat("a\n", 10000), lines...)
	wantNoLines(t, strings.Repeat("a\n", 10000)+"\n", 0, api.ErrBig)
	wantLines(t, "a#"+strings.Repeat("\xff", 19998), []string{"a"})
	// Bytes are counted, not letters: these are 10001 letters.
	wantNoLines(t, "#"+strings.Repeat("é", 10000), 0, api.ErrBig)
}

// P2.1 and R2: that a text is too long is named first, and it tells of no line.
func TestLinesTooLongAndWrong(t *testing.T) {
	wantNoLines(t, "A"+strings.Repeat(" ", 20000), 0, api.ErrBig)
	wantNoLines(t, "a\nB\n"+strings.Repeat("\n", 20000), 0, api.ErrBig)
	wantNoLines(t, strings.Repeat("a", 20001), 0, api.ErrBig)
	wantNoLines(t, "A"+strings.Repeat(" ", 19999), 1, api.ErrForm)
}

// linesByBytes says what P2.1 does one byte behind the other, with nothing of the package.
func linesByBytes(s string) ([][]string, int, api.Errno) {
	var lines [][]string
	var words []string
	word, line, remark, wrong := "", 1, false, 0
	for _, b := range append([]byte(s), '\n') {
		remark = remark || b == '#'
		switch {
		case b == '\n' || b == ' ' || remark:
			if word != "" {
				words, word = append(words, word), ""
			}
		default:
			word += string([]byte{b})
			if wrong == 0 && (strings.IndexByte("abcdefghijklmnopqrstuvwxyz0123456789-", b) < 0 || len(word) == 31) {
				wrong = line
			}
		}
		if b == '\n' {
			if words != nil {
				lines, words = append(lines, words), nil
			}
			line, remark = line+1, false
		}
	}
	if wrong != 0 {
		return nil, wrong, api.ErrForm
	}
	return lines, 0, api.OK
}

// eachText tells of all texts of at most so many of these letters.
func eachText(most int, letters string, do func(s string)) {
	do("")
	texts := []string{""}
	for range most {
		var longer []string
		for _, s := range texts {
			for i := range len(letters) {
				longer = append(longer, s+letters[i:i+1])
			}
		}
		texts = longer
		for _, s := range texts {
			do(s)
		}
	}
}

// P2.1.
func TestLinesOfEachShortText(t *testing.T) {
	eachText(7, "a- \n#A", func(s string) {
		got, line, e := Lines(s)
		want, wantLine, wantE := linesByBytes(s)
		if !sameLines(got, want) || line != wantLine || e != wantE {
			t.Fatalf("Lines(%q) = %q, %d, %d; want %q, %d, %d", s, got, line, e, want, wantLine, wantE)
		}
	})
}

// R6: no two lists of an answer, and no two answers, share any memory.
func TestLinesAreNewMemory(t *testing.T) {
	const s = "a b c\nd e\nf\n"
	want := [][]string{{"a", "b", "c"}, {"d", "e"}, {"f"}}
	first, _, _ := Lines(s)
	second, _, _ := Lines(s)
	if len(first) != len(want) {
		t.Fatalf("Lines = %q", first)
	}
	for i := range first {
		_ = append(first[i], "x", "x", "x")
		if !sameLines(first, want) {
			t.Fatalf("what is put behind line %d is in another one: %q", i, first)
		}
	}
	for i := range first {
		for j := range first[i] {
			first[i][j] = "x"
		}
		if i+1 < len(first) && !slices.Equal(first[i+1], want[i+1]) {
			t.Fatalf("what is written in line %d is in the next one: %q", i, first)
		}
	}
	if !sameLines(second, want) {
		t.Errorf("what is written in one answer is in the other one: %q", second)
	}
	wantLines(t, s, want...)
}

func FuzzLines(f *testing.F) {
	for _, s := range []string{"", "set 0 5 # five\n\n new 1", "a\n#b\nC", " a#\n\xff", strings.Repeat("a", 31)} {
		f.Add(s)
	}
	f.Fuzz(func(t *testing.T, s string) {
		got, line, e := Lines(s)
		want, wantLine, wantE := linesByBytes(s)
		if len(s) > 20000 {
			want, wantLine, wantE = nil, 0, api.ErrBig
		}
		if !sameLines(got, want) || line != wantLine || e != wantE {
			t.Errorf("Lines(%q) = %q, %d, %d; want %q, %d, %d", s, got, line, e, want, wantLine, wantE)
		}
	})
}
