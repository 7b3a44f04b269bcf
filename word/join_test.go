package word

import (
	"slices"
	"strings"
	"testing"

	"lockstitch/api"
)

func wantJoin(t *testing.T, l [][]string, want string) {
	t.Helper()
	if got := Join(l); got != want {
		t.Errorf("Join(%.60q) = %.60q, want %.60q", l, got, want)
	}
}

// P2.3.
func TestJoin(t *testing.T) {
	wantJoin(t, [][]string{{"a"}}, "a\n")
	wantJoin(t, [][]string{{"a", "b"}}, "a b\n")
	wantJoin(t, [][]string{{"set", "0", "5"}, {"new", "1"}}, "set 0 5\nnew 1\n")
	wantJoin(t, [][]string{{"c", "b", "a"}, {"b"}, {"a", "a"}}, "c b a\nb\na a\n")
}

// P2.3: a line without words has its byte 10 too, and no lines have none.
func TestJoinOfNothing(t *testing.T) {
	wantJoin(t, nil, "")
	wantJoin(t, [][]string{}, "")
	wantJoin(t, [][]string{nil}, "\n")
	wantJoin(t, [][]string{{}}, "\n")
	wantJoin(t, [][]string{{}, nil, {}}, "\n\n\n")
	wantJoin(t, [][]string{{}, {"a"}, nil, {"b"}, {}}, "\na\n\nb\n\n")
}

// P2.3: it tells any words as they are, those that may not be too.
func TestJoinOfAnyWords(t *testing.T) {
	wantJoin(t, [][]string{{""}}, "\n")
	wantJoin(t, [][]string{{"", ""}}, " \n")
	wantJoin(t, [][]string{{"a", "", "b", ""}}, "a  b \n")
	wantJoin(t, [][]string{{"A", "#", "a b", "c\n"}, {"\xff\x00", "é"}}, "A # a b c\n\n\xff\x00 é\n")
	long := strings.Repeat("a", 50000)
	wantJoin(t, [][]string{{long, "b"}, {long}}, long+" b\n"+long+"\n")
}

// P2.4.
func wantBack(t *testing.T, l [][]string) {
	t.Helper()
	wantLines(t, Join(l), l...)
}

// P2.4.
func TestLinesComeBack(t *testing.T) {
	wantBack(t, nil)
	wantBack(t, [][]string{{"a"}})
	wantBack(t, [][]string{{"set", "0", "5"}, {"new", "1"}})
	wantBack(t, [][]string{{"-"}, {"-", "--"}, {"a-z", "0-9"}})
	wantBack(t, [][]string{{"abcdefghijklmnopqrstuvwxyz", "0123456789", "-"}, {"a", "a"}, {"a", "a"}})
	wantBack(t, [][]string{{strings.Repeat("a", 30)}, {strings.Repeat("9", 30), strings.Repeat("-", 30)}})
}

// P2.4: lines of many lengths, of words of all lengths and of all bytes.
func TestManyLinesComeBack(t *testing.T) {
	const may = "0123456789-abcdefghijklmnopqrstuvwxyz"
	at := 0
	word := func(n int) string {
		var b strings.Builder
		for range n {
			b.WriteByte(may[at%len(may)])
			at += 5
		}
		return b.String()
	}
	for many := range 12 {
		var l [][]string
		for i := range many {
			var words []string
			for k := range 1 + (i*7+many)%9 {
				words = append(words, word(1+(k*11+i)%30))
			}
			l = append(l, words)
		}
		wantBack(t, l)
	}
}

// P2.4: so they do as long as the text has 20000 bytes at most.
func TestLongestTextComesBack(t *testing.T) {
	l := slices.Repeat([][]string{{"a", "b", "c", "d", "e"}}, 2000)
	if n := len(Join(l)); n != 20000 {
		t.Fatalf("the text has %d bytes", n)
	}
	wantBack(t, l)
	l[0] = []string{"a", "b", "c", "d", "ee"}
	wantNoLines(t, Join(l), 0, api.ErrBig)
}

// P2.4: a text that Lines has read is told by Join with one space between words, and nothing else.
func TestJoinOfWhatLinesRead(t *testing.T) {
	eachText(6, "a \n#", func(s string) {
		l, _, e := Lines(s)
		if e != api.OK {
			t.Fatalf("Lines(%q): %d", s, e)
		}
		wantBack(t, l)
	})
	l, _, _ := Lines("set 0 5 # five\n\n new   1")
	wantJoin(t, l, "set 0 5\nnew 1\n")
}

// R6: what is handed in is not changed.
func TestJoinChangesNothing(t *testing.T) {
	words := []string{"a", "b", "c", "d"}
	l := [][]string{words[:1], words[1:3], {}}
	for range 2 {
		wantJoin(t, l, "a\nb c\n\n")
	}
	if !slices.Equal(words, []string{"a", "b", "c", "d"}) || len(l) != 3 {
		t.Errorf("it is %q, %q then", words, l)
	}
	text := Join(l)
	words[0] = "x"
	if text != "a\nb c\n\n" {
		t.Errorf("writing over a word changes the text: %q", text)
	}
}
