package check

import (
	"regexp"
	"strconv"
	"strings"

	"lockstitch/api"
)

// names says of each operation, in their order, which locals and globals it names, and whether it has an N.
const names = "xA N;xA xB xC;N;xA N;pA;pA;pA pB;xA pB N;pA xB N;pA pB N;pA pB N;pA gB;gA pB;xA;xA pB pC"

// pairs says of some operations which two are of one kind: a . stands for the kind of the field N of what is ahead of it, int for that of a number.
var pairs = map[uint8]string{
	api.Move: "pA pB", api.Same: "pB pC",
	api.LoadI: "pB. int", api.StoreI: "pA. int",
	api.LoadP: "pB. pA", api.StoreP: "pA. pB",
	api.LoadG: "pA gB", api.StoreG: "gA pB",
}

func namesOf(op uint8) []string {
	return strings.Fields(strings.Split(names, ";")[op-1])
}

func numberAt(i api.Ins, letter byte) uint8 {
	return map[byte]uint8{'A': i.A, 'B': i.B, 'C': i.C}[letter]
}

// kindOf is a type's digit, i of a number, and nothing of what is not there.
func kindOf(p api.Prog, i api.Ins, name string) string {
	if name == "int" {
		return "i"
	}
	n := int(numberAt(i, name[1]))
	letters := map[byte]string{'x': "iiiiiiii", 'p': p.Locals, 'g': p.Globs}[name[0]]
	if n >= len(letters) {
		return ""
	}
	if !strings.HasSuffix(name, ".") {
		return letters[n : n+1]
	}
	t, _ := strconv.Atoi(letters[n : n+1])
	for k, letter := range strings.Split(p.Types[t], "") {
		if int64(k) == i.N {
			return letter
		}
	}
	return ""
}

// errorByChapter says what P5.2 does of one instruction, with nothing of the package, nor of those below it.
func errorByChapter(p api.Prog, i api.Ins) api.Errno {
	if i.Op < 1 || i.Op > 15 {
		return api.ErrForm
	}
	own := " " + strings.Join(namesOf(i.Op), " ") + " "
	for letter, has := range map[string]bool{"A ": i.A != 0, "B ": i.B != 0, "C ": i.C != 0, "N ": i.N != 0} {
		if has && !strings.Contains(own, letter) {
			return api.ErrForm
		}
	}
	if (i.Op == api.Jump || i.Op == api.Zero) && (i.N < 0 || i.N > int64(len(p.Code))) {
		return api.ErrJump
	}
	for _, name := range namesOf(i.Op) {
		if name != "N" && kindOf(p, i, name) == "" {
			return api.ErrKind
		}
	}
	if pair := strings.Fields(pairs[i.Op]); len(pair) == 2 && kindOf(p, i, pair[0]) != kindOf(p, i, pair[1]) {
		return api.ErrKind
	}
	return api.OK
}

// kindsByChapter is what P5.2 says ahead of the instructions.
func kindsByChapter(p api.Prog) bool {
	many := len(p.Types)
	if many < 1 || many > 8 {
		return false
	}
	last := strconv.Itoa(many - 1)
	for _, letters := range p.Types {
		if !regexp.MustCompile("^[i0-" + last + "]{1,6}$").MatchString(letters) {
			return false
		}
	}
	return regexp.MustCompile("^[0-"+last+"]{0,8}$").MatchString(p.Locals) && regexp.MustCompile("^[0-"+last+"]{0,4}$").MatchString(p.Globs)
}

func checkByChapter(p api.Prog) (int, api.Errno) {
	if !kindsByChapter(p) {
		return -1, api.ErrKind
	}
	if len(p.Code) == 0 || len(p.Code) > 200 {
		return -1, api.ErrBig
	}
	for at, i := range p.Code {
		if e := errorByChapter(p, i); e != api.OK {
			return at, e
		}
	}
	return -1, api.OK
}
