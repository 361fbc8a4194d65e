package tests

import (
	"encoding/hex"
	"fmt"
	"math"
	"math/big"
	"reflect"
	"regexp"
	"slices"
	"strconv"
	"strings"
	"testing"
	"unsafe"

	"loop.example/s02979/impl"
)

// wideNames are the operations that are listed with S.
const wideNames = "loadk jump closure forprep forloop"

// wantList writes the lines of any chunk, also of one that is not well formed.
func wantList(c impl.Chunk) string {
	var out strings.Builder
	for _, p := range c.Protos {
		fmt.Fprintf(&out, "proto %d %d %d%s\n", p.Params, p.Regs, p.Kids, map[bool]string{true: " vararg"}[p.Vararg])
		for _, v := range p.Consts {
			switch v.Kind {
			case impl.KNil:
				out.WriteString("const nil\n")
			case impl.KBool:
				fmt.Fprintf(&out, "const %v\n", v.Num != 0)
			case impl.KInt:
				fmt.Fprintf(&out, "const int %d\n", v.Num)
			case impl.KText:
				fmt.Fprintf(&out, "const text %s\n", hex.EncodeToString([]byte(v.Text)))
			default:
				out.WriteString("const\n")
			}
		}
		for _, u := range p.Ups {
			fmt.Fprintf(&out, "up %s %d\n", map[bool]string{true: "stack", false: "cell"}[u.Stack], u.Index)
		}
		for _, w := range p.Code {
			out.WriteString(wantWord(w))
		}
	}
	return out.String()
}

func wantWord(w uint32) string {
	if w%64 > 33 {
		return fmt.Sprintf("word %d\n", w)
	}
	name := strings.Fields(allNames)[w%64]
	if slices.Contains(strings.Fields(wideNames), name) {
		return fmt.Sprintf("%s %d %d\n", name, w>>6%256, int(w>>14)-131072)
	}
	return fmt.Sprintf("%s %d %d %d\n", name, w>>6%256, w>>14%512, w>>23)
}

// wantForms are the forms of lines; each @ is a decimal.
var wantForms = func() []*regexp.Regexp {
	isWide := func(name string) bool { return slices.Contains(strings.Fields(wideNames), name) }
	others := strings.Join(slices.DeleteFunc(strings.Fields(allNames), isWide), "|")
	wides := strings.Join(strings.Fields(wideNames), "|")
	var out []*regexp.Regexp
	for _, form := range []string{
		"(proto) @ @ @( vararg)?",
		"(const) (nil|true|false)",
		"(const) (int) @",
		"(const) (text) ((?:[0-9a-f][0-9a-f])*)",
		"(up) (stack|cell) @",
		"(word) @",
		"(" + wides + ") @ @",
		"(" + others + ") @ @ @",
	} {
		out = append(out, regexp.MustCompile(`\A`+strings.ReplaceAll(form, "@", "(0|-?[1-9][0-9]*)")+`\z`))
	}
	return out
}()

// wantLine is what a line says: the words of its form, and none if it has none.
func wantLine(line string) []string {
	for _, form := range wantForms {
		if words := form.FindStringSubmatch(line); words != nil {
			return words[1:]
		}
	}
	return nil
}

// wantBetween reads decimals of any size and says whether each is from its least
// to its greatest number.
func wantBetween(words []string, ends ...int64) ([]int64, bool) {
	var out []int64
	for k, word := range words {
		n, ok := new(big.Int).SetString(word, 10)
		if !ok || n.Cmp(big.NewInt(ends[2*k])) < 0 || n.Cmp(big.NewInt(ends[2*k+1])) > 0 {
			return nil, false
		}
		out = append(out, n.Int64())
	}
	return out, true
}

// wantAssembler puts a chunk together by the document's words. Its part is how
// far a prototype has come: 0 for none yet, 1 for const, 2 for up, 3 for code.
type wantAssembler struct {
	made impl.Chunk
	part int
}

func (w *wantAssembler) line(line string) bool {
	words := wantLine(line)
	if words == nil || words[0] != "proto" && w.part == 0 {
		return false
	}
	switch words[0] {
	case "proto":
		n, ok := wantBetween(words[1:4], 0, impl.MaxNumber, 0, impl.MaxNumber, 0, impl.MaxNumber)
		if ok {
			w.made.Protos = append(w.made.Protos, impl.Proto{Params: int(n[0]), Regs: int(n[1]), Kids: int(n[2]), Vararg: words[4] != ""})
			w.part = 1
		}
		return ok
	case "const":
		return w.constant(words[1:])
	case "up":
		n, ok := wantBetween(words[2:], 0, impl.MaxNumber)
		if !ok || w.part > 2 {
			return false
		}
		w.part = 2
		p := w.last()
		p.Ups = append(p.Ups, impl.Up{Stack: words[1] == "stack", Index: int(n[0])})
		return true
	}
	w.part = 3
	return w.word(words[0], words[1:])
}

func (w *wantAssembler) last() *impl.Proto {
	return &w.made.Protos[len(w.made.Protos)-1]
}

func (w *wantAssembler) constant(words []string) bool {
	var v impl.Value
	switch words[0] {
	case "true":
		v = impl.Value{Kind: impl.KBool, Num: 1}
	case "false":
		v = impl.Value{Kind: impl.KBool}
	case "int":
		n, ok := wantBetween(words[1:], math.MinInt64, math.MaxInt64)
		if !ok {
			return false
		}
		v = impl.Value{Kind: impl.KInt, Num: n[0]}
	case "text":
		s, _ := hex.DecodeString(words[1])
		v = impl.Value{Kind: impl.KText, Text: string(s)}
	}
	p := w.last()
	p.Consts = append(p.Consts, v)
	return w.part == 1
}

func (w *wantAssembler) word(name string, words []string) bool {
	p := w.last()
	ends := []int64{0, 255, 0, 511, 0, 511}
	if name == "word" {
		ends = []int64{0, 4294967295}
	} else if len(words) == 2 {
		ends = []int64{0, 255, -131072, 131071}
	}
	n, ok := wantBetween(words, ends...)
	if !ok {
		return false
	}
	op := slices.Index(strings.Fields(allNames), name)
	switch len(words) {
	case 1:
		p.Code = append(p.Code, uint32(n[0]))
		return n[0]%64 > 33
	case 2:
		p.Code = append(p.Code, wide(op, int(n[0]), int(n[1])))
	case 3:
		p.Code = append(p.Code, parts(op, int(n[0]), int(n[1]), int(n[2])))
	}
	return true
}

func wantAssemble(text string) (impl.Chunk, int) {
	if len(text) > 60000 {
		return impl.Chunk{}, 1
	}
	var w wantAssembler
	for number := 0; text != ""; number++ {
		line := text
		if at := strings.IndexByte(text, '\n'); at >= 0 {
			line, text = text[:at], text[at+1:]
		} else {
			text = ""
		}
		if !w.line(line) {
			return impl.Chunk{}, 2 + number
		}
	}
	if !impl.WellFormed(w.made) {
		return impl.Chunk{}, -1
	}
	return w.made, 0
}

// checkAssemble holds Assemble of a text against the document's words, and what
// it makes against the second half of promise 8.
func checkAssemble(t *testing.T, text string) (impl.Chunk, int) {
	t.Helper()
	got, code := impl.Assemble(text)
	want, wantCode := wantAssemble(text)
	if code != wantCode || !sameChunk(got, want) {
		t.Fatalf("Assemble(%.300q) = %.300v, %d; want %.300v, %d", text, got, code, want, wantCode)
	}
	if code != 0 && !reflect.DeepEqual(got, impl.Chunk{}) {
		t.Fatalf("Assemble(%.300q) gives %v beside code %d", text, got, code)
	}
	if code == 0 {
		if listed := impl.List(got); listed != strings.TrimSuffix(text, "\n")+"\n" {
			t.Fatalf("Assemble(%.300q) is listed as %.300q", text, listed)
		}
	}
	return got, code
}

// checkText asks for a code, and that the oracle says the same.
func checkText(t *testing.T, what string, text string, want int) {
	t.Helper()
	if _, code := checkAssemble(t, text); code != want {
		t.Errorf("%s: code %d; want %d: %.300q", what, code, want, text)
	}
}

// checkListed is the first half of promise 8: a well-formed chunk comes back
// from its listing, but for debug texts; another has no listing.
func checkListed(t *testing.T, c impl.Chunk, wellFormed bool) {
	t.Helper()
	text, want := impl.List(c), wantList(c)
	if !wellFormed {
		if text != "" {
			t.Fatalf("List of %.300v gives %.300q", c, text)
		}
		checkAssemble(t, want)
		return
	}
	if text != want {
		t.Fatalf("List gives\n%.300q\nwant\n%.300q", text, want)
	}
	if len(text) > impl.MaxListing {
		checkText(t, "a listing that is too long", text, 1)
		return
	}
	for _, s := range []string{text, text[:len(text)-1]} {
		if got, code := checkAssemble(t, s); code != 0 || !sameChunk(got, withoutDebug(c)) {
			t.Fatalf("Assemble of List gives %.300v, %d; want %.300v", got, code, c)
		}
	}
}

// everyLine is a listing with every kind of line.
const everyLine = `proto 2 9 2 vararg
const nil
const true
const false
const int -9223372036854775808
const int 0
const text 
const text 007fff0a20
loadk 8 6
move 1 0 0
jump 0 -131072
jump 255 131071
word 4294967295
word 34
closure 2 0
call 2 511 511
return 0 511 0
proto 0 1 0
up stack 16777215
up cell 0
forprep 0 -1
error 255 511 511
proto 0 250 0
return 0 0 0
`

// everyChunk is the chunk of that listing.
func everyChunk() impl.Chunk {
	consts := plainValues(nil, true, false, math.MinInt64, 0, "", "\x00\x7f\xff\n ")
	code := []uint32{
		wide(impl.OpLoadK, 8, 6), parts(impl.OpMove, 1, 0, 0), wide(impl.OpJump, 0, -131072), wide(impl.OpJump, 255, 131071),
		math.MaxUint32, 34, wide(impl.OpClosure, 2, 0), parts(impl.OpCall, 2, 511, 511), parts(impl.OpReturn, 0, 511, 0),
	}
	ups := []impl.Up{{Stack: true, Index: impl.MaxNumber}, {}}
	return impl.Chunk{Protos: []impl.Proto{
		{Params: 2, Regs: 9, Kids: 2, Vararg: true, Consts: consts, Code: code},
		{Regs: 1, Ups: ups, Code: []uint32{wide(impl.OpForPrep, 0, -1), parts(impl.OpError, 255, 511, 511)}},
		{Regs: 250, Code: []uint32{leave()}},
	}}
}

func TestListByHand(t *testing.T) {
	c := everyChunk()
	if got := impl.List(c); got != everyLine {
		t.Errorf("List gives\n%s\nwant\n%s", got, everyLine)
	}
	for _, text := range []string{everyLine, everyLine[:len(everyLine)-1]} {
		if got, code := impl.Assemble(text); code != 0 || !sameChunk(got, c) {
			t.Errorf("Assemble gives\n%v, %d\nwant\n%v", got, code, c)
		}
	}
	c.Protos[1].Name, c.Protos[1].Lines, c.Protos[1].UpNames = "name", []int{1, 2}, []string{"u", ""}
	if got := impl.List(c); got != everyLine {
		t.Errorf("with debug texts List gives\n%s", got)
	}
	checkListed(t, c, true)
}

// TestListOfEachOperation has a line by hand for every operation, with parts at
// both ends and in their midst.
func TestListOfEachOperation(t *testing.T) {
	for op, name := range strings.Fields(allNames) {
		word := func(a, b, c int) uint32 { return uint32(op + a<<6 + b<<14 + c<<23) }
		want := []string{name + " 0 0 0", name + " 255 511 511", name + " 7 511 0", name + " 0 0 511", name + " 200 1 256"}
		switch name {
		case "loadk", "jump", "closure", "forprep", "forloop":
			want = []string{name + " 0 -131072", name + " 255 131071", name + " 7 -130561", name + " 0 130560", name + " 200 1"}
		}
		c := treeOf(0)
		c.Protos[0].Code = []uint32{word(0, 0, 0), word(255, 511, 511), word(7, 511, 0), word(0, 0, 511), word(200, 1, 256)}
		if got := impl.List(c); got != "proto 0 1 0\n"+strings.Join(want, "\n")+"\n" {
			t.Errorf("List gives\n%swant\n%s", got, strings.Join(want, "\n"))
		}
		checkListed(t, c, true)
	}
}

func TestListOfWordsThatAreNoOperation(t *testing.T) {
	for op := range 64 {
		c := treeOf(0)
		c.Protos[0].Code = nil
		for _, rest := range []uint32{0, 64, 1 << 14, 1 << 23, 1 << 31, math.MaxUint32 &^ 63} {
			c.Protos[0].Code = append(c.Protos[0].Code, rest+uint32(op))
		}
		checkListed(t, c, true)
		text := impl.List(c)
		if got := strings.Count(text, "word "); got != map[bool]int{true: 6}[op > 33] {
			t.Errorf("Op %d is listed as\n%s", op, text)
		}
		if want := fmt.Sprintf("\nword %d\n", op); op > 33 && !strings.Contains(text, want) {
			t.Errorf("Op %d is listed as\n%s", op, text)
		}
	}
}

func TestListOfConstants(t *testing.T) {
	list := func(values ...any) string {
		c := treeOf(0)
		c.Protos[0].Consts = plainValues(values...)
		checkListed(t, c, true)
		return strings.TrimSuffix(strings.TrimPrefix(impl.List(c), "proto 0 1 0\n"), "move 0 0 0\n")
	}
	for _, x := range []struct {
		value any
		want  string
	}{
		{nil, "const nil\n"}, {true, "const true\n"}, {false, "const false\n"},
		{0, "const int 0\n"}, {1, "const int 1\n"}, {-1, "const int -1\n"}, {10, "const int 10\n"},
		{math.MaxInt64, "const int 9223372036854775807\n"}, {math.MinInt64, "const int -9223372036854775808\n"},
		{"", "const text \n"}, {"\x00", "const text 00\n"}, {"az09", "const text 617a3039\n"}, {"\n\"\xab\xcd\xef", "const text 0a22abcdef\n"},
	} {
		if got := list(x.value); got != x.want {
			t.Errorf("%v is listed as %q", x.value, got)
		}
	}
	for b := range 256 {
		if got, want := list(string([]byte{byte(b)})), fmt.Sprintf("const text %02x\n", b); got != want {
			t.Errorf("the byte %d is listed as %q", b, got)
		}
	}
	for ints := range slices.Chunk(someInts(), impl.MaxConsts) {
		var values []any
		for _, n := range ints {
			values = append(values, int(n))
		}
		list(values...)
	}
	list("", "", strings.Repeat("\xff", impl.MaxText), "")
}

func TestListOfChunksWithDebugTexts(t *testing.T) {
	for _, c := range someChunks() {
		checkListed(t, c, true)
		if got, want := impl.List(c), impl.List(impl.Strip(c)); got != want {
			t.Errorf("List gives\n%s\nand stripped\n%s", got, want)
		}
	}
}

func TestListOfWhatIsNotWellFormed(t *testing.T) {
	for _, c := range []impl.Chunk{{}, {Protos: []impl.Proto{}}, {Protos: []impl.Proto{{}}}, treeOf(1), treeOf(0, 0), treeOf(-1)} {
		checkListed(t, c, false)
	}
	for i := range fullTree().Protos {
		for _, change := range []func(p *impl.Proto){
			func(p *impl.Proto) { p.Kids++ },
			func(p *impl.Proto) { p.Code = nil },
			func(p *impl.Proto) { p.Regs = 0 },
			func(p *impl.Proto) { p.Lines = p.Lines[:1] },
			func(p *impl.Proto) { p.UpNames = p.UpNames[:1] },
			func(p *impl.Proto) { p.Name = strings.Repeat("x", impl.MaxText+1) },
			func(p *impl.Proto) { p.Consts[1].Num = 2 },
			func(p *impl.Proto) { p.Consts[0].Kind = impl.KTable },
			func(p *impl.Proto) { p.Ups[1].Index = impl.MaxNumber + 1 },
		} {
			wrong := fullTree()
			change(&wrong.Protos[i])
			checkListed(t, wrong, false)
		}
	}
}

// head is the first line of the least prototype, and done its last.
const (
	head = "proto 0 1 0\n"
	done = "return 0 0 0\n"
)

func TestEmptyLinesAndTheLastNewline(t *testing.T) {
	checkText(t, "no lines", "", -1)
	checkText(t, "an empty line alone", "\n", 2)
	checkText(t, "two empty lines", "\n\n", 2)
	checkText(t, "an empty line first", "\n"+head+done, 2)
	checkText(t, "an empty line within", head+"\n"+done, 3)
	checkText(t, "with the last newline", head+done, 0)
	checkText(t, "without the last newline", strings.TrimSuffix(head+done, "\n"), 0)
	checkText(t, "an empty line at the end", head+done+"\n", 4)
	checkText(t, "two empty lines at the end", head+done+"\n\n", 4)
	checkText(t, "an empty line before the second prototype", "proto 0 1 1\n"+done+"\n"+head+done, 4)
	checkText(t, "a space at the end", head+done+" ", 4)
	checkText(t, "a newline of another kind", head+"return 0 0 0\r\n", 3)
	checkText(t, "carriage returns alone", strings.ReplaceAll(head+done, "\n", "\r"), 2)
	checkText(t, "a zero byte at the end", head+done+"\x00", 4)
	checkText(t, "a mark at the beginning", "\xef\xbb\xbf"+head+done, 2)
	checkText(t, "an empty text at the end", head+"const text ", -1)
	checkText(t, "an empty text without its space at the end", head+"const text", 3)
}

// TestSizesOfTexts goes by the text's size alone, before any line is looked at.
func TestSizesOfTexts(t *testing.T) {
	for _, fill := range []string{"x", "\n", " ", "\x00", "\xff"} {
		checkText(t, "wrong and of MaxListing bytes", strings.Repeat(fill, impl.MaxListing), 2)
		checkText(t, "wrong and of one more", strings.Repeat(fill, impl.MaxListing+1), 1)
		checkText(t, "wrong and very long", strings.Repeat(fill, 20*impl.MaxListing), 1)
	}
	full := head
	for len(full) <= impl.MaxListing-2200 {
		full += "const text " + strings.Repeat("ab", impl.MaxText) + "\n"
	}
	for len(full)+len(done) < impl.MaxListing-29 {
		full += "const nil\n"
	}
	full += "const int " + strings.Repeat("9", impl.MaxListing-len(full)-len(done)-11) + "\n" + done
	if len(full) != impl.MaxListing {
		t.Fatalf("%d bytes", len(full))
	}
	c, code := checkAssemble(t, full)
	if code != 0 {
		t.Fatalf("MaxListing bytes: code %d", code)
	}
	checkListed(t, c, true)
	checkText(t, "without its newline", full[:len(full)-1], 0)
	checkText(t, "an empty line more", full+"\n", 1)
	// The newline that is missing is not counted.
	more := strings.Replace(full, done, "return 10 0 0", 1)
	checkText(t, "MaxListing bytes and no newline", more, 0)
	checkText(t, "the newline is one too many", more+"\n", 1)
	long, _ := impl.Assemble(more)
	checkListed(t, long, true)
	checkText(t, "wrong in the last line", full[:len(full)-2]+"x\n", 2+strings.Count(full, "\n")-1)
}

// lineCase is a line behind the least prototype's first, and whether it has a form.
type lineCase struct {
	line string
	ok   bool
}

// checkLines puts each line behind a line proto and behind a constant, and a
// line proto at the beginning. A right line need not make a chunk there, but it is not told of.
func checkLines(t *testing.T, cases []lineCase) {
	t.Helper()
	for _, x := range cases {
		check := func(before string, number int, after string) {
			t.Helper()
			_, code := checkAssemble(t, before+x.line+after)
			if x.ok && code > 0 || !x.ok && code != 2+number {
				t.Errorf("%q as line %d: code %d", x.line, number, code)
			}
		}
		check(head, 1, "\n")
		check(head, 1, "")
		if strings.HasPrefix(x.line, "proto") {
			check("", 0, "\n"+done)
			continue
		}
		check(head+"const nil\n", 2, "\n"+done)
	}
}

func TestLinesThatAreWrittenInAnotherWay(t *testing.T) {
	var cases []lineCase
	add := func(ok bool, lines ...string) {
		for _, line := range lines {
			cases = append(cases, lineCase{line, ok})
		}
	}
	add(true, "proto 0 1 0", "proto 0 1 0 vararg", "const nil", "const true", "const false", "const int 5", "const text 61", "const text ", "up stack 0", "up cell 7", "word 63", "move 1 2 3", "jump 1 2")
	add(false, "proto", "proto ", "proto 0", "proto 0 1", "proto 0 1 ", "proto 0 1 0 ", "proto 0 1 0 0", "proto 0 1 0 var", "proto 0 1 0 vararg ", "proto 0 1 0 varargs", "proto 0 1 0  vararg", "proto 0 1 0 Vararg", "proto 0 1 vararg", "proto vararg 0 1 0", "proto vararg", "proto 0 1 0 vararg vararg", "proto 0 1 0 vararg 0", "protos 0 1 0", "Proto 0 1 0", " proto 0 1 0", "proto  0 1 0", "proto 0\t1 0", "proto\t0 1 0", "proto 0 1 0\t", "proto 0 1 0\r", "proto 0,1,0", "proto 0 1 0;", "proto 0 1 0 #")
	add(false, "const", "const ", "const yes", "const Nil", "const nil ", "const  nil", "const nil nil", "const true 1", "const 0", "const false0", "consts nil", "const int", "const int ", "const int  5", "const int 5 ", "const int 5 6", "const int 5 0", "const integer 5", "const text", "const text  ", "const text  61", "const text 61 ", "const text 61 62", "const text 6", "const text 616", "const text 6A", "const text AB", "const text 0x61", "const text 6g", "const text g6", "const text -1", "const text \"a\"", "const text \x00\x00", "const table", "const ?", "const nil int 5", "const bool 1", "const text 6\xff")
	add(false, "up", "up ", "up stack", "up stack ", "up cell", "up 1", "up stack 1 ", "up  stack 1", "up stack  1", "up stack 1 1", "up heap 1", "up Stack 1", "up stack cell 1", "ups stack 1", "up 1 stack", "up true 1", "upstack 1")
	add(false, "word", "word ", "word  63", "word 63 ", "word 63 0", "words 63", "word 0x3f", "word 077", "word -1", "word 6_3", "word 63.0", "word 6e1")
	add(false, "move", "move ", "move 0", "move 0 0", "move 0 0 0 ", "move 0 0 0 0", "move 0  0 0", " move 0 0 0", "Move 0 0 0", "moves 0 0 0", "mov 0 0 0", "halt 0 0 0", "0 0 0 0", "move,0,0,0", "jump", "jump 0", "jump 0 ", "jump 0 0 ", "jump 0 0 0", "jump  0 0", "JUMP 0 0", "vararg", "nop", "-1", "34 0 0 0", "? 0 0 0", "\x00", " ", "  ")
	checkLines(t, cases)
}

// A name that is not an operation's, though it looks like one.
func TestNamesThatAreNoOperations(t *testing.T) {
	for _, name := range []string{"", "loadkk", "loadK", "get", "table", "getupvalue", "for", "forprep0", "return\x00", "retürn", "int", "text", "nil", "stack", "cell", "verify", "values", "word1", "opmove", "OpMove"} {
		for _, parts := range []string{"", " 0", " 0 0", " 0 0 0", " 34"} {
			checkText(t, "no name", head+name+parts+"\n"+done, 3)
		}
	}
}

// TestSignsAndZeros writes every number of every form in other ways.
func TestSignsAndZeros(t *testing.T) {
	forms := []string{"proto # 9 0", "proto 0 # 0", "proto 0 9 #", "proto # 9 0 vararg", "const int #", "up stack #", "up cell #", "move # 0 0", "move 0 # 0", "move 0 0 #", "jump # 0", "jump 0 #", "error # 511 511", "forloop 255 #"}
	for _, form := range forms {
		var cases []lineCase
		for _, n := range []string{"0", "1", "9", "10", "100"} {
			cases = append(cases, lineCase{strings.Replace(form, "#", n, 1), true})
		}
		minus := strings.HasPrefix(form, "const") || strings.Contains(form, "jump 0") || strings.Contains(form, "forloop")
		for _, n := range []string{"-1", "-10"} {
			cases = append(cases, lineCase{strings.Replace(form, "#", n, 1), minus})
		}
		for _, n := range []string{"", "-", "+", "-0", "+0", "+1", "00", "01", "000", "010", "-01", "-00", "--1", "+-1", "0x1", "0b1", "0o1", "1_0", "1.0", "1e1", "1 ", " 1", "1-", "1a", "a", "true", "１", "²", "\x001", "1\x00", "1\t", "1\r", "1,", "00000000000000000000001", "99999999999999999999", "18446744073709551616", "18446744073709551617", "-18446744073709551615", strings.Repeat("9", 5000)} {
			cases = append(cases, lineCase{strings.Replace(form, "#", n, 1), false})
		}
		checkLines(t, cases)
	}
}

func TestNumbersAtTheirEnds(t *testing.T) {
	for _, x := range []struct {
		form        string
		least, most int64
	}{
		{"proto # 9 0", 0, impl.MaxNumber}, {"proto 0 # 0", 0, impl.MaxNumber}, {"proto 0 9 #", 0, impl.MaxNumber},
		{"proto # 9 0 vararg", 0, impl.MaxNumber}, {"proto 0 # 0 vararg", 0, impl.MaxNumber}, {"proto 0 9 # vararg", 0, impl.MaxNumber},
		{"up stack #", 0, impl.MaxNumber}, {"up cell #", 0, impl.MaxNumber},
		{"const int #", math.MinInt64, math.MaxInt64},
	} {
		checkEnds(t, x.form, x.least, x.most)
	}
	for _, name := range strings.Fields(allNames) {
		if slices.Contains(strings.Fields(wideNames), name) {
			checkEnds(t, name+" # 0", 0, 255)
			checkEnds(t, name+" 0 #", -131072, 131071)
			continue
		}
		checkEnds(t, name+" # 0 0", 0, 255)
		checkEnds(t, name+" 0 # 0", 0, 511)
		checkEnds(t, name+" 0 0 #", 0, 511)
	}
}

// checkEnds tries a number at both its ends and one beyond each.
func checkEnds(t *testing.T, form string, least int64, most int64) {
	t.Helper()
	var cases []lineCase
	for end, step := range map[int64]int64{least: -1, most: 1} {
		in, out := big.NewInt(end), new(big.Int).Add(big.NewInt(end), big.NewInt(step))
		cases = append(cases, lineCase{strings.Replace(form, "#", in.String(), 1), true}, lineCase{strings.Replace(form, "#", out.String(), 1), false})
		// What would fit again if the number were cut to 8, 9, 16, 32 or 64 bits.
		for _, bits := range []uint{8, 9, 16, 18, 32, 64} {
			far := new(big.Int).Add(in, new(big.Int).Mul(big.NewInt(step), new(big.Int).Lsh(big.NewInt(1), bits)))
			ok := far.IsInt64() && far.Int64() >= least && far.Int64() <= most
			cases = append(cases, lineCase{strings.Replace(form, "#", far.String(), 1), ok})
		}
	}
	checkLines(t, cases)
}

func TestNumbersOfWords(t *testing.T) {
	var cases []lineCase
	for _, high := range []int64{0, 64, 1 << 14, 1 << 23, 1 << 31, math.MaxUint32 - 63} {
		for op := range int64(64) {
			cases = append(cases, lineCase{"word " + strconv.FormatInt(high+op, 10), op > 33})
		}
	}
	for _, n := range []string{"0", "33", "97", "4294967296", "4294967330", "4294967329", "8589934591", "18446744073709551615", "18446744073709551650", "-1", "-30", "-34", "034"} {
		cases = append(cases, lineCase{"word " + n, false})
	}
	for _, n := range []string{"34", "63", "98", "4294967295", "4294967266"} {
		cases = append(cases, lineCase{"word " + n, true})
	}
	checkLines(t, cases)
	checkText(t, "the greatest word", head+"word 4294967295", 0)
	checkText(t, "Op 34", head+"word 34", 0)
	checkText(t, "Op 33", head+"word 33", 3)
}

// TestFormsOfOperations writes each operation with one, two, three and four numbers.
func TestFormsOfOperations(t *testing.T) {
	for _, name := range strings.Fields(allNames) {
		want := 3
		switch name {
		case "loadk", "jump", "closure", "forprep", "forloop":
			want = 2
		}
		for n := range 6 {
			code := 3
			if n == want {
				code = 0
			}
			checkText(t, "some numbers", head+name+strings.Repeat(" 1", n)+"\n"+done, code)
		}
		code := 3
		if want == 2 {
			code = 0
		}
		checkText(t, "an S", head+name+" 1 -1\n"+done, code)
		checkText(t, "an S and one more", head+name+" 1 -1 0\n"+done, 3)
		checkText(t, "S beyond B", head+name+" 1 512\n"+done, code)
	}
}

func TestLinesInTheWrongPlace(t *testing.T) {
	check := func(what string, want int, lines ...string) {
		t.Helper()
		checkText(t, what, strings.Join(lines, "\n")+"\n", want)
		checkText(t, what+", without the last newline", strings.Join(lines, "\n"), want)
	}
	code := []string{"return 0 0 0", "jump 0 0", "word 34"}
	first := append([]string{"const nil", "const int 1", "const text 61", "up stack 0", "up cell 0"}, code...)
	for _, line := range first {
		check("before the first proto", 2, line, "proto 0 1 0", "return 0 0 0")
		check("alone", 2, line)
	}
	const proto = "proto 0 1 0"
	check("in their order", 0, proto, "const nil", "const true", "up stack 0", "up cell 0", "return 0 0 0", "word 34", "jump 0 0")
	check("up without const", 0, proto, "up cell 0", "return 0 0 0")
	check("const behind up", 4, proto, "up stack 0", "const nil", "return 0 0 0")
	check("const behind up behind const", 5, proto, "const nil", "up cell 0", "const int 1", "return 0 0 0")
	for _, word := range code {
		check("const behind a word", 4, proto, word, "const nil")
		check("const behind two words", 5, proto, word, word, "const text ", word)
		check("up behind a word", 4, proto, word, "up stack 0")
		check("up behind up and a word", 5, proto, "up cell 0", word, "up cell 0", word)
		check("const behind const and a word", 5, proto, "const nil", word, "const nil", word)
		check("const behind up and a word", 5, proto, "up cell 0", word, "const nil", word)
		// A second prototype begins anew, also where the first has ended.
		check("const in the second", 0, "proto 0 1 1", "up stack 0", word, proto, "const nil", "up stack 0", word)
		check("up in the second", 0, "proto 0 1 1", word, proto, "up stack 0", word)
		check("const behind the second's up", 7, "proto 0 1 1", "const nil", word, proto, "up stack 0", "const nil", word)
		check("up behind the second's word", 6, "proto 0 1 1", word, proto, word, "up stack 0")
	}
}

// Behind a line proto another may stand, though no well-formed chunk has that.
func TestProtosWithoutCode(t *testing.T) {
	checkText(t, "one", head, -1)
	checkText(t, "one without its newline", head[:len(head)-1], -1)
	checkText(t, "two", "proto 0 1 1\n"+head, -1)
	checkText(t, "the first without code", "proto 0 1 1\n"+head+done, -1)
	checkText(t, "the second without code", "proto 0 1 1\n"+done+head, -1)
	checkText(t, "with const alone", head+"const nil\n", -1)
	checkText(t, "with up alone", head+"up stack 1\n", -1)
	checkText(t, "const of the second, behind the first's up", "proto 0 1 1\nup stack 0\n"+head+"const nil\n"+done, -1)
}

func TestLinesThatMakeNoChunk(t *testing.T) {
	many := func(n int, line string) string { return strings.Repeat(line+"\n", n) }
	check := func(what string, text string, ok bool) {
		t.Helper()
		want := -1
		if ok {
			want = 0
		}
		checkText(t, what, text, want)
	}
	check("a child that is missing", "proto 0 1 1\n"+done, false)
	check("a prototype too many", head+done+head+done, false)
	check("the greatest Kids", "proto 0 1 16777215\n"+done, false)
	check("no registers", "proto 0 0 0\n"+done, false)
	check("MaxRegs", "proto 0 250 0\n"+done, true)
	check("one more", "proto 0 251 0\n"+done, false)
	check("the greatest Regs", "proto 0 16777215 0\n"+done, false)
	check("Params Regs", "proto 9 9 0\n"+done, true)
	check("Params above Regs", "proto 10 9 0\n"+done, false)
	check("the greatest Params", "proto 16777215 9 0\n"+done, false)
	check("MaxCode words", head+many(impl.MaxCode, "add 0 0 0"), true)
	check("a word too many", head+many(impl.MaxCode+1, "add 0 0 0"), false)
	check("MaxConsts Consts", head+many(impl.MaxConsts, "const nil")+done, true)
	check("a Const too many", head+many(impl.MaxConsts+1, "const nil")+done, false)
	check("MaxUps Ups", head+many(impl.MaxUps, "up cell 16777215")+done, true)
	check("an Up too many", head+many(impl.MaxUps+1, "up cell 0")+done, false)
	check("MaxText bytes", head+"const text "+strings.Repeat("0f", impl.MaxText)+"\n"+done, true)
	check("a byte too many", head+"const text "+strings.Repeat("0f", impl.MaxText+1)+"\n"+done, false)
	check("a text as long as can be", head+"const text "+strings.Repeat("0f", 29900)+"\n"+done, false)
	check("MaxProtos", "proto 0 1 199\n"+done+many(199, head+"jump 0 0"), true)
	check("a prototype more", "proto 0 1 200\n"+done+many(200, head+"jump 0 0"), false)
	check("MaxDeep", many(impl.MaxDeep-1, "proto 0 1 1\njump 0 0")+head+done, true)
	check("one deeper", many(impl.MaxDeep, "proto 0 1 1\njump 0 0")+head+done, false)
	check("as many protos as can be", strings.Repeat(head, 5000), false)
}

// TestFirstWrongLineDecides has wrong lines of every kind at two places.
func TestFirstWrongLineDecides(t *testing.T) {
	lines := strings.Split(strings.TrimSuffix(everyLine, "\n"), "\n")
	wrong := []string{"", "x", "const nil ", "up stack -1", "proto 0 1", "word 33", "jump 0 0 0", "move 0 0", "const text 1"}
	for i := range lines {
		for k, line := range wrong {
			text := slices.Clone(lines)
			text[i] = line
			checkText(t, "one wrong line", strings.Join(text, "\n")+"\n", 2+i)
			for j := i + 1; j < len(lines); j++ {
				text[j] = wrong[(j+k)%len(wrong)]
			}
			checkText(t, "all lines from it on", strings.Join(text, "\n")+"\n", 2+i)
			// A line that is put between others comes before the lines behind it.
			checkText(t, "a line more", strings.Join(slices.Insert(slices.Clone(lines), i, line), "\n"), 2+i)
		}
	}
	// A wrong line counts for more than a chunk that is not well formed before it.
	checkText(t, "behind too many registers", "proto 0 999 0\n"+done+"x", 4)
	checkText(t, "behind a prototype too many", head+done+head+done+"x", 6)
	checkText(t, "behind a text that is too long", head+"const text "+strings.Repeat("00", 1001)+"\nconst text 0\n"+done, 4)
	checkText(t, "behind a proto without code", head+head+"const nil \n", 4)
	many := strings.Repeat(head, 4990)
	checkText(t, "behind very many prototypes", many+"x", 2+4990)
	checkText(t, "the last of very many lines", head+strings.Repeat("const nil\n", 5900)+"const nil ", 2+5901)
}

// TestEveryChangeOfALine puts in, takes out and changes each byte of a listing.
func TestEveryChangeOfALine(t *testing.T) {
	bytes := "0159af -+\n\t\r\x00\xffAgnx"
	codes := map[int]int{}
	for i := range everyLine {
		before, after := everyLine[:i], everyLine[i+1:]
		_, code := checkAssemble(t, before+after)
		codes[code]++
		_, code = checkAssemble(t, before)
		codes[code]++
		for _, b := range []byte(bytes) {
			_, code = checkAssemble(t, before+string([]byte{b})+after)
			codes[code]++
			_, code = checkAssemble(t, before+string([]byte{b})+everyLine[i:])
			codes[code]++
		}
	}
	for code := -1; code < 2+strings.Count(everyLine, "\n"); code++ {
		if codes[code] == 0 && code != 1 {
			t.Errorf("no change gives code %d", code)
		}
	}
}

// listedChunk is a chunk of one of several kinds, with words and constants of all sorts.
func listedChunk(next func(n int) int) impl.Chunk {
	var c impl.Chunk
	switch next(3) {
	case 0:
		c = madeChunk(next)
	case 1:
		c = someFamily(next)
	default:
		c = withoutDebug(fullTree())
	}
	for number := range c.Protos {
		p := &c.Protos[number]
		if next(2) == 0 {
			p.Consts = otherValues(next(9), next(7))
		}
		for range next(4) {
			p.Code[next(len(p.Code))] = uint32(next(1<<16))<<16 | uint32(next(1<<16))
		}
		if next(3) == 0 {
			p.Ups = append(p.Ups, impl.Up{Stack: next(2) == 0, Index: next(impl.MaxNumber + 1)})
		}
	}
	return c
}

// Promise 8, its first half.
func TestAssembleGivesBackWhatWasListed(t *testing.T) {
	next := numbers(80)
	short := 0
	for range 3000 {
		c := listedChunk(next)
		checkListed(t, c, true)
		if len(impl.List(c)) <= impl.MaxListing {
			short++
		}
	}
	if short < 2000 {
		t.Errorf("only %d listings are short enough", short)
	}
}

// Promise 8, its second half, of listings in which lines are changed, left out,
// doubled and put elsewhere.
func TestSpoiledListings(t *testing.T) {
	next := numbers(81)
	pieces := []string{" ", "  ", "0", "00", "-", "+", "1", "511", "512", "255", "256", "\n", "\n\n", "vararg", " vararg", "const nil\n", "up stack 1\n", "word 34\n", "return 0 0 0\n", "proto 0 1 0\n", "a", "A", "\x00", "\xff"}
	var right, none, wrong int
	for range 20000 {
		text := impl.List(listedChunk(next))
		lines := strings.SplitAfter(strings.TrimSuffix(text, "\n"), "\n")
		for range 1 + next(2) {
			i, j := next(len(lines)), next(len(lines))
			switch next(7) {
			case 0:
				lines[i], lines[j] = lines[j], lines[i]
			case 1:
				lines = slices.Insert(lines, i, lines[j])
			case 2:
				if len(lines) > 1 {
					lines = slices.Delete(lines, i, i+1)
				}
			case 3:
				at := next(len(lines[i]) + 1)
				lines[i] = lines[i][:at] + pieces[next(len(pieces))] + lines[i][at:]
			case 4:
				if n := len(lines[i]); n > 0 {
					at := next(n)
					lines[i] = lines[i][:at] + lines[i][at+1:]
				}
			case 5:
				words := strings.Split(lines[i], " ")
				words[next(len(words))] = pieces[next(len(pieces))]
				lines[i] = strings.Join(words, " ")
			case 6:
				lines[0] = fmt.Sprintf("proto %d %d %d\n", next(20), next(20), next(4))
			}
		}
		_, code := checkAssemble(t, strings.Join(lines, ""))
		switch {
		case code == 0:
			right++
		case code == -1:
			none++
		default:
			wrong++
		}
	}
	if right < 500 || none < 500 || wrong < 500 {
		t.Errorf("%d are right, %d make no chunk, %d have a wrong line", right, none, wrong)
	}
}

func TestListChangesNothing(t *testing.T) {
	c := fullTree()
	text := impl.List(c)
	if !reflect.DeepEqual(c, fullTree()) {
		t.Errorf("List's argument is now %v", c)
	}
	kept := strings.Clone(text)
	scribble(c)
	if text != kept {
		t.Errorf("writing into List's argument changes its answer: %q", text)
	}
}

func TestAssembledListsStandAlone(t *testing.T) {
	text := wantList(fullTree())
	checkStandsAlone(t, func() (impl.Chunk, int) { return impl.Assemble(text) }, withoutDebug(fullTree()))
}

// A text that lies in memory which its caller writes into again.
func TestTextThatIsWrittenOver(t *testing.T) {
	room := []byte(everyLine)
	c, code := impl.Assemble(unsafe.String(&room[0], len(room)))
	for k := range room {
		room[k] = 'x'
	}
	if code != 0 || !sameChunk(c, everyChunk()) {
		t.Errorf("after writing over the text, Assemble's answer is %v, %d", c, code)
	}
}
