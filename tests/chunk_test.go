package tests

import (
	"encoding/binary"
	"math"
	"reflect"
	"strings"
	"testing"
	"unsafe"

	"loop.example/s02979/impl"
)

const chunkHead = "\x1bLRV\x01\x00"

// leastProto is the text of leaf(0).
const leastProto = "\x00\x00\x01\x01\x00\x00\x00\x00\x00\x00\x00\x00"

// wantDump writes a well-formed chunk by the document's words, in another way than the program does.
func wantDump(c impl.Chunk) string {
	out := chunkHead
	text := func(s string) string { return wantVarint(len(s)) + s }
	for _, p := range c.Protos {
		out += map[bool]string{false: "\x00", true: "\x01"}[p.Vararg]
		out += wantVarint(p.Params) + wantVarint(p.Regs) + wantVarint(len(p.Code))
		for _, w := range p.Code {
			out += string(binary.LittleEndian.AppendUint32(nil, w))
		}
		out += wantVarint(len(p.Consts))
		for _, v := range p.Consts {
			switch v.Kind {
			case impl.KNil:
				out += "\x00"
			case impl.KBool:
				out += string([]byte{1 + byte(v.Num)})
			case impl.KInt:
				out += "\x03" + string(binary.LittleEndian.AppendUint64(nil, uint64(v.Num)))
			case impl.KText:
				out += "\x04" + text(v.Text)
			}
		}
		out += wantVarint(len(p.Ups))
		for _, u := range p.Ups {
			out += map[bool]string{false: "\x00", true: "\x01"}[u.Stack] + wantVarint(u.Index)
		}
		out += wantVarint(p.Kids)
		if len(p.Name)+len(p.Lines)+len(p.UpNames) == 0 {
			out += "\x00"
			continue
		}
		out += "\x01" + text(p.Name) + wantVarint(len(p.Lines))
		for _, n := range p.Lines {
			out += wantVarint(n)
		}
		out += wantVarint(len(p.UpNames))
		for _, s := range p.UpNames {
			out += text(s)
		}
	}
	return out
}

// wantReader reads a chunk by the document's words; it leaves by a panic with
// the code, and counts what is still due at each depth instead of calling itself.
type wantReader struct {
	rest string
	due  []int
}

type wantCode int

func wantLoad(s string) (c impl.Chunk, code int) {
	defer func() {
		if left := recover(); left != nil {
			c, code = impl.Chunk{}, int(left.(wantCode))
		}
	}()
	if !strings.HasPrefix(s, chunkHead) {
		panic(wantCode(impl.LoadHeader))
	}
	w := &wantReader{rest: s[len(chunkHead):], due: []int{1}}
	for len(w.due) > 0 {
		last := len(w.due) - 1
		if w.due[last] == 0 {
			w.due = w.due[:last]
			continue
		}
		w.due[last]--
		p := w.proto(len(c.Protos))
		c.Protos = append(c.Protos, p)
		w.due = append(w.due, p.Kids)
	}
	if w.rest != "" {
		panic(wantCode(impl.LoadTail))
	}
	return c, impl.LoadOk
}

func (w *wantReader) bytes(n int) string {
	if len(w.rest) < n {
		panic(wantCode(impl.LoadShort))
	}
	s := w.rest[:n]
	w.rest = w.rest[n:]
	return s
}

func (w *wantReader) oneOf(n int) int {
	b := int(w.bytes(1)[0])
	if b >= n {
		panic(wantCode(impl.LoadBad))
	}
	return b
}

func (w *wantReader) number(fits func(n int) bool) int {
	n, next, ok := wantGet(w.rest, 0)
	if !ok {
		for k := range 4 {
			if k == len(w.rest) {
				panic(wantCode(impl.LoadShort))
			}
			if w.rest[k] < 128 {
				break
			}
		}
		panic(wantCode(impl.LoadBad))
	}
	w.rest = w.rest[next:]
	if !fits(n) {
		panic(wantCode(impl.LoadLimit))
	}
	return n
}

func from(least int, most int) func(int) bool {
	return func(n int) bool { return n >= least && n <= most }
}

func (w *wantReader) text() string {
	return w.bytes(w.number(from(0, impl.MaxText)))
}

func (w *wantReader) proto(before int) impl.Proto {
	p := impl.Proto{Vararg: w.oneOf(2) == 1}
	p.Params = w.number(from(0, impl.MaxRegs))
	p.Regs = w.number(func(n int) bool { return n >= 1 && n <= impl.MaxRegs && n >= p.Params })
	p.Code = make([]uint32, w.number(from(1, impl.MaxCode)))
	for k := range p.Code {
		p.Code[k] = binary.LittleEndian.Uint32([]byte(w.bytes(4)))
	}
	p.Consts = make([]impl.Value, w.number(from(0, impl.MaxConsts)))
	for k := range p.Consts {
		p.Consts[k] = w.value()
	}
	p.Ups = make([]impl.Up, w.number(from(0, impl.MaxUps)))
	for k := range p.Ups {
		p.Ups[k].Stack = w.oneOf(2) == 1
		p.Ups[k].Index = w.number(from(0, impl.MaxNumber))
	}
	p.Kids = w.number(func(n int) bool {
		all := before + 1 + n
		for _, k := range w.due {
			all += k
		}
		return all <= impl.MaxProtos && (n == 0 || len(w.due) <= impl.MaxDeep-1)
	})
	if w.oneOf(2) == 1 {
		w.debug(&p)
	}
	return p
}

func (w *wantReader) value() impl.Value {
	switch w.oneOf(5) {
	case 1:
		return impl.Value{Kind: impl.KBool}
	case 2:
		return impl.Value{Kind: impl.KBool, Num: 1}
	case 3:
		return impl.Value{Kind: impl.KInt, Num: int64(binary.LittleEndian.Uint64([]byte(w.bytes(8))))}
	case 4:
		return impl.Value{Kind: impl.KText, Text: w.text()}
	}
	return impl.Value{}
}

func (w *wantReader) debug(p *impl.Proto) {
	p.Name = w.text()
	p.Lines = make([]int, w.number(func(n int) bool { return n == 0 || n == len(p.Code) }))
	for k := range p.Lines {
		p.Lines[k] = w.number(from(0, impl.MaxNumber))
	}
	p.UpNames = make([]string, w.number(func(n int) bool { return n == 0 || n == len(p.Ups) }))
	for k := range p.UpNames {
		p.UpNames[k] = w.text()
	}
	if p.Name == "" && len(p.Lines) == 0 && len(p.UpNames) == 0 {
		panic(wantCode(impl.LoadBad))
	}
}

// checkLoad holds Load of a text against the reading by the document's words,
// and what it accepts against promise 3.
func checkLoad(t *testing.T, s string) {
	t.Helper()
	got, code := impl.Load(s)
	want, wantCode := wantLoad(s)
	if code != wantCode || !sameChunk(got, want) {
		t.Fatalf("Load(%.300q) = %v, %d; want %v, %d", s, got, code, want, wantCode)
	}
	if code != impl.LoadOk {
		return
	}
	if !impl.WellFormed(got) {
		t.Fatalf("Load(%.300q) gives what is not well formed", s)
	}
	if again, ok := impl.Dump(got); !ok || again != s {
		t.Fatalf("Load(%.300q) is written as %.300q, %v", s, again, ok)
	}
}

// checkCode asks for a code, and for the zero Chunk if it is another than LoadOk.
func checkCode(t *testing.T, what string, s string, want int) {
	t.Helper()
	c, code := impl.Load(s)
	if code != want || (code == impl.LoadOk) != (len(c.Protos) > 0) {
		t.Errorf("%s: code %d and %d prototypes; want code %d", what, code, len(c.Protos), want)
	}
}

// checkDumped is promise 2: a well-formed chunk has a text from which it comes back, another none.
func checkDumped(t *testing.T, c impl.Chunk, wellFormed bool) {
	t.Helper()
	s, ok := impl.Dump(c)
	if ok != wellFormed || !ok && s != "" {
		t.Fatalf("Dump of %.300v gives %.300q, %v", c, s, ok)
	}
	if !ok {
		return
	}
	if want := wantDump(c); s != want {
		t.Fatalf("Dump gives\n%.300q\nwant\n%.300q", s, want)
	}
	if back, code := impl.Load(s); code != impl.LoadOk || !sameChunk(back, c) {
		t.Fatalf("Load of Dump gives %.300v, %d; want %.300v", back, code, c)
	}
}

// someChunks are of one prototype and of several, with and without debug texts.
func someChunks() []impl.Chunk {
	named := treeOf(0)
	named.Protos[0].Name = "f"
	lined := treeOf(1, 0)
	lined.Protos[1].Lines = []int{0}
	upNamed := treeOf(1, 0)
	upNamed.Protos[1].Ups = []impl.Up{{Stack: true, Index: 3}}
	upNamed.Protos[1].UpNames = []string{""}
	return []impl.Chunk{
		treeOf(0), treeOf(2, 1, 0, 0), named, lined, upNamed,
		{Protos: []impl.Proto{full(0, 1)}}, fullTree(), withoutDebug(fullTree()),
	}
}

func TestDumpByHand(t *testing.T) {
	root := impl.Proto{
		Params: 200, Vararg: true, Regs: 250, Kids: 1,
		Code:   []uint32{0x04030201, 0xfffefdfc},
		Consts: []impl.Value{{Kind: impl.KText, Text: "x\x00"}, {Kind: impl.KInt, Num: -2}, {Kind: impl.KBool, Num: 1}, {Kind: impl.KBool}, {}},
		Lines:  []int{128, 16384},
	}
	kid := impl.Proto{Regs: 1, Code: []uint32{9}, Ups: []impl.Up{{Stack: true, Index: 0}, {Index: impl.MaxNumber}}, Name: "kid", UpNames: []string{"", "u"}}
	want := chunkHead +
		"\x01\xc8\x01\xfa\x01" +
		"\x02\x01\x02\x03\x04\xfc\xfd\xfe\xff" +
		"\x05\x04\x02x\x00\x03\xfe\xff\xff\xff\xff\xff\xff\xff\x02\x01\x00" +
		"\x00" + "\x01" +
		"\x01\x00\x02\x80\x01\x80\x80\x01\x00" +
		"\x00\x00\x01" + "\x01\x09\x00\x00\x00" + "\x00" +
		"\x02\x01\x00\x00\xff\xff\xff\x07" + "\x00" +
		"\x01\x03kid\x00\x02\x00\x01u"
	c := impl.Chunk{Protos: []impl.Proto{root, kid}}
	if s, ok := impl.Dump(c); !ok || s != want {
		t.Errorf("Dump gives\n%q, %v\nwant\n%q", s, ok, want)
	}
	if got, code := impl.Load(want); code != impl.LoadOk || !sameChunk(got, c) {
		t.Errorf("Load gives %v, %d", got, code)
	}
}

func TestLoadGivesBackWhatWasDumped(t *testing.T) {
	for _, c := range someChunks() {
		checkDumped(t, c, true)
		checkDumped(t, impl.Strip(c), true)
	}
}

func TestDumpOfWhatIsNotWellFormed(t *testing.T) {
	checkDumped(t, impl.Chunk{}, false)
	checkDumped(t, impl.Chunk{Protos: []impl.Proto{{}}}, false)
	for i := range fullTree().Protos {
		wrong := fullTree()
		wrong.Protos[i].Kids++
		checkDumped(t, wrong, false)
		wrong = fullTree()
		wrong.Protos[i].UpNames = wrong.Protos[i].UpNames[:1]
		checkDumped(t, wrong, false)
	}
}

func TestConstantsAreGivenBack(t *testing.T) {
	var ints []impl.Value
	for _, n := range someInts() {
		ints = append(ints, impl.Value{Kind: impl.KInt, Num: n})
	}
	var texts []impl.Value
	for _, size := range []int{0, 1, 127, 128, 129, 999, impl.MaxText} {
		texts = append(texts, impl.Value{Kind: impl.KText, Text: strings.Repeat("\xfe", size)})
	}
	for _, list := range [][]impl.Value{ints, texts, {{}, {Kind: impl.KBool}, {Kind: impl.KBool, Num: 1}, {}}} {
		for len(list) > 0 {
			n := min(len(list), impl.MaxConsts)
			c := treeOf(1, 0)
			c.Protos[1].Consts = list[:n]
			checkDumped(t, c, true)
			list = list[n:]
		}
	}
}

// TestGreatestChunk has every number of a prototype at its most.
func TestGreatestChunk(t *testing.T) {
	most := strings.Repeat("\x80", impl.MaxText)
	p := impl.Proto{Params: impl.MaxRegs, Vararg: true, Regs: impl.MaxRegs, Name: most}
	for range impl.MaxCode {
		p.Code = append(p.Code, math.MaxUint32)
		p.Lines = append(p.Lines, impl.MaxNumber)
	}
	for range impl.MaxConsts {
		p.Consts = append(p.Consts, impl.Value{Kind: impl.KText, Text: most})
	}
	for range impl.MaxUps {
		p.Ups = append(p.Ups, impl.Up{Stack: true, Index: impl.MaxNumber})
		p.UpNames = append(p.UpNames, most)
	}
	c := impl.Chunk{Protos: []impl.Proto{p}}
	checkDumped(t, c, true)
	s, _ := impl.Dump(c)
	checkCode(t, "without its last byte", s[:len(s)-1], impl.LoadShort)
	checkCode(t, "with a byte behind it", s+"\x00", impl.LoadTail)
}

func TestHeader(t *testing.T) {
	for n := range len(chunkHead) {
		checkCode(t, "a part of the header", chunkHead[:n], impl.LoadHeader)
		checkCode(t, "a part of the header, then something else", chunkHead[:n]+"\x02"+leastProto, impl.LoadHeader)
		for b := range 256 {
			if byte(b) != chunkHead[n] {
				s := chunkHead[:n] + string([]byte{byte(b)}) + chunkHead[n+1:]
				checkCode(t, "another header", s+leastProto, impl.LoadHeader)
				checkCode(t, "another header and nothing else", s, impl.LoadHeader)
			}
		}
	}
	checkCode(t, "no header", leastProto, impl.LoadHeader)
	checkCode(t, "a byte before the header", "\x00"+chunkHead+leastProto, impl.LoadHeader)
	checkCode(t, "the header alone", chunkHead, impl.LoadShort)
	checkCode(t, "the header twice", chunkHead+chunkHead, impl.LoadBad)
	checkCode(t, "the header and a prototype", chunkHead+leastProto, impl.LoadOk)
}

// TestCutOrLonger is promise 4.
func TestCutOrLonger(t *testing.T) {
	for _, c := range someChunks() {
		s, _ := impl.Dump(c)
		for n := range len(s) {
			want := impl.LoadShort
			if n < len(chunkHead) {
				want = impl.LoadHeader
			}
			checkCode(t, "cut", s[:n], want)
		}
		for b := range 256 {
			checkCode(t, "a byte more", s+string([]byte{byte(b)}), impl.LoadTail)
		}
		checkCode(t, "a prototype more", s+leastProto, impl.LoadTail)
		checkCode(t, "twice", s+s, impl.LoadTail)
	}
}

// TestTextsNearChunks changes, puts in and takes out each byte of some texts.
func TestTextsNearChunks(t *testing.T) {
	for _, c := range someChunks() {
		s, _ := impl.Dump(c)
		apart := 1
		if len(c.Protos) > 4 {
			apart = 17
		}
		for n := range len(s) + 1 {
			for b := 0; b < 256; b += apart {
				checkLoad(t, s[:n]+string([]byte{byte(b)})+s[n:])
				if n < len(s) {
					checkLoad(t, s[:n]+string([]byte{byte(b)})+s[n+1:])
				}
			}
			if n < len(s) {
				checkLoad(t, s[:n]+s[n+1:])
			}
		}
	}
}

// TestTextsOfManyKinds makes texts by a fixed rule, of bytes that often mean something.
func TestTextsOfManyKinds(t *testing.T) {
	next := numbers(7)
	often := []byte{0, 0, 0, 0, 1, 1, 1, 2, 3, 4, 5, 127, 128, 129, 250, 255}
	for range 200000 {
		text := []byte(chunkHead)
		for range next(40) {
			text = append(text, often[next(len(often))])
		}
		checkLoad(t, string(text))
	}
}

// piece is a part of a chunk's text: a number, a byte that is one of some
// values, or bytes that may be anything.
type piece struct {
	name string
	text string
	// beyond: the numbers that no well-formed chunk has at this place.
	beyond []int
	// isNumber, and values: how many values the byte may have.
	isNumber bool
	values   int
}

func numberPiece(name string, n int, beyond ...int) piece {
	return piece{name: name, text: wantVarint(n), isNumber: true, beyond: beyond}
}

func bytePiece(name string, b byte, values int) piece {
	return piece{name: name, text: string([]byte{b}), values: values}
}

func rawPiece(s string) piece {
	return piece{name: "bytes", text: s}
}

// somePieces is a chunk of two prototypes, in pieces.
func somePieces() []piece {
	most := impl.MaxNumber
	list := []piece{
		bytePiece("Vararg", 1, 2),
		numberPiece("Params", 130, impl.MaxRegs+1, most),
		numberPiece("Regs", 130, 0, 1, 129, impl.MaxRegs+1, most),
		numberPiece("Code", 2, 0, impl.MaxCode+1, most), rawPiece("\xff\xff\xff\xff\x00\x00\x00\x00"),
		numberPiece("Consts", 6, impl.MaxConsts+1, most),
		bytePiece("nil", 0, 5), bytePiece("false", 1, 5), bytePiece("true", 2, 5),
		bytePiece("integer", 3, 5), rawPiece("\xff\xff\xff\xff\xff\xff\xff\x7f"),
		bytePiece("text", 4, 5), numberPiece("its size", 2, impl.MaxText+1, most), rawPiece("\x80\x80"),
		bytePiece("empty text", 4, 5), numberPiece("its size", 0, impl.MaxText+1, most),
		numberPiece("Ups", 2, impl.MaxUps+1, most),
		bytePiece("Stack", 1, 2), numberPiece("Index", most),
		bytePiece("Stack", 0, 2), numberPiece("Index", 0),
		numberPiece("Kids", 1, impl.MaxProtos, most),
		bytePiece("debug texts", 1, 2),
		numberPiece("size of Name", 1, impl.MaxText+1, most), rawPiece("f"),
		numberPiece("Lines", 2, 1, 3, most), numberPiece("line", 0), numberPiece("line", most),
		numberPiece("UpNames", 2, 1, 3, most),
		numberPiece("size", 1, impl.MaxText+1, most), rawPiece("u"), numberPiece("size", 0, impl.MaxText+1, most),
	}
	return append(list,
		bytePiece("Vararg", 0, 2), numberPiece("Params", 0, impl.MaxRegs+1), numberPiece("Regs", 1, 0, impl.MaxRegs+1),
		numberPiece("Code", 1, 0, impl.MaxCode+1), rawPiece("\x01\x02\x03\x04"),
		numberPiece("Consts", 0, impl.MaxConsts+1), numberPiece("Ups", 0, impl.MaxUps+1),
		numberPiece("Kids", 0, impl.MaxProtos-1, most),
		bytePiece("debug texts", 1, 2), numberPiece("size of Name", 0, impl.MaxText+1),
		numberPiece("Lines", 1, 2, 3, most), numberPiece("line", 300),
		numberPiece("UpNames", 0, 1, 2, most),
	)
}

func join(list []piece) string {
	s := ""
	for _, p := range list {
		s += p.text
	}
	return s
}

// fault is a text at the place of a piece that makes the chunk one that is refused.
type fault struct {
	text string
	code int
}

// faults are wrong at once, whatever follows them.
func (p piece) faults() []fault {
	var out []fault
	if p.values > 0 {
		for _, b := range []int{p.values, p.values + 1, 127, 128, 255} {
			out = append(out, fault{string([]byte{byte(b)}), impl.LoadBad})
		}
	}
	if !p.isNumber {
		return out
	}
	for _, n := range p.beyond {
		out = append(out, fault{wantVarint(n), impl.LoadLimit})
	}
	for _, s := range []string{
		"\x80\x00", "\x81\x00", "\xff\x00", "\x80\x80\x00", "\x80\x81\x00", "\x80\x80\x80\x00", "\xff\xff\xff\x00",
		"\x80\x80\x80\x08", "\xff\xff\xff\x7f", "\x80\x80\x80\x80", "\xff\xff\xff\xff", "\x81\x80\x80\x80\x00",
	} {
		out = append(out, fault{s, impl.LoadBad})
	}
	return out
}

func TestPiecesMakeAChunk(t *testing.T) {
	s := chunkHead + join(somePieces())
	checkCode(t, "all pieces", s, impl.LoadOk)
	checkLoad(t, s)
}

// TestFirstFaultDecides puts a fault at the place of each piece, alone, with
// nothing behind it, and with another fault at each later place.
func TestFirstFaultDecides(t *testing.T) {
	list := somePieces()
	for i, p := range list {
		before := chunkHead + join(list[:i])
		for _, f := range p.faults() {
			for _, tail := range []string{"", "\x00", "\xff", "\x80\x80\x80\x80", join(list[i+1:]), join(list[i+1:]) + "more"} {
				checkCode(t, "a fault at "+p.name, before+f.text+tail, f.code)
			}
			for j := i + 1; j < len(list); j++ {
				for _, later := range list[j].faults() {
					s := before + f.text + join(list[i+1:j]) + later.text + join(list[j+1:])
					checkCode(t, "faults at "+p.name+" and "+list[j].name, s, f.code)
				}
			}
		}
	}
}

// TestVarintsThatAreCut ends the text in the midst of each number.
func TestVarintsThatAreCut(t *testing.T) {
	list := somePieces()
	for i, p := range list {
		before := chunkHead + join(list[:i])
		checkCode(t, "nothing at "+p.name, before, impl.LoadShort)
		if !p.isNumber {
			continue
		}
		for _, s := range []string{"\x80", "\xff", "\x80\x80", "\xff\xff", "\x80\x80\x80", "\xff\xff\xff"} {
			checkCode(t, "cut at "+p.name, before+s, impl.LoadShort)
		}
	}
}

func TestVarintsOfEverySize(t *testing.T) {
	for _, n := range []int{0, 1, 127, 128, 16383, 16384, 2097151, 2097152, impl.MaxNumber - 1, impl.MaxNumber} {
		c := treeOf(1, 0)
		c.Protos[1].Ups = []impl.Up{{Index: n}, {Stack: true, Index: n}}
		c.Protos[0].Lines = []int{n}
		checkDumped(t, c, true)
	}
}

func TestParamsAndRegs(t *testing.T) {
	edges := []int{0, 1, 2, 127, 128, impl.MaxRegs - 1, impl.MaxRegs, impl.MaxRegs + 1, impl.MaxNumber}
	for _, params := range edges {
		for _, regs := range edges {
			start := chunkHead + "\x00" + wantVarint(params) + wantVarint(regs)
			want := impl.LoadOk
			if regs < 1 || params > regs || regs > impl.MaxRegs {
				want = impl.LoadLimit
			}
			checkCode(t, "Params and Regs", start+leastProto[3:], want)
			if want == impl.LoadLimit {
				checkCode(t, "Params and Regs, then nothing", start, want)
			}
		}
	}
	// Params beyond MaxRegs is seen before Regs is read.
	checkCode(t, "Params alone", chunkHead+"\x00"+wantVarint(impl.MaxRegs+1), impl.LoadLimit)
	checkCode(t, "Params MaxRegs alone", chunkHead+"\x00"+wantVarint(impl.MaxRegs), impl.LoadShort)
}

// TestNumbersOfThings gives each number at its edges without the things: they
// are missed where the number may be, and not asked for where it may not.
func TestNumbersOfThings(t *testing.T) {
	check := func(what string, before string, least int, most int) {
		t.Helper()
		for _, n := range []int{0, 1, most - 1, most, most + 1, impl.MaxNumber} {
			s := chunkHead + before + wantVarint(n)
			want := impl.LoadShort
			if n < least || n > most {
				want = impl.LoadLimit
			}
			checkCode(t, what, s, want)
		}
	}
	check("Code", leastProto[:3], 1, impl.MaxCode)
	check("Consts", leastProto[:8], 0, impl.MaxConsts)
	check("size of a text", leastProto[:8]+"\x01\x04", 0, impl.MaxText)
	check("Ups", leastProto[:9], 0, impl.MaxUps)
	check("Kids", leastProto[:10], 0, impl.MaxProtos-1)
	check("Name", leastProto[:11]+"\x01", 0, impl.MaxText)
	check("Lines", leastProto[:11]+"\x01\x00", 0, 1)
	// A child is still to come here, so that none of the two is the end of a chunk.
	check("UpNames", leastProto[:9]+"\x01\x00\x00\x01\x01\x01f\x00", 0, 1)
	check("UpName", leastProto[:9]+"\x01\x00\x00\x01\x01\x00\x00\x01", 0, impl.MaxText)
}

func TestNumberOfLinesAndUpNames(t *testing.T) {
	for words := 1; words <= 4; words++ {
		for n := range 7 {
			s := chunkHead + "\x00\x00\x01" + wantVarint(words) + strings.Repeat("word", words) + "\x00\x00\x00\x01\x01f" + wantVarint(n) + strings.Repeat("\x09", n) + "\x00"
			want := impl.LoadLimit
			if n == 0 || n == words {
				want = impl.LoadOk
			}
			checkCode(t, "Lines", s, want)
		}
	}
	for ups := range 4 {
		for n := range 7 {
			s := chunkHead + leastProto[:9] + wantVarint(ups) + strings.Repeat("\x01\x05", ups) + "\x00\x01\x01f\x00" + wantVarint(n) + strings.Repeat("\x01u", n)
			want := impl.LoadLimit
			if n == 0 || n == ups {
				want = impl.LoadOk
			}
			checkCode(t, "UpNames", s, want)
		}
	}
}

func TestDebugTextsThatAreNone(t *testing.T) {
	withUp := leastProto[:9] + "\x01\x00\x00\x00"
	for _, before := range []string{leastProto[:11], withUp} {
		before = chunkHead + before
		checkCode(t, "all of them empty", before+"\x01\x00\x00\x00", impl.LoadBad)
		checkCode(t, "all of them empty, and a tail", before+"\x01\x00\x00\x00more", impl.LoadBad)
		checkCode(t, "not yet all of them", before+"\x01\x00\x00", impl.LoadShort)
		checkCode(t, "a Name", before+"\x01\x01f\x00\x00", impl.LoadOk)
		checkCode(t, "a line", before+"\x01\x00\x01\x00\x00", impl.LoadOk)
		checkCode(t, "too many UpNames of the empty ones", before+"\x01\x00\x00\x02", impl.LoadLimit)
	}
	checkCode(t, "an empty UpName", chunkHead+withUp+"\x01\x00\x00\x01\x00", impl.LoadOk)
	kid := chunkHead + leastProto[:10] + "\x01\x00"
	checkCode(t, "all of a child's empty", kid+leastProto[:11]+"\x01\x00\x00\x00", impl.LoadBad)
	// The children of one whose debug texts are wrong are not read.
	checkCode(t, "all of them empty before a wrong child", chunkHead+leastProto[:10]+"\x01\x01\x00\x00\x00\x00\xfb\x01", impl.LoadBad)
}

// kidsText is the text of least prototypes with these numbers of Kids; of the
// last one nothing stands behind Kids.
func kidsText(kids ...int) string {
	s := chunkHead
	for i, k := range kids {
		s += leastProto[:10] + wantVarint(k)
		if i < len(kids)-1 {
			s += leastProto[11:]
		}
	}
	return s
}

// TestKidsThatAreTooMany asks for the code as soon as the Kids are read.
func TestKidsThatAreTooMany(t *testing.T) {
	all := impl.MaxProtos
	check := func(what string, want int, kids ...int) {
		t.Helper()
		s := kidsText(kids...)
		checkCode(t, what, s, want)
		if want == impl.LoadLimit {
			checkCode(t, what+", a wrong byte behind them", s+"\x02", want)
			checkCode(t, what+", more behind them", s+leastProto[11:]+leastProto, want)
		}
	}
	check("MaxProtos - 1 Kids", impl.LoadShort, all-1)
	check("MaxProtos Kids", impl.LoadLimit, all)
	check("the greatest Kids", impl.LoadLimit, impl.MaxNumber)
	check("as many as are left at the first child", impl.LoadShort, 100, all-101)
	check("one more at the first child", impl.LoadLimit, 100, all-100)
	check("as many as are left at the second child", impl.LoadShort, 2, 0, all-3)
	check("one more at the second child", impl.LoadLimit, 2, 0, all-2)
	check("as many as are left below", impl.LoadShort, 3, 1, 50, 0, all-55)
	check("one more below", impl.LoadLimit, 3, 1, 50, 0, all-54)
	check("none left and none asked", impl.LoadShort, all-1, 0, 0, 0)
	check("none left and one asked", impl.LoadLimit, all-1, 0, 0, 1)
	last := make([]int, all)
	last[0] = all - 1
	check("none at the last of all", impl.LoadShort, last...)
	last[all-1] = 1
	check("one at the last of all", impl.LoadLimit, last...)
}

func TestKidsThatAreTooDeep(t *testing.T) {
	chainOf := func(n int) []int {
		kids := make([]int, n)
		for i := range kids {
			kids[i] = 1
		}
		return kids
	}
	deepest := chainOf(impl.MaxDeep)
	checkCode(t, "the deepest with a child", kidsText(deepest...), impl.LoadLimit)
	checkCode(t, "and more behind it", kidsText(deepest...)+"\x00"+leastProto, impl.LoadLimit)
	deepest[impl.MaxDeep-1] = 0
	checkCode(t, "the deepest without a child", kidsText(deepest...)+"\x00", impl.LoadOk)
	checkCode(t, "one above the deepest", kidsText(chainOf(impl.MaxDeep-1)...), impl.LoadShort)
	// Behind the deepest the next child of a prototype above it may have children.
	deepest[0] = 2
	behind := append(append([]int{}, deepest...), 1, 0)
	checkCode(t, "behind the deepest", kidsText(behind...)+"\x00", impl.LoadOk)
	twice := append(append([]int{}, deepest...), deepest[1:]...)
	checkCode(t, "two as deep", kidsText(twice...)+"\x00", impl.LoadOk)
	twice[len(twice)-1] = 1
	checkCode(t, "the second too deep", kidsText(twice...), impl.LoadLimit)
}

func TestTreesOfManyShapesAreLoaded(t *testing.T) {
	next := numbers(5)
	for range 300 {
		var kids []int
		for range 1 + next(70) {
			kids = append(kids, []int{0, 0, 1, 1, 1, 2, 3, 40}[next(8)])
		}
		checkLoad(t, kidsText(kids...)+"\x00")
	}
}

func TestChunksAreNotChanged(t *testing.T) {
	c := fullTree()
	s, _ := impl.Dump(c)
	if !reflect.DeepEqual(c, fullTree()) {
		t.Errorf("Dump's argument is now %v", c)
	}
	kept := strings.Clone(s)
	scribble(c)
	if s != kept {
		t.Errorf("writing into Dump's argument changes its answer: %q", s)
	}
}

// checkStandsAlone writes into answers, all of one and each prototype of others,
// and asks that nothing else changes by it.
func checkStandsAlone(t *testing.T, read func() (impl.Chunk, int), want impl.Chunk) {
	t.Helper()
	first, _ := read()
	scribble(first)
	second, code := read()
	if code != 0 || !sameChunk(second, want) {
		t.Fatalf("after writing into an answer, the next is %v, %d", second, code)
	}
	for i := range second.Protos {
		c, _ := read()
		scribble(impl.Chunk{Protos: c.Protos[i : i+1]})
		for k := range c.Protos {
			if k != i && !reflect.DeepEqual(c.Protos[k], second.Protos[k]) {
				t.Errorf("writing into prototype %d changes %d: %v", i, k, c.Protos[k])
			}
		}
	}
}

func TestLoadedListsStandAlone(t *testing.T) {
	s := wantDump(fullTree())
	checkStandsAlone(t, func() (impl.Chunk, int) { return impl.Load(s) }, fullTree())
}

// TestLoadedTextsAreNew looks whether a text of the answer is a piece of the argument.
func TestLoadedTextsAreNew(t *testing.T) {
	s := wantDump(fullTree())
	start := uintptr(unsafe.Pointer(unsafe.StringData(s)))
	check := func(text string) {
		at := uintptr(unsafe.Pointer(unsafe.StringData(text)))
		if text != "" && at >= start && at < start+uintptr(len(s)) {
			t.Errorf("the text %q is a piece of the argument", text)
		}
	}
	c, _ := impl.Load(s)
	for _, p := range c.Protos {
		check(p.Name)
		for _, v := range p.Consts {
			check(v.Text)
		}
		for _, name := range p.UpNames {
			check(name)
		}
	}
}
