package tests

import (
	"math"
	"reflect"
	"slices"
	"strconv"
	"strings"
	"testing"

	"loop.example/s02979/impl"
)

// parts is the word of an instruction by its A, B and C, wide by its A and S.
func parts(op, a, b, c int) uint32 {
	return impl.Pack(impl.Instr{Op: op, A: a, B: b, C: c, S: b + 512*c - 131072})
}

func wide(op, a, s int) uint32 {
	return impl.Pack(impl.Wide(op, a, s))
}

func jump(s int) uint32 {
	return wide(impl.OpJump, 0, s)
}

// leave returns nothing, stay changes nothing, fill opens at A, give returns what is open from A on.
func leave() uint32 {
	return parts(impl.OpReturn, 0, 0, 0)
}

func stay() uint32 {
	return parts(impl.OpMove, 0, 0, 0)
}

func fill(a int) uint32 {
	return parts(impl.OpVararg, a, impl.Open, 0)
}

func give(a int) uint32 {
	return parts(impl.OpReturn, a, impl.Open, 0)
}

// rowsOfTable is the document's table of what operations use: at a part what it
// is for, the last word for what is asked beside the parts.
const rowsOfTable = `
move not neg len create status | A=register B=register
loadk | A=register S=constant
loadnil | A=register B=more
loadbool | A=register B=bool
getup setup | A=register B=upvalue
newtable close error | A=register
gettable settable add sub mul div mod concat | A=register B=register C=register
jump | S=target
eq less | A=bool B=register C=register test
test | A=register C=bool test
call resume | A=register B=behind C=from
yield | A=register B=from C=from
return | A=register B=from
vararg | A=register B=from vararg
closure | A=register S=child
forprep | A=four S=target head
forloop | A=four S=target
`

// usesOf reads the table: for each operation what its parts are for.
func usesOf() []map[string]string {
	out := make([]map[string]string, len(strings.Fields(allNames)))
	for _, line := range strings.Split(strings.TrimSpace(rowsOfTable), "\n") {
		names, uses, _ := strings.Cut(line, "|")
		for _, name := range strings.Fields(names) {
			row := map[string]string{}
			for _, word := range strings.Fields(uses) {
				part, what, _ := strings.Cut(word, "=")
				row[part] = what
			}
			out[slices.Index(strings.Fields(allNames), name)] = row
		}
	}
	return out
}

// wanted is the verifier by the words of the document, as plainly as can be.
type wanted struct {
	uses []map[string]string
}

func (w wanted) has(i impl.Instr, what string) bool {
	if i.Op > 33 {
		return false
	}
	_, ok := w.uses[i.Op][what]
	return ok
}

// registers lists every register that the instruction uses, one by one.
func (w wanted) registers(i impl.Instr) []int {
	var out []int
	for part, n := range map[string]int{"A": i.A, "B": i.B, "C": i.C} {
		first, count := 0, 0
		switch w.uses[i.Op][part] {
		case "register":
			first, count = n, 1
		case "four":
			first, count = n, 4
		case "more":
			first, count = i.A, n+1
		case "behind":
			first, count = i.A+1, n
		case "from":
			first, count = i.A, n
		default:
			continue
		}
		if n == impl.Open && w.uses[i.Op][part] != "register" && w.uses[i.Op][part] != "more" {
			continue
		}
		for k := range count {
			out = append(out, first+k)
		}
	}
	return out
}

// follow is what can follow the instruction at pc, places outside the code too.
func (w wanted) follow(i impl.Instr, pc int) []int {
	switch i.Op {
	case impl.OpReturn, impl.OpError:
		return nil
	case impl.OpJump:
		return []int{pc + 1 + i.S}
	case impl.OpEq, impl.OpLess, impl.OpTest:
		return []int{pc + 1, pc + 2}
	case impl.OpForPrep, impl.OpForLoop:
		return []int{pc + 1, pc + 1 + i.S}
	}
	return []int{pc + 1}
}

func (w wanted) opens(i impl.Instr) bool {
	switch i.Op {
	case impl.OpCall, impl.OpResume, impl.OpYield:
		return i.C == impl.Open
	case impl.OpVararg:
		return i.B == impl.Open
	}
	return false
}

// takes is the register from which on it takes what is open, -1 if it does not.
func (w wanted) takes(i impl.Instr) int {
	if i.B != impl.Open {
		return -1
	}
	switch i.Op {
	case impl.OpCall, impl.OpResume:
		return i.A + 1
	case impl.OpYield, impl.OpReturn:
		return i.A
	}
	return -1
}

// tops goes over the whole code again and again until no place is come to in a new way.
func (w wanted) tops(code []uint32) []int {
	ways := make([]map[int]int, len(code))
	for pc := range ways {
		ways[pc] = map[int]int{}
	}
	ways[0][-1] = 1
	for changed := true; changed; {
		changed = false
		for pc, word := range code {
			i := impl.Unpack(word)
			how := -1
			if w.opens(i) {
				how = i.A
			}
			for _, to := range w.follow(i, pc) {
				if len(ways[pc]) == 0 || to < 0 || to >= len(code) || ways[to][how] == 1 {
					continue
				}
				ways[to][how] = 1
				changed = true
			}
		}
	}
	out := make([]int, len(code))
	for pc, at := range ways {
		out[pc] = topOfWays(at)
	}
	return out
}

func topOfWays(ways map[int]int) int {
	least, closed := math.MaxInt, ways[-1] == 1
	for how := range ways {
		if how >= 0 {
			least = min(least, how)
		}
	}
	switch {
	case len(ways) == 0:
		return -2
	case least == math.MaxInt:
		return -1
	case closed:
		return -3
	}
	return least
}

// fieldsFit, pairFits and fault look at one place in the first round.
func (w wanted) fieldsFit(p impl.Proto, i impl.Instr) bool {
	for part, n := range map[string]int{"A": i.A, "B": i.B, "C": i.C} {
		named := w.has(i, part) || part != "A" && w.has(i, "S")
		if !named && n != 0 || w.uses[i.Op][part] == "bool" && n != 0 && n != 1 {
			return false
		}
	}
	return p.Vararg || i.Op != impl.OpVararg
}

func (w wanted) pairFits(p impl.Proto, i impl.Instr, pc int) bool {
	at := func(k int) impl.Instr {
		if k < 0 || k >= len(p.Code) {
			return impl.Instr{Op: -1}
		}
		return impl.Unpack(p.Code[k])
	}
	if w.has(i, "test") {
		return at(pc+1).Op == impl.OpJump
	}
	if w.has(i, "head") {
		before := pc + i.S
		loop := at(before)
		return loop.Op == impl.OpForLoop && loop.A == i.A && before+1+loop.S == pc+1
	}
	return true
}

func (w wanted) fault(p impl.Proto, pc int) int {
	i := impl.Unpack(p.Code[pc])
	if i.Op > 33 {
		return impl.VOp
	}
	if !w.fieldsFit(p, i) {
		return impl.VField
	}
	for _, r := range w.registers(i) {
		if r >= p.Regs {
			return impl.VReg
		}
	}
	outside := func(n int, size int) bool { return n < 0 || n >= size }
	target := pc + 1 + i.S
	switch {
	case w.uses[i.Op]["S"] == "constant" && outside(i.S, len(p.Consts)):
		return impl.VConst
	case w.uses[i.Op]["B"] == "upvalue" && outside(i.B, len(p.Ups)):
		return impl.VUp
	case w.uses[i.Op]["S"] == "child" && outside(i.S, p.Kids):
		return impl.VKid
	case w.uses[i.Op]["S"] == "target" && outside(target, len(p.Code)):
		return impl.VJump
	case !w.pairFits(p, i, pc):
		return impl.VPair
	}
	for _, to := range w.follow(i, pc) {
		if to > pc && to <= pc+2 && outside(to, len(p.Code)) {
			return impl.VEnd
		}
	}
	return impl.VOk
}

// upsFit reads the tree child by child, as the document numbers children.
func (w wanted) upsFit(c impl.Chunk, number int) bool {
	p := c.Protos[number]
	if number == 0 && len(p.Ups) > 0 {
		return false
	}
	kid := number + 1
	for range p.Kids {
		for _, u := range c.Protos[kid].Ups {
			if u.Stack && u.Index >= p.Regs || !u.Stack && u.Index >= len(p.Ups) {
				return false
			}
		}
		kid = impl.End(c, kid)
	}
	return true
}

func (w wanted) verify(c impl.Chunk) impl.Report {
	if !impl.WellFormed(c) {
		return impl.Report{Code: impl.VForm}
	}
	for number, p := range c.Protos {
		for pc := range p.Code {
			if code := w.fault(p, pc); code != impl.VOk {
				return impl.Report{Code: code, Proto: number, Pc: pc}
			}
		}
		if !w.upsFit(c, number) {
			return impl.Report{Code: impl.VDesc, Proto: number, Pc: len(p.Code)}
		}
	}
	for number, p := range c.Protos {
		for pc, top := range w.tops(p.Code) {
			from := w.takes(impl.Unpack(p.Code[pc]))
			if top != -2 && (from >= 0 && top < from || from < 0 && top != -1) {
				return impl.Report{Code: impl.VTop, Proto: number, Pc: pc}
			}
		}
	}
	return impl.Report{}
}

// checkVerify holds Verify and Tops of a chunk against the words of the
// document, and gives what Verify said.
func checkVerify(t *testing.T, c impl.Chunk) impl.Report {
	t.Helper()
	w := wanted{uses: usesOfTable}
	want, got := w.verify(c), impl.Verify(c)
	if got != want {
		t.Fatalf("Verify gives %v; want %v:\n%v", got, want, shown(c))
	}
	for number, p := range c.Protos {
		if !impl.WellFormed(c) {
			break
		}
		if got, want := impl.Tops(c, number), w.tops(p.Code); !slices.Equal(got, want) {
			t.Fatalf("Tops(%d) gives %v; want %v:\n%v", number, got, want, shown(c))
		}
	}
	return got
}

var usesOfTable = usesOf()

// shown writes instructions so that a fault can be read.
func shown(c impl.Chunk) string {
	var out strings.Builder
	for _, p := range c.Protos {
		out.WriteString("proto\n")
		for _, word := range p.Code {
			i := impl.Unpack(word)
			out.WriteString(impl.OpName(i.Op))
			for _, n := range []int{i.Op, i.A, i.B, i.C, i.S} {
				out.WriteString(" ")
				out.WriteString(strconv.Itoa(n))
			}
			out.WriteString("\n")
		}
	}
	return out.String()
}

// family is a chunk of four prototypes: under the root, whose code only
// returns, one with this code, 6 registers, 3 constants, 2 upvalues and 2 children.
func family(words ...uint32) impl.Chunk {
	root := impl.Proto{Regs: 2, Kids: 1, Code: []uint32{leave()}}
	p := impl.Proto{
		Params: 1,
		Vararg: true,
		Regs:   6,
		Code:   words,
		Consts: make([]impl.Value, 3),
		Ups:    []impl.Up{{Stack: true, Index: 1}, {Stack: true, Index: 0}},
		Kids:   2,
	}
	kid := impl.Proto{Regs: 1, Code: []uint32{leave()}, Ups: []impl.Up{{Stack: true, Index: 5}, {Index: 1}}}
	return impl.Chunk{Protos: []impl.Proto{root, p, kid, kid}}
}

// checkCodeOf asks for the fault of a family's code, and that the oracle says the same.
func checkCodeOf(t *testing.T, what string, code int, pc int, words ...uint32) {
	t.Helper()
	want := impl.Report{Code: code, Proto: 1, Pc: pc}
	if code == impl.VOk {
		want = impl.Report{}
	}
	if got := checkVerify(t, family(words...)); got != want {
		t.Errorf("%s: %v; want %v", what, got, want)
	}
}

// checkWordOf asks for the fault of one instruction before a jump and a return,
// and that it is the same on the second place and behind code that is left out.
func checkWordOf(t *testing.T, what string, code int, word uint32) {
	t.Helper()
	checkCodeOf(t, what, code, 0, word, jump(0), leave())
	checkCodeOf(t, what+", second", code, 1, stay(), word, jump(0), leave())
	checkCodeOf(t, what+", not reachable", code, 1, leave(), word, jump(0), leave())
}

func TestEveryOperationIsAccepted(t *testing.T) {
	checkCodeOf(t, "a return", impl.VOk, 0, leave())
	for op, row := range usesOfTable {
		if row["S"] == "target" {
			continue
		}
		good := parts(op, 0, 0, 0)
		if _, ok := row["S"]; ok {
			good = wide(op, 0, 0)
		}
		checkWordOf(t, impl.OpName(op), impl.VOk, good)
	}
	checkCodeOf(t, "a loop", impl.VOk, 0, wide(impl.OpForPrep, 2, 1), wide(impl.OpForLoop, 2, -1), leave())
	checkCodeOf(t, "a loop with something in it", impl.VOk, 0, wide(impl.OpForPrep, 0, 2), stay(), wide(impl.OpForLoop, 0, -2), leave())
	checkCodeOf(t, "a jump to itself", impl.VOk, 0, jump(-1))
}

func TestOpsThatAreNone(t *testing.T) {
	for op := 34; op < 64; op++ {
		checkWordOf(t, "an unknown operation", impl.VOp, parts(op, 0, 0, 0))
		checkWordOf(t, "an unknown operation with parts", impl.VOp, parts(op, 255, 511, 511))
		checkCodeOf(t, "an unknown operation at the end", impl.VOp, 1, stay(), parts(op, 0, 0, 0))
	}
	checkWordOf(t, "error", impl.VOk, parts(33, 0, 0, 0))
}

func TestPartsThatAreNotNamed(t *testing.T) {
	for op, row := range usesOfTable {
		if _, ok := row["S"]; ok {
			continue
		}
		for k, part := range []string{"A", "B", "C"} {
			if _, ok := row[part]; ok {
				continue
			}
			for _, n := range []int{1, 2, 255} {
				var abc [3]int
				abc[k] = n
				checkWordOf(t, impl.OpName(op)+" with "+part, impl.VField, parts(op, abc[0], abc[1], abc[2]))
			}
		}
	}
	for _, a := range []int{1, 2, 255} {
		checkWordOf(t, "jump with A", impl.VField, wide(impl.OpJump, a, 0))
	}
	// The S of these is 0 although their parts are not; it is the parts that count.
	for _, op := range []int{impl.OpNewTable, impl.OpClose, impl.OpError} {
		checkWordOf(t, impl.OpName(op)+" with an S of 0", impl.VField, wide(op, 0, 0))
	}
}

func TestPartsOfTwoValues(t *testing.T) {
	for n := range 512 {
		want := impl.VField
		if n <= 1 {
			want = impl.VOk
		}
		checkWordOf(t, "loadbool", want, parts(impl.OpLoadBool, 0, n, 0))
		checkWordOf(t, "test", want, parts(impl.OpTest, 0, 0, n))
		if n < 256 {
			checkWordOf(t, "eq", want, parts(impl.OpEq, n, 0, 0))
			checkWordOf(t, "less", want, parts(impl.OpLess, n, 0, 0))
		}
	}
}

func TestVarargOfOneThatHasNone(t *testing.T) {
	for _, b := range []int{0, 1, 6, 7, impl.Open} {
		c := family(parts(impl.OpVararg, 0, b, 0), leave())
		c.Protos[1].Vararg = false
		if got := checkVerify(t, c); got != (impl.Report{Code: impl.VField, Proto: 1}) {
			t.Errorf("vararg of %d: %v", b, got)
		}
	}
	c := family(leave())
	c.Protos[1].Vararg = false
	if got := checkVerify(t, c); got != (impl.Report{}) {
		t.Errorf("no vararg: %v", got)
	}
}

// TestRegistersThatAreNamed: 5 is the last register of a family.
func TestRegistersThatAreNamed(t *testing.T) {
	for op, row := range usesOfTable {
		for k, part := range []string{"A", "B", "C"} {
			if row[part] != "register" {
				continue
			}
			name := impl.OpName(op) + ", register " + part
			for _, n := range []int{0, 5, 6, 7, 249, 250, 255, 256, 510, 511} {
				abc := [3]int{}
				abc[k] = n
				word := parts(op, abc[0], abc[1], abc[2])
				if _, ok := row["S"]; ok {
					word = wide(op, n, 0)
				}
				if k == 0 && n > 255 {
					continue
				}
				want := impl.VReg
				if n <= 5 {
					want = impl.VOk
				}
				checkWordOf(t, name, want, word)
			}
		}
	}
}

// With one register, a part of two values that is 1 must not be taken for a register.
func TestOneRegister(t *testing.T) {
	for op := range 34 {
		for a := range 3 {
			for b := range 3 {
				for n := range 3 {
					c := treeOf(0)
					c.Protos[0].Code = []uint32{parts(op, a, b, n), jump(0), leave()}
					checkVerify(t, c)
				}
			}
		}
	}
	c := treeOf(0)
	c.Protos[0].Code = []uint32{parts(impl.OpEq, 1, 0, 0), jump(0), parts(impl.OpLess, 1, 0, 0), jump(0),
		parts(impl.OpTest, 0, 0, 1), jump(0), parts(impl.OpLoadBool, 0, 1, 0), leave()}
	if got := checkVerify(t, c); got != (impl.Report{}) {
		t.Errorf("parts of two values: %v", got)
	}
}

// rangeEdge is an instruction that uses just all registers up to the last, and those that use one more.
type rangeEdge struct {
	op      int
	a, b, c int
	more    [][3]int
}

func TestRangesOfRegisters(t *testing.T) {
	for _, e := range []rangeEdge{
		{impl.OpLoadNil, 0, 5, 0, [][3]int{{0, 6, 0}, {1, 5, 0}}},
		{impl.OpLoadNil, 5, 0, 0, [][3]int{{5, 1, 0}, {6, 0, 0}, {5, 511, 0}, {0, 511, 0}}},
		{impl.OpCall, 0, 5, 0, [][3]int{{0, 6, 0}, {1, 5, 0}, {0, 510, 0}}},
		{impl.OpCall, 0, 0, 6, [][3]int{{0, 0, 7}, {1, 0, 6}, {0, 0, 510}}},
		{impl.OpCall, 5, 0, 0, [][3]int{{6, 0, 0}, {5, 1, 0}}},
		{impl.OpCall, 5, 0, 1, [][3]int{{5, 0, 2}}},
		{impl.OpCall, 4, 1, 2, [][3]int{{4, 2, 2}, {4, 1, 3}, {4, 2, 0}, {4, 0, 3}}},
		{impl.OpResume, 0, 5, 6, [][3]int{{0, 6, 6}, {0, 5, 7}, {1, 5, 5}, {1, 4, 6}}},
		{impl.OpResume, 5, 0, 0, [][3]int{{6, 0, 0}, {5, 1, 0}, {5, 0, 2}}},
		{impl.OpYield, 0, 6, 6, [][3]int{{0, 7, 6}, {0, 6, 7}, {0, 510, 0}, {0, 0, 510}}},
		{impl.OpYield, 5, 0, 0, [][3]int{{6, 0, 0}}},
		{impl.OpYield, 5, 1, 0, [][3]int{{5, 2, 0}, {6, 1, 0}}},
		{impl.OpYield, 5, 0, 1, [][3]int{{5, 0, 2}, {6, 0, 1}}},
		{impl.OpReturn, 0, 6, 0, [][3]int{{0, 7, 0}, {1, 6, 0}, {0, 510, 0}}},
		{impl.OpReturn, 5, 0, 0, [][3]int{{6, 0, 0}, {255, 0, 0}}},
		{impl.OpReturn, 5, 1, 0, [][3]int{{5, 2, 0}}},
		{impl.OpVararg, 0, 6, 0, [][3]int{{0, 7, 0}, {1, 6, 0}, {0, 510, 0}}},
		{impl.OpVararg, 5, 0, 0, [][3]int{{6, 0, 0}, {255, 0, 0}}},
		{impl.OpVararg, 5, 1, 0, [][3]int{{5, 2, 0}}},
	} {
		name := impl.OpName(e.op)
		checkWordOf(t, name+" up to the last register", impl.VOk, parts(e.op, e.a, e.b, e.c))
		for _, m := range e.more {
			checkWordOf(t, name+" beyond the last register", impl.VReg, parts(e.op, m[0], m[1], m[2]))
		}
	}
}

// Open asks for no register but A itself.
func TestRangesThatAreOpen(t *testing.T) {
	open := impl.Open
	for _, op := range []int{impl.OpCall, impl.OpResume} {
		checkCodeOf(t, "last to be taken", impl.VOk, 0, fill(5), parts(op, 4, open, 0), leave())
		checkCodeOf(t, "behind the last", impl.VTop, 1, fill(5), parts(op, 5, open, 0), leave())
		checkCodeOf(t, "no register", impl.VReg, 1, fill(5), parts(op, 6, open, 0), leave())
		checkCodeOf(t, "last to be opened", impl.VOk, 0, parts(op, 5, 0, open), give(5))
		checkCodeOf(t, "no register to be opened", impl.VReg, 0, parts(op, 6, 0, open), give(5))
		checkCodeOf(t, "open and too many", impl.VReg, 0, parts(op, 0, 6, open), give(0))
		checkCodeOf(t, "too many and open", impl.VReg, 1, fill(1), parts(op, 0, open, 7), leave())
	}
	checkCodeOf(t, "yield takes the last", impl.VOk, 0, fill(5), parts(impl.OpYield, 5, open, 0), leave())
	checkCodeOf(t, "yield takes beyond", impl.VReg, 1, fill(5), parts(impl.OpYield, 6, open, 0), leave())
	checkCodeOf(t, "yield opens the last", impl.VOk, 0, parts(impl.OpYield, 5, 0, open), give(5))
	checkCodeOf(t, "yield opens beyond", impl.VReg, 0, parts(impl.OpYield, 6, 0, open), give(5))
	checkCodeOf(t, "yield too many and open", impl.VReg, 0, parts(impl.OpYield, 0, 7, open), give(0))
	checkCodeOf(t, "return takes the last", impl.VOk, 0, fill(5), give(5))
	checkCodeOf(t, "return takes beyond", impl.VReg, 1, fill(5), give(6))
	checkCodeOf(t, "vararg opens beyond", impl.VReg, 0, fill(6), give(5))
}

func TestFourRegistersOfLoops(t *testing.T) {
	for a, want := range []int{impl.VOk, impl.VOk, impl.VOk, impl.VReg, impl.VReg} {
		checkCodeOf(t, "a loop's head", want, 0, wide(impl.OpForPrep, a, 1), wide(impl.OpForLoop, a, -1), leave())
		checkCodeOf(t, "a loop", want, 0, wide(impl.OpForLoop, a, -1), leave())
	}
	checkCodeOf(t, "a loop's last A", impl.VReg, 0, wide(impl.OpForLoop, 255, 0), leave())
}

func TestConstantsUpvaluesChildren(t *testing.T) {
	for n := -3; n <= 5; n++ {
		want := func(count int, fault int) int {
			if n >= 0 && n < count {
				return impl.VOk
			}
			return fault
		}
		checkWordOf(t, "loadk", want(3, impl.VConst), wide(impl.OpLoadK, 0, n))
		checkWordOf(t, "closure", want(2, impl.VKid), wide(impl.OpClosure, 0, n))
		if n >= 0 {
			checkWordOf(t, "getup", want(2, impl.VUp), parts(impl.OpGetUp, 0, n, 0))
			checkWordOf(t, "setup", want(2, impl.VUp), parts(impl.OpSetUp, 0, n, 0))
		}
	}
	for _, s := range []int{-131072, 511, 512, 131071} {
		checkWordOf(t, "loadk", impl.VConst, wide(impl.OpLoadK, 0, s))
		checkWordOf(t, "closure", impl.VKid, wide(impl.OpClosure, 0, s))
	}
	checkWordOf(t, "the last upvalue of all", impl.VUp, parts(impl.OpGetUp, 0, 511, 0))
}

// The greatest numbers of things that a prototype can have.
func TestGreatestNumbersOfThings(t *testing.T) {
	for _, over := range []int{0, 1} {
		for _, one := range []struct {
			word  uint32
			fault int
		}{
			{wide(impl.OpLoadK, 249, impl.MaxConsts-1+over), impl.VConst},
			{parts(impl.OpSetUp, 249, impl.MaxUps-1+over, 0), impl.VUp},
			{wide(impl.OpClosure, 249, impl.MaxProtos-3+over), impl.VKid},
			{parts(impl.OpLoadNil, 100, 149+over, 0), impl.VReg},
			{parts(impl.OpAdd, 249, 249+over, 249), impl.VReg},
			{wide(impl.OpForLoop, 246+over, -1), impl.VReg},
		} {
			c := impl.Chunk{Protos: []impl.Proto{
				{Regs: 1, Kids: 1, Code: []uint32{leave()}},
				{Regs: impl.MaxRegs, Kids: impl.MaxProtos - 2, Code: []uint32{one.word, leave()},
					Consts: make([]impl.Value, impl.MaxConsts), Ups: make([]impl.Up, impl.MaxUps)},
			}}
			for k := range c.Protos[1].Ups {
				c.Protos[1].Ups[k].Stack = true
			}
			for range impl.MaxProtos - 2 {
				c.Protos = append(c.Protos, impl.Proto{Regs: 1, Code: []uint32{leave()}})
			}
			want := impl.Report{}
			if over == 1 {
				want = impl.Report{Code: one.fault, Proto: 1}
			}
			if got := checkVerify(t, c); got != want {
				t.Errorf("%v: %v; want %v", impl.Unpack(one.word), got, want)
			}
		}
	}
}

func TestTargets(t *testing.T) {
	code := func(pc int, word uint32) []uint32 {
		words := []uint32{stay(), stay(), stay(), leave()}
		words[pc] = word
		return words
	}
	for pc := range 3 {
		for to := -3; to <= 7; to++ {
			want := impl.VOk
			if to < 0 || to > 3 {
				want = impl.VJump
			}
			checkCodeOf(t, "a jump", want, pc, code(pc, jump(to-pc-1))...)
			checkCodeOf(t, "a loop", want, pc, code(pc, wide(impl.OpForLoop, 0, to-pc-1))...)
			if want == impl.VOk {
				want = impl.VPair
			}
			checkCodeOf(t, "a loop's head", want, pc, code(pc, wide(impl.OpForPrep, 0, to-pc-1))...)
		}
		for _, s := range []int{-131072, 131071} {
			checkCodeOf(t, "a far jump", impl.VJump, pc, code(pc, jump(s))...)
		}
	}
	checkCodeOf(t, "a jump as the last", impl.VOk, 0, stay(), jump(-2))
	checkCodeOf(t, "a jump as the last, to itself", impl.VOk, 0, stay(), jump(-1))
	checkCodeOf(t, "a jump as the last, to the end", impl.VJump, 1, stay(), jump(0))
}

func TestTestsAndJumps(t *testing.T) {
	for _, word := range []uint32{parts(impl.OpEq, 1, 0, 0), parts(impl.OpLess, 0, 5, 5), parts(impl.OpTest, 0, 0, 1)} {
		checkCodeOf(t, "a test and a jump", impl.VOk, 0, word, jump(0), leave())
		checkCodeOf(t, "a test and a jump back", impl.VOk, 0, word, jump(-2), leave())
		checkCodeOf(t, "a test alone", impl.VPair, 0, word)
		checkCodeOf(t, "a test alone behind others", impl.VPair, 1, stay(), word)
		checkCodeOf(t, "a test with a jump before it", impl.VPair, 1, jump(0), word, leave(), leave())
		checkCodeOf(t, "a test and a jump at the end", impl.VEnd, 0, word, jump(-2))
		checkCodeOf(t, "a test and a return", impl.VPair, 0, word, leave(), leave())
		checkCodeOf(t, "two tests", impl.VPair, 0, word, word, jump(0), leave())
		checkCodeOf(t, "a test and a loop", impl.VPair, 0, word, wide(impl.OpForLoop, 0, -1), leave())
		checkCodeOf(t, "a test and a jump with a fault", impl.VField, 1, word, wide(impl.OpJump, 1, 0), leave())
		checkCodeOf(t, "a test and a jump out", impl.VJump, 1, word, jump(1), leave())
		checkCodeOf(t, "a test that is jumped into", impl.VOk, 0, jump(1), word, jump(0), leave())
	}
}

func TestLoopsAndHeads(t *testing.T) {
	head := func(a, s int) uint32 { return wide(impl.OpForPrep, a, s) }
	loop := func(a, s int) uint32 { return wide(impl.OpForLoop, a, s) }
	checkCodeOf(t, "a pair", impl.VOk, 0, head(1, 1), loop(1, -1), leave())
	checkCodeOf(t, "a pair within a pair", impl.VOk, 0, head(0, 3), head(2, 1), loop(2, -1), loop(0, -3), leave())
	checkCodeOf(t, "another A", impl.VPair, 0, head(1, 1), loop(2, -1), leave())
	checkCodeOf(t, "another A below", impl.VPair, 0, head(1, 1), loop(0, -1), leave())
	checkCodeOf(t, "another target before", impl.VPair, 0, head(1, 1), loop(1, -2), leave())
	checkCodeOf(t, "another target behind", impl.VPair, 0, head(1, 1), loop(1, 0), leave())
	checkCodeOf(t, "no loop", impl.VPair, 0, head(1, 1), stay(), leave())
	checkCodeOf(t, "a head instead of a loop", impl.VPair, 0, head(1, 1), head(1, -1), leave())
	checkCodeOf(t, "a head to the loop itself", impl.VPair, 0, head(1, 0), loop(1, -1), leave())
	checkCodeOf(t, "a head to itself", impl.VPair, 0, head(1, -1), loop(1, -1), leave())
	checkCodeOf(t, "a head one behind the loop", impl.VPair, 0, head(1, 2), loop(1, -1), leave(), leave())
	checkCodeOf(t, "a head to place 0", impl.VPair, 1, stay(), head(1, -2), loop(1, -1), leave())
	checkCodeOf(t, "a loop before its head", impl.VOk, 0, jump(1), loop(1, 1), head(1, -1), leave())
	checkCodeOf(t, "a loop alone", impl.VOk, 0, loop(1, -1), leave())
	checkCodeOf(t, "two heads of one loop", impl.VPair, 0, head(1, 2), head(1, 1), loop(1, -1), leave())
	checkCodeOf(t, "a loop with a fault in it", impl.VReg, 1, head(1, 2), parts(impl.OpMove, 6, 0, 0), loop(1, -2), leave())
	checkCodeOf(t, "a loop with a fault in itself", impl.VEnd, 1, stay(), loop(1, -2))
	checkCodeOf(t, "a head that leaves its loop for the end", impl.VJump, 0, head(1, 1), loop(1, -1))
}

func TestEndOfTheCode(t *testing.T) {
	for op, row := range usesOfTable {
		word := parts(op, 0, 0, 0)
		if _, ok := row["S"]; ok {
			word = wide(op, 0, 0)
		}
		want := impl.VEnd
		switch op {
		case impl.OpReturn, impl.OpError:
			want = impl.VOk
		case impl.OpJump, impl.OpForPrep, impl.OpForLoop:
			want = impl.VJump
		case impl.OpEq, impl.OpLess, impl.OpTest:
			want = impl.VPair
		}
		checkCodeOf(t, impl.OpName(op)+" as the only one", want, 0, word)
		checkCodeOf(t, impl.OpName(op)+" as the last", want, 2, stay(), stay(), word)
		checkCodeOf(t, impl.OpName(op)+" as the last, not reachable", want, 1, leave(), word)
	}
	checkCodeOf(t, "a loop as the last", impl.VEnd, 1, stay(), wide(impl.OpForLoop, 0, -2))
	checkCodeOf(t, "a loop as the last, to itself", impl.VEnd, 0, wide(impl.OpForLoop, 0, -1))
	checkCodeOf(t, "an opening one as the last", impl.VEnd, 0, fill(0))
}

func TestUpvaluesOfTheRoot(t *testing.T) {
	c := treeOf(0)
	c.Protos[0].Code = []uint32{stay(), leave()}
	if got := checkVerify(t, c); got != (impl.Report{}) {
		t.Errorf("none: %v", got)
	}
	for _, u := range []impl.Up{{}, {Stack: true}, {Index: impl.MaxNumber}} {
		c.Protos[0].Ups = []impl.Up{u}
		if got := checkVerify(t, c); got != (impl.Report{Code: impl.VDesc, Pc: 2}) {
			t.Errorf("%v: %v", u, got)
		}
	}
}

// A prototype's children have upvalues of its 6 registers and its 2 upvalues.
func TestUpvaluesOfChildren(t *testing.T) {
	for _, kid := range []int{2, 3} {
		for _, before := range []int{0, 1, 3} {
			for index := range 10 {
				for _, stack := range []bool{false, true} {
					c := family(stay(), stay(), leave())
					c.Protos[kid].Ups = append(make([]impl.Up, before), impl.Up{Stack: stack, Index: index})
					want := impl.Report{}
					if stack && index >= 6 || !stack && index >= 2 {
						want = impl.Report{Code: impl.VDesc, Proto: 1, Pc: 3}
					}
					if got := checkVerify(t, c); got != want {
						t.Errorf("child %d with %v, %d: %v; want %v", kid, stack, index, got, want)
					}
				}
			}
		}
	}
	c := family(leave())
	c.Protos[3].Ups = []impl.Up{{Stack: true, Index: impl.MaxNumber}}
	if got := checkVerify(t, c); got != (impl.Report{Code: impl.VDesc, Proto: 1, Pc: 1}) {
		t.Errorf("the greatest index: %v", got)
	}
}

// A grandchild is no child: what it is made of is asked of the one right above it.
func TestUpvaluesOfGrandchildren(t *testing.T) {
	root := impl.Proto{Regs: 9, Kids: 2, Code: []uint32{leave()}}
	kid := impl.Proto{Regs: 2, Kids: 1, Code: []uint32{stay(), leave()}, Ups: []impl.Up{{Stack: true, Index: 8}}}
	low := impl.Proto{Regs: 1, Code: []uint32{leave()}, Ups: []impl.Up{{Stack: true, Index: 1}, {Index: 0}}}
	c := impl.Chunk{Protos: []impl.Proto{root, kid, low, kid, low}}
	if got := checkVerify(t, c); got != (impl.Report{}) {
		t.Errorf("all are there: %v", got)
	}
	for _, number := range []int{2, 4} {
		for _, u := range []impl.Up{{Stack: true, Index: 2}, {Index: 1}} {
			wrong := copyChunk(c)
			wrong.Protos[number].Ups[1] = u
			if got := checkVerify(t, wrong); got != (impl.Report{Code: impl.VDesc, Proto: number - 1, Pc: 2}) {
				t.Errorf("prototype %d with %v: %v", number, u, got)
			}
		}
	}
	wrong := copyChunk(c)
	wrong.Protos[3].Ups[0].Index = 9
	if got := checkVerify(t, wrong); got != (impl.Report{Code: impl.VDesc, Proto: 0, Pc: 1}) {
		t.Errorf("the second child: %v", got)
	}
}

func TestWhatIsOpen(t *testing.T) {
	open := impl.Open
	call := func(a, b, c int) uint32 { return parts(impl.OpCall, a, b, c) }
	resume := func(a, b, c int) uint32 { return parts(impl.OpResume, a, b, c) }
	yield := func(a, b, c int) uint32 { return parts(impl.OpYield, a, b, c) }
	checkCodeOf(t, "nothing is open to return", impl.VTop, 0, give(0))
	checkCodeOf(t, "nothing is open to call", impl.VTop, 1, stay(), call(0, open, 0), leave())
	checkCodeOf(t, "nothing is open to resume", impl.VTop, 0, resume(0, open, 0), leave())
	checkCodeOf(t, "nothing is open to yield", impl.VTop, 0, yield(0, open, 0), leave())
	for from := range 6 {
		for a := range 5 {
			want := func(first int) int {
				if from < first {
					return impl.VTop
				}
				return impl.VOk
			}
			for _, opener := range []uint32{fill(from), call(from, 0, open), resume(from, 0, open), yield(from, 0, open)} {
				checkCodeOf(t, "return", want(a), 1, opener, give(a))
				checkCodeOf(t, "yield", want(a), 1, opener, yield(a, open, 0), leave())
				checkCodeOf(t, "call", want(a+1), 1, opener, call(a, open, 0), leave())
				checkCodeOf(t, "resume", want(a+1), 1, opener, resume(a, open, 0), leave())
			}
		}
	}
	checkCodeOf(t, "taken and opened again", impl.VOk, 0, fill(5), call(4, open, open), resume(3, open, open), yield(2, open, open), give(1))
	checkCodeOf(t, "opened twice", impl.VTop, 1, fill(1), fill(1), give(1))
	checkCodeOf(t, "taken twice", impl.VTop, 2, fill(1), call(0, open, 0), give(0))
	checkCodeOf(t, "called without taking", impl.VTop, 1, fill(1), call(0, 0, open), give(0))
	checkCodeOf(t, "returned without taking", impl.VTop, 1, fill(1), leave())
	checkCodeOf(t, "jumped over", impl.VTop, 1, fill(1), jump(0), give(1))
	checkCodeOf(t, "an error without taking", impl.VTop, 1, fill(1), parts(impl.OpError, 0, 0, 0))
}

func TestWhatIsOpenOnOneWayAlone(t *testing.T) {
	ask := parts(impl.OpTest, 0, 0, 0)
	checkCodeOf(t, "to be taken", impl.VTop, 3, ask, jump(1), fill(0), give(0))
	checkCodeOf(t, "not to be taken", impl.VTop, 3, ask, jump(1), fill(0), leave())
	checkCodeOf(t, "a loop back to where it is taken", impl.VTop, 2, stay(), fill(0), parts(impl.OpCall, 0, impl.Open, 0), jump(-2))
	checkCodeOf(t, "both are open", impl.VOk, 0, ask, jump(2), fill(3), give(1), fill(2), give(2))
	checkCodeOf(t, "not reachable and open", impl.VOk, 0, jump(1), fill(0), leave())
	checkCodeOf(t, "not reachable and not open", impl.VOk, 0, leave(), give(0))
	checkCodeOf(t, "not reachable, taken from too far", impl.VOk, 0, leave(), fill(0), give(5))
	checkCodeOf(t, "reachable by the jump alone", impl.VTop, 2, jump(1), leave(), give(0))
}

func TestOrderAtOnePlace(t *testing.T) {
	open := impl.Open
	checkCodeOf(t, "VOp before VEnd", impl.VOp, 0, 34)
	checkCodeOf(t, "VField before VReg", impl.VField, 0, parts(impl.OpMove, 6, 6, 1))
	checkCodeOf(t, "VField of A before VJump", impl.VField, 0, wide(impl.OpJump, 1, 99))
	checkCodeOf(t, "VField before VReg at eq", impl.VField, 0, parts(impl.OpEq, 2, 6, 6))
	checkCodeOf(t, "VField before VUp", impl.VField, 0, parts(impl.OpGetUp, 0, 2, 1))
	checkCodeOf(t, "VReg before VConst", impl.VReg, 0, wide(impl.OpLoadK, 6, 3))
	checkCodeOf(t, "VReg before VUp", impl.VReg, 0, parts(impl.OpSetUp, 6, 2, 0))
	checkCodeOf(t, "VReg before VKid", impl.VReg, 0, wide(impl.OpClosure, 6, 2))
	checkCodeOf(t, "VReg before VJump", impl.VReg, 0, wide(impl.OpForLoop, 3, 9))
	checkCodeOf(t, "VReg before VPair", impl.VReg, 0, parts(impl.OpTest, 6, 0, 0))
	checkCodeOf(t, "VConst before VEnd", impl.VConst, 0, wide(impl.OpLoadK, 0, 3))
	checkCodeOf(t, "VUp before VEnd", impl.VUp, 0, parts(impl.OpGetUp, 0, 2, 0))
	checkCodeOf(t, "VKid before VEnd", impl.VKid, 0, wide(impl.OpClosure, 0, 2))
	checkCodeOf(t, "VJump before VPair", impl.VJump, 0, wide(impl.OpForPrep, 0, 9))
	checkCodeOf(t, "VJump before VEnd", impl.VJump, 0, wide(impl.OpForLoop, 0, 0))
	checkCodeOf(t, "VPair before VEnd", impl.VPair, 0, parts(impl.OpTest, 0, 0, 0))
	checkCodeOf(t, "VEnd before VTop", impl.VEnd, 0, parts(impl.OpCall, 0, open, 0))
	checkCodeOf(t, "VField before VReg at vararg", impl.VField, 0, parts(impl.OpVararg, 6, 7, 1))
}

func TestOrderOfPlacesAndPrototypes(t *testing.T) {
	bad := parts(impl.OpMove, 6, 0, 0)
	checkCodeOf(t, "the first place", impl.VReg, 1, stay(), bad, 34, leave())
	checkCodeOf(t, "the first place, with the later code", impl.VEnd, 3, stay(), stay(), leave(), stay())
	checkCodeOf(t, "a later place before VTop", impl.VReg, 2, fill(0), leave(), bad, leave())
	checkCodeOf(t, "a place that is not reachable before VTop", impl.VOp, 1, give(0), 63)

	check := func(what string, c impl.Chunk, want impl.Report) {
		t.Helper()
		if got := checkVerify(t, c); got != want {
			t.Errorf("%s: %v; want %v", what, got, want)
		}
	}
	top := []uint32{stay(), give(0)}
	c := family(top...)
	check("VTop of the second", c, impl.Report{Code: impl.VTop, Proto: 1, Pc: 1})
	c.Protos[0].Code = []uint32{stay(), stay(), give(0)}
	check("VTop of the first", c, impl.Report{Code: impl.VTop, Proto: 0, Pc: 2})
	c.Protos[3].Code = []uint32{stay()}
	check("VEnd of the last before VTop of the first", c, impl.Report{Code: impl.VEnd, Proto: 3, Pc: 0})
	c.Protos[3].Ups[1].Index = 2
	check("VDesc of the second before VEnd of the last", c, impl.Report{Code: impl.VDesc, Proto: 1, Pc: 2})
	c.Protos[1].Ups[1].Index = 2
	check("VDesc of the first before that of the second", c, impl.Report{Code: impl.VDesc, Proto: 0, Pc: 3})
	c.Protos[1].Ups[1].Index = 0
	c.Protos[1].Code[1] = 34
	check("VOp of the second before its VDesc", c, impl.Report{Code: impl.VOp, Proto: 1, Pc: 1})
	c.Protos[0].Ups = make([]impl.Up, 1)
	check("VDesc of the root before VOp of the second", c, impl.Report{Code: impl.VDesc, Proto: 0, Pc: 3})
	c.Protos[0].Code[2] = 34
	check("VOp of the root before its VDesc", c, impl.Report{Code: impl.VOp, Proto: 0, Pc: 2})
	c.Protos[3].Regs = 0
	check("VForm before all", c, impl.Report{Code: impl.VForm})
}

func TestVerifyOfWhatIsNotWellFormed(t *testing.T) {
	wrong := family(stay(), leave())
	wrong.Protos[3].Lines = []int{1, 2}
	value := family(leave())
	value.Protos[1].Consts[2].Kind = impl.KTable
	for k, c := range []impl.Chunk{{}, {Protos: []impl.Proto{}}, treeOf(1), treeOf(0, 0), treeOf(-1), treeOf(math.MaxInt), wrong, value} {
		if got := impl.Verify(c); got != (impl.Report{Code: impl.VForm}) {
			t.Errorf("chunk %d: %v", k, got)
		}
		for i := -1; i <= len(c.Protos); i++ {
			if got := impl.Tops(c, i); len(got) != 0 {
				t.Errorf("Tops(%d) of chunk %d: %v", i, k, got)
			}
		}
	}
	c := family(leave())
	for _, i := range []int{math.MinInt, -4, -1, 4, 5, impl.MaxProtos, math.MaxInt} {
		if got := impl.Tops(c, i); len(got) != 0 {
			t.Errorf("Tops(%d): %v", i, got)
		}
	}
}

// checkTops asks for the numbers of a code, in a chunk that is little more than it.
func checkTops(t *testing.T, what string, want []int, words ...uint32) {
	t.Helper()
	c := treeOf(1, 0)
	for number := range c.Protos {
		other := copyChunk(c)
		other.Protos[number].Code = words
		checkVerify(t, other)
		if got := impl.Tops(other, number); !slices.Equal(got, want) {
			t.Errorf("%s: %v; want %v", what, got, want)
		}
		if got := impl.Tops(other, 1-number); !slices.Equal(got, []int{-1}) {
			t.Errorf("%s: the other prototype: %v", what, got)
		}
	}
}

func TestTopsByHand(t *testing.T) {
	ask := parts(impl.OpTest, 0, 0, 0)
	head, loop := wide(impl.OpForPrep, 0, 2), wide(impl.OpForLoop, 0, -2)
	checkTops(t, "a word", []int{-1}, leave())
	checkTops(t, "a word with nothing behind it", []int{-1}, fill(7))
	checkTops(t, "straight", []int{-1, -1, -1}, stay(), stay(), leave())
	checkTops(t, "behind a return", []int{-1, -2, -2}, leave(), stay(), stay())
	checkTops(t, "behind an error", []int{-1, -2}, parts(impl.OpError, 0, 0, 0), leave())
	checkTops(t, "behind unknown operations", []int{-1, -1, -1}, 34, parts(63, 255, 511, 511), leave())
	checkTops(t, "a jump on", []int{-1, -2, -1}, jump(1), leave(), leave())
	checkTops(t, "a jump back", []int{-1, -1, -1, -1, -2}, jump(1), leave(), stay(), jump(-3), leave())
	checkTops(t, "a jump to itself", []int{-1, -2}, jump(-1), leave())
	checkTops(t, "a jump before place 0", []int{-1, -2}, jump(-2), leave())
	checkTops(t, "a jump to the end", []int{-1, -2}, jump(1), leave())
	checkTops(t, "far jumps", []int{-1, -1, -2}, stay(), jump(131071), jump(-131072))
	checkTops(t, "a test", []int{-1, -1, -1, -2, -1}, ask, jump(2), leave(), leave(), leave())
	checkTops(t, "a test without a jump", []int{-1, -1, -1, -2}, ask, leave(), leave(), leave())
	checkTops(t, "a test as the last but one", []int{-1, -1}, ask, leave())
	checkTops(t, "a test as the last", []int{-1, -1}, stay(), ask)
	checkTops(t, "a loop", []int{-1, -1, -1, -1}, head, stay(), loop, leave())
	checkTops(t, "a loop that is left", []int{-1, -1, -2, -1}, head, leave(), loop, leave())
	checkTops(t, "a loop alone", []int{-1, -1, -1}, stay(), loop, leave())
	checkTops(t, "the other tests", []int{-1, -1, -1, -1, -1},
		parts(impl.OpEq, 0, 0, 0), jump(1), parts(impl.OpLess, 0, 0, 0), leave(), leave())
}

func TestTopsOfWhatOpens(t *testing.T) {
	open := impl.Open
	for _, op := range []int{impl.OpCall, impl.OpResume, impl.OpYield, impl.OpVararg} {
		word := func(a int, n int) uint32 {
			if op == impl.OpVararg {
				return parts(op, a, n, 0)
			}
			return parts(op, a, 0, n)
		}
		name := impl.OpName(op)
		for _, a := range []int{0, 1, 5, 254, 255} {
			checkTops(t, name, []int{-1, a, -1}, word(a, open), stay(), leave())
			checkTops(t, name+" that is not open", []int{-1, -1, -1}, word(a, 510), stay(), leave())
			checkTops(t, name+" of none", []int{-1, -1, -1}, word(a, 0), stay(), leave())
			checkTops(t, name+" as the last", []int{-1, -1}, stay(), word(a, open))
			checkTops(t, name+" where no one comes", []int{-1, -2, -2}, leave(), word(a, open), stay())
			checkTops(t, name+" and a jump into it", []int{-1, -1, -1, -3}, parts(impl.OpTest, 0, 0, 0), jump(1), word(a, open), leave())
			checkTops(t, name+" and a jump back into it", []int{-1, -3, -1}, word(a, open), stay(), jump(-2))
			checkTops(t, name+" that is jumped over", []int{-1, -2, -1}, jump(1), word(a, open), leave())
			checkTops(t, name+" back to the start", []int{-1, a, -2}, word(a, open), jump(-2), leave())
		}
	}
}

// Only what the document names opens, whatever the parts of others hold.
func TestTopsOfPartsThatLookOpen(t *testing.T) {
	open := impl.Open
	for op := range 64 {
		i := impl.Unpack(parts(op, 9, open, open))
		want := []int{-1, -1, -1}
		switch op {
		case impl.OpReturn, impl.OpError, impl.OpJump:
			want = []int{-1, -2, -2}
		case impl.OpCall, impl.OpResume, impl.OpYield, impl.OpVararg:
			want = []int{-1, 9, -1}
		}
		checkTops(t, "open parts", want, impl.Pack(i), stay(), leave())
	}
	checkTops(t, "return without taking", []int{-1, -2, -2}, parts(impl.OpReturn, 9, 0, open), stay(), leave())
	checkTops(t, "vararg with another part", []int{-1, -1, -1}, parts(impl.OpVararg, 9, 0, open), stay(), leave())
	checkTops(t, "call that takes", []int{-1, -1, -1}, parts(impl.OpCall, 9, open, 0), stay(), leave())
}

// A code that is as long as can be, gone through by jumps from its end to its start and back.
func TestTopsOfLongCode(t *testing.T) {
	n := impl.MaxCode
	words := make([]uint32, n)
	want := make([]int, n)
	for pc := range words {
		words[pc], want[pc] = jump(n-1-2*pc-1), -1
		if pc >= n/2 {
			words[pc] = jump(n - pc - pc - 1)
		}
	}
	words[n/2] = leave()
	checkTops(t, "zigzag", want, words...)
	for pc := range words {
		words[pc], want[pc] = fill(pc%256), (pc-1)%256
	}
	want[0] = -1
	checkTops(t, "all open", want, words...)
}

// TestEveryWordNearTheEdges tries all operations with parts around the numbers of a family.
func TestEveryWordNearTheEdges(t *testing.T) {
	edges := []int{0, 1, 2, 3, 4, 5, 6, 7, 510, 511}
	var seen [impl.VForm + 1]int
	for op := range 64 {
		for _, a := range []int{0, 1, 2, 3, 4, 5, 6, 255} {
			for _, b := range edges {
				for _, c := range edges {
					seen[checkVerify(t, family(fill(3), parts(op, a, b, c), jump(0), give(0))).Code]++
					seen[checkVerify(t, family(stay(), parts(op, a, b, c), jump(0), leave())).Code]++
				}
			}
			for s := -4; s <= 4; s++ {
				seen[checkVerify(t, family(stay(), wide(op, a, s), jump(0), wide(impl.OpForLoop, 2, -2), leave())).Code]++
			}
		}
	}
	for code, n := range seen {
		if n == 0 && code != impl.VEnd && code != impl.VDesc && code != impl.VForm {
			t.Errorf("no word gives code %d", code)
		}
	}
}

// someCode makes code by a fixed rule, most of it as the verifier asks, and now and then a word that may be anything.
func someCode(next func(n int) int, regs, consts, ups, kids int) []uint32 {
	n := 1 + next(12)
	words := make([]uint32, n)
	for pc := range words {
		words[pc] = someWord(next, n, pc, regs, consts, ups, kids)
	}
	for pc := 0; pc+2 < n; pc++ {
		switch op := impl.Unpack(words[pc]).Op; op {
		case impl.OpEq, impl.OpLess, impl.OpTest:
			words[pc+1] = jump(next(n) - pc - 2)
		case impl.OpForPrep:
			behind := pc + 2 + next(n-pc-2)
			words[pc] = wide(op, 0, behind-pc-1)
			words[behind-1] = wide(impl.OpForLoop, 0, pc+1-behind)
		}
	}
	words[n-1] = parts(impl.OpReturn, next(regs), 0, 0)
	for range 2 * next(2) * next(2) {
		words[next(n)] = someWord(next, n, next(n), regs+1, consts+1, ups+1, kids+1)
	}
	return words
}

// someWord makes an instruction as the table says, with what is there.
func someWord(next func(n int) int, n, pc, regs, consts, ups, kids int) uint32 {
	op := next(34)
	row := usesOfTable[op]
	if next(3) == 0 {
		op = []int{impl.OpCall, impl.OpYield, impl.OpVararg, impl.OpReturn}[next(4)]
		row = usesOfTable[op]
	}
	if row["S"] == "target" {
		return wide(op, 0, next(n)-pc-1)
	}
	if row["S"] == "constant" {
		return wide(op, next(regs), next(consts))
	}
	if row["S"] == "child" {
		return wide(op, next(regs), next(kids))
	}
	part := func(name string) int {
		switch row[name] {
		case "register":
			return next(regs)
		case "bool":
			return next(2)
		case "upvalue":
			return next(ups)
		case "from", "behind":
			return []int{0, 1, impl.Open}[next(3)]
		}
		return 0
	}
	return parts(op, part("A"), part("B"), part("C"))
}

// someFamily makes a chunk of some shape whose prototypes have such code.
func someFamily(next func(n int) int) impl.Chunk {
	shapes := [][]int{{0}, {1, 0}, {2, 0, 0}, {2, 1, 0, 0}, {1, 2, 0, 0}}
	c := treeOf(shapes[next(len(shapes))]...)
	for number := range c.Protos {
		p := &c.Protos[number]
		p.Vararg, p.Regs = next(8) != 0, 4+next(4)
		p.Consts = make([]impl.Value, 1+next(3))
		ups := 0
		if number > 0 {
			ups = 1 + next(2)
		}
		p.Ups = make([]impl.Up, ups)
		for k := range p.Ups {
			p.Ups[k] = impl.Up{Stack: true, Index: next(5 - next(2))}
		}
		p.Code = someCode(next, p.Regs, len(p.Consts), max(1, ups), max(1, p.Kids))
	}
	return c
}

func TestManyChunks(t *testing.T) {
	next := numbers(4)
	var seen [impl.VForm + 1]int
	for range 60000 {
		c := someFamily(next)
		seen[checkVerify(t, c).Code]++
	}
	for code, n := range seen {
		if n < 10 && code != impl.VForm && code != impl.VOp {
			t.Errorf("only %d chunks give code %d", n, code)
		}
	}
}

// Words that may be anything, in code of all sizes.
func TestManyWords(t *testing.T) {
	next := numbers(5)
	for range 3000 {
		words := make([]uint32, 1+next(30))
		for pc := range words {
			words[pc] = uint32(next(1<<16))<<16 | uint32(next(1<<16))
			if next(2) == 0 {
				words[pc] = wide(next(34), next(256), next(20)-10)
			}
		}
		checkVerify(t, family(words...))
		for pc, word := range words {
			words[pc] = word&^63 | uint32(next(34))
		}
		checkVerify(t, family(words...))
	}
}

// otherValues are plain values of every kind, by turns.
func otherValues(n int, turn int) []impl.Value {
	kinds := []impl.Value{
		{}, {Kind: impl.KBool}, {Kind: impl.KBool, Num: 1}, {Kind: impl.KInt, Num: math.MinInt64},
		{Kind: impl.KInt, Num: 7}, {Kind: impl.KText}, {Kind: impl.KText, Text: strings.Repeat("\xff", impl.MaxText)},
	}
	out := make([]impl.Value, n)
	for k := range out {
		out[k] = kinds[(k+turn)%len(kinds)]
	}
	return out
}

// Promise 11, its second half: only how many constants there are is asked.
func TestVerifyAsksHowManyConstants(t *testing.T) {
	next := numbers(11)
	for range 3000 {
		c := someFamily(next)
		want := impl.Verify(c)
		for turn := range 7 {
			for number := range c.Protos {
				c.Protos[number].Consts = otherValues(len(c.Protos[number].Consts), turn)
			}
			if got := impl.Verify(c); got != want {
				t.Fatalf("with other constants %v; want %v:\n%v", got, want, shown(c))
			}
		}
	}
	c := family(wide(impl.OpLoadK, 0, 2), leave())
	for turn := range 7 {
		c.Protos[1].Consts = otherValues(3, turn)
		if got := impl.Verify(c); got != (impl.Report{}) {
			t.Errorf("three constants: %v", got)
		}
		c.Protos[1].Consts = otherValues(2, turn)
		if got := impl.Verify(c); got != (impl.Report{Code: impl.VConst, Proto: 1}) {
			t.Errorf("two constants: %v", got)
		}
	}
}

// Promise 11, its first half: nothing but the code of the prototype itself counts.
func TestTopsHangsOnTheCodeAlone(t *testing.T) {
	next := numbers(12)
	for range 3000 {
		c := someFamily(next)
		number := next(len(c.Protos))
		want := impl.Tops(c, number)
		other := fullTree()
		for k := range other.Protos {
			p := &other.Protos[k]
			p.Code = c.Protos[number].Code
			p.Lines = make([]int, len(p.Code))
			p.Vararg = next(2) == 0
			p.Regs = 2 + next(249)
		}
		for k := range other.Protos {
			if got := impl.Tops(other, k); !slices.Equal(got, want) {
				t.Fatalf("prototype %d of others: %v; want %v:\n%v", k, got, want, shown(c))
			}
		}
		alone := treeOf(0)
		alone.Protos[0].Code = c.Protos[number].Code
		if got := impl.Tops(alone, 0); !slices.Equal(got, want) {
			t.Fatalf("alone: %v; want %v:\n%v", got, want, shown(c))
		}
	}
}

// Of promise 5 what the verifier has to do with: debug texts change nothing.
func TestStrippedIsVerifiedAlike(t *testing.T) {
	next := numbers(13)
	for range 3000 {
		c := someFamily(next)
		want := impl.Verify(c)
		for number := range c.Protos {
			p := &c.Protos[number]
			p.Name, p.Lines, p.UpNames = "name", make([]int, len(p.Code)), make([]string, len(p.Ups))
			for pc := range p.Lines {
				p.Lines[pc] = next(impl.MaxNumber)
			}
		}
		bare := impl.Strip(c)
		if got, gotBare := impl.Verify(c), impl.Verify(bare); got != want || gotBare != want {
			t.Fatalf("with debug texts %v, stripped %v; want %v", got, gotBare, want)
		}
		for number := range c.Protos {
			if got, gotBare := impl.Tops(c, number), impl.Tops(bare, number); !slices.Equal(got, gotBare) {
				t.Fatalf("Tops with debug texts %v, stripped %v", got, gotBare)
			}
		}
	}
}

// Of promise 12 what the verifier has to do with.
func TestMoreAtTheEndIsAcceptedToo(t *testing.T) {
	next := numbers(14)
	accepted := 0
	for range 6000 {
		c := someFamily(next)
		if impl.Verify(c).Code != impl.VOk {
			continue
		}
		accepted++
		for number := range c.Protos {
			p := &c.Protos[number]
			p.Consts = append(p.Consts, impl.Value{Kind: impl.KInt, Num: 1})
			p.Regs++
			p.Code = append(p.Code, leave())
		}
		if got := checkVerify(t, c); got.Code != impl.VOk {
			t.Fatalf("%v:\n%v", got, shown(c))
		}
	}
	if accepted < 100 {
		t.Errorf("only %d are accepted", accepted)
	}
}

// Every prototype as long as can be; the fault stands in the last place of all.
func TestVerifyOfTheLargestChunk(t *testing.T) {
	kids := make([]int, impl.MaxProtos)
	kids[0] = impl.MaxProtos - 1
	c := treeOf(kids...)
	for number := range c.Protos {
		words := make([]uint32, impl.MaxCode)
		words[impl.MaxCode-1] = leave()
		c.Protos[number].Code = words
	}
	if got := impl.Verify(c); got != (impl.Report{}) {
		t.Errorf("all right: %v", got)
	}
	last := c.Protos[impl.MaxProtos-1].Code
	last[impl.MaxCode-1] = give(0)
	if got := impl.Verify(c); got != (impl.Report{Code: impl.VTop, Proto: impl.MaxProtos - 1, Pc: impl.MaxCode - 1}) {
		t.Errorf("VTop in the last place: %v", got)
	}
	last[impl.MaxCode-1] = stay()
	if got := impl.Verify(c); got != (impl.Report{Code: impl.VEnd, Proto: impl.MaxProtos - 1, Pc: impl.MaxCode - 1}) {
		t.Errorf("VEnd in the last place: %v", got)
	}
}

func TestVerifyChangesNothing(t *testing.T) {
	for _, fresh := range []func() impl.Chunk{fullTree, func() impl.Chunk {
		return family(fill(1), parts(impl.OpCall, 0, impl.Open, 1), parts(impl.OpTest, 0, 0, 0), jump(0), leave())
	}} {
		c, kept := fresh(), fresh()
		impl.Verify(c)
		for i := -1; i <= len(c.Protos); i++ {
			impl.Tops(c, i)
		}
		if !reflect.DeepEqual(c, kept) {
			t.Errorf("the argument is now %v", c)
		}
	}
}

// Lines are the one list of a chunk that Tops could hand out; and no two answers may be one.
func TestTopsSharesNoMemory(t *testing.T) {
	fresh := func() impl.Chunk {
		c := family(jump(0), fill(1), give(0), leave())
		c.Protos[1].Lines = []int{6, 7, 8, 9}
		return c
	}
	c := fresh()
	want := []int{-1, -1, 1, -2}
	first, second := impl.Tops(c, 1), impl.Tops(c, 1)
	if !slices.Equal(first, want) || !slices.Equal(second, want) {
		t.Fatalf("%v and %v; want %v", first, second, want)
	}
	first = first[:cap(first)]
	for pc := range first {
		first[pc] = 77
	}
	if !reflect.DeepEqual(c, fresh()) {
		t.Errorf("writing into the answer changes the argument: %v", c)
	}
	if !slices.Equal(second, want) || !slices.Equal(impl.Tops(c, 1), want) {
		t.Errorf("writing into an answer changes another: %v, %v", second, impl.Tops(c, 1))
	}
	scribble(c)
	if !slices.Equal(second, want) {
		t.Errorf("writing into the argument changes the answer: %v", second)
	}
}
