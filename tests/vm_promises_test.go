package tests

import (
	"math"
	"strconv"
	"strings"
	"testing"

	"loop.example/s02979/impl"
)

// maker makes the code of a prototype from pieces. A piece jumps only within
// itself and leaves nothing open, so every row of pieces is accepted. Registers
// 0 and 1 are mostly integers, 2 a text, 3 anything, 4 a table, 5 a closure, 6 a
// thread; from 7 on there is room for calls, from 12 on for a loop.
type maker struct {
	next func(n int) int
	main bool
	kids int
	// ups has for each upvalue the register that it stands for.
	ups []int
	// calls says whether there is a closure to be called.
	calls bool
}

const madeRegs = 16

func madeConsts() []impl.Value {
	return plainValues(0, 1, 2, 3, -1, 7, math.MinInt64, math.MaxInt64, "", "a", "abc", strings.Repeat("x", 300), nil, true, false)
}

func (m *maker) oneOf(list ...int) int {
	return list[m.next(len(list))]
}

// rarely is true now and then, for what mostly is an error.
func (m *maker) rarely() bool {
	return m.next(24) == 0
}

// begin puts something into the registers from which all pieces go on.
func (m *maker) begin() []uint32 {
	words := []uint32{parts(impl.OpNewTable, 4, 0, 0)}
	if !m.rarely() {
		words = append(words, wide(impl.OpLoadK, 0, m.next(6)), wide(impl.OpLoadK, 1, m.next(8)), wide(impl.OpLoadK, 2, 8+m.next(4)))
	}
	if m.kids > 0 {
		m.calls = true
		return append(words, wide(impl.OpClosure, 5, m.next(m.kids)), parts(impl.OpCreate, 6, 5, 0))
	}
	for k, r := range m.ups {
		if r == 5 || r == 6 {
			words = append(words, parts(impl.OpGetUp, r, k, 0))
			m.calls = m.calls || r == 5
		}
	}
	return words
}

func (m *maker) code() []uint32 {
	words := m.begin()
	for range 2 + m.next(8) {
		words = append(words, m.piece(2)...)
	}
	return append(words, parts(impl.OpReturn, m.next(8), m.next(5), 0))
}

func (m *maker) piece(deep int) []uint32 {
	k := m.next(16)
	if k >= 5 && k < 10 && !m.calls && !m.rarely() || k == 10 && m.main && !m.rarely() {
		k = 0
	}
	switch {
	case k < 5:
		return []uint32{m.simple()}
	case k < 7:
		return m.closing(impl.OpCall, 5)
	case k < 9:
		return m.closing(impl.OpResume, 6)
	case k < 10:
		return m.open()
	case k < 11:
		return []uint32{parts(impl.OpYield, 3+m.next(8), m.next(4), m.oneOf(0, 1)), wide(impl.OpLoadK, 3, m.next(15))}
	case k < 12:
		return []uint32{m.upvalue()}
	case k < 13:
		return []uint32{m.other()}
	case deep == 0:
		return []uint32{m.simple(), m.simple()}
	case k < 14:
		return m.asked(deep)
	}
	return m.looped(deep)
}

func (m *maker) simple() uint32 {
	if m.rarely() {
		return parts(impl.OpMove, m.next(7), m.next(7), 0)
	}
	switch m.next(8) {
	case 0, 1:
		return parts(m.oneOf(impl.OpAdd, impl.OpSub, impl.OpMul, impl.OpDiv, impl.OpMod), m.next(2), m.next(2), m.next(2))
	case 2:
		return parts(impl.OpConcat, 2, m.next(3), m.next(3))
	case 3:
		return wide(impl.OpLoadK, m.next(2), m.next(8))
	case 4:
		return wide(impl.OpLoadK, 3, m.next(15))
	case 5:
		return parts(impl.OpSetTable, 4, m.oneOf(0, 1, 2, 4), m.next(7))
	case 6:
		return parts(impl.OpGetTable, 3, 4, m.next(7))
	}
	return parts(m.oneOf(impl.OpLen, impl.OpNot), 3, m.oneOf(2, 4), 0)
}

func (m *maker) other() uint32 {
	switch m.next(10) {
	case 0, 1:
		return parts(impl.OpClose, m.next(madeRegs), 0, 0)
	case 2:
		return parts(impl.OpStatus, 3, 6, 0)
	case 3:
		return parts(impl.OpLoadNil, 7+m.next(5), m.next(4), 0)
	case 4:
		return parts(impl.OpLoadBool, 3, m.next(2), 0)
	case 5:
		return parts(impl.OpNeg, m.next(2), m.next(2), 0)
	case 6:
		return parts(impl.OpVararg, 7+m.next(4), m.next(4), 0)
	case 7:
		if m.kids > 0 {
			return wide(impl.OpClosure, 5, m.next(m.kids))
		}
	case 8:
		if m.calls {
			return parts(impl.OpCreate, 6, 5, 0)
		}
	}
	return parts(impl.OpNewTable, 4, 0, 0)
}

func (m *maker) upvalue() uint32 {
	if len(m.ups) == 0 {
		return m.other()
	}
	k := m.next(len(m.ups))
	r := m.ups[k]
	if m.rarely() {
		r = m.next(7)
	}
	return parts(m.oneOf(impl.OpGetUp, impl.OpSetUp), r, k, 0)
}

// closing is a call or a resume of what a register holds, with nothing open.
func (m *maker) closing(op int, from int) []uint32 {
	var words []uint32
	if op == impl.OpResume && m.next(3) > 0 {
		words = append(words, parts(impl.OpCreate, 6, 5, 0))
	}
	to := 3
	if m.rarely() {
		to = m.next(7)
	}
	return append(words, parts(impl.OpMove, 7, from, 0), parts(impl.OpMove, 8, m.next(7), 0), parts(impl.OpMove, 9, m.next(7), 0),
		parts(op, 7, m.next(4), m.next(5)), parts(impl.OpMove, to, 7+m.next(3), 0))
}

// open opens something and takes it, at most a few times over.
func (m *maker) open() []uint32 {
	var words []uint32
	for r := 7; r < 11; r++ {
		words = append(words, parts(impl.OpMove, r, m.oneOf(5, 5, 5, 6), 0))
	}
	ops := []int{impl.OpCall, impl.OpCall, impl.OpResume, impl.OpYield}
	if m.main && !m.rarely() {
		ops = ops[:3]
	}
	at := 8 + m.next(3)
	if m.next(2) == 0 {
		words = append(words, parts(impl.OpVararg, at, impl.Open, 0))
	} else {
		words = append(words, parts(m.oneOf(ops...), at, m.next(3), impl.Open))
	}
	for at > 7 {
		op := m.oneOf(ops...)
		at -= 1 + m.next(2)
		words = append(words, parts(op, at, impl.Open, m.oneOf(impl.Open, m.next(4))))
		if impl.Unpack(words[len(words)-1]).C != impl.Open {
			return words
		}
	}
	return append(words, parts(impl.OpReturn, m.next(at+1), impl.Open, 0))
}

// asked is a question with a piece that is jumped over, or an end in its place.
func (m *maker) asked(deep int) []uint32 {
	question := m.oneOf(parts3(impl.OpEq, m.next(2), m.next(7), m.next(7)), parts3(impl.OpLess, m.next(2), m.next(2), m.next(2)), parts3(impl.OpTest, m.next(7), 0, m.next(2)))
	body := m.piece(deep - 1)
	switch m.next(8) {
	case 0:
		body = []uint32{parts(impl.OpError, m.next(7), 0, 0)}
	case 1:
		body = []uint32{parts(impl.OpReturn, m.next(7), m.next(3), 0)}
	case 2:
		body = append(body, jump(-len(body)-1))
	}
	return append([]uint32{uint32(question), jump(len(body))}, body...)
}

func parts3(op, a, b, c int) int {
	return int(parts(op, a, b, c))
}

// looped is a loop of a few rounds, and now and then of none or of very many.
func (m *maker) looped(deep int) []uint32 {
	body := m.piece(deep - 1)
	if m.next(3) > 0 {
		body = append(body, parts(impl.OpMove, m.next(2), 15, 0))
	}
	words := []uint32{wide(impl.OpLoadK, 12, m.next(8)), wide(impl.OpLoadK, 13, m.next(8)), wide(impl.OpLoadK, 14, m.oneOf(1, 1, 2, 4, m.next(8))), wide(impl.OpForPrep, 12, len(body)+1)}
	words = append(words, body...)
	return append(words, wide(impl.OpForLoop, 12, -len(body)-1))
}

// madeChunk is a chunk of such code, with upvalues that hold what the one above
// has in its registers.
func madeChunk(next func(n int) int) impl.Chunk {
	stands := map[int][]int{}
	shapes := [][]int{{0}, {1, 0}, {1, 0}, {2, 0, 0}, {2, 1, 0, 0}, {1, 2, 0, 0}, {1, 1, 1, 0}, {3, 0, 1, 0, 0}}
	c := treeOf(shapes[next(len(shapes))]...)
	above := make([]int, len(c.Protos))
	for number := range c.Protos {
		p := &c.Protos[number]
		p.Params, p.Vararg, p.Regs, p.Consts = next(5), true, madeRegs, madeConsts()
		kid := number + 1
		for range p.Kids {
			above[kid] = number
			kid = impl.End(c, kid)
		}
		if number > 0 {
			p.Ups, stands[number] = madeUps(next, stands[above[number]])
		}
	}
	for number := range c.Protos {
		p := &c.Protos[number]
		m := &maker{next: next, main: number == 0, kids: p.Kids, ups: stands[number]}
		p.Code = m.code()
	}
	return c
}

// madeUps gives upvalues and the registers that they stand for.
func madeUps(next func(n int) int, above []int) ([]impl.Up, []int) {
	ups := make([]impl.Up, next(5))
	stands := make([]int, len(ups))
	for k := range ups {
		stands[k] = []int{0, 1, 2, 3, 4, 5, 6, 5, 6}[next(9)]
		ups[k] = impl.Up{Stack: true, Index: stands[k]}
		if len(above) > 0 && next(3) == 0 {
			ups[k] = impl.Up{Index: next(len(above))}
			stands[k] = above[ups[k].Index]
		}
	}
	return ups, stands
}

func someArgs(next func(n int) int) []impl.Value {
	consts := madeConsts()
	var args []impl.Value
	for range next(6) {
		args = append(args, consts[next(len(consts))])
	}
	return args
}

// seenOutcomes counts kinds of outcomes and error codes, so that a test can ask
// whether it has come to all of them.
type seenOutcomes struct {
	kinds [impl.OutBad + 1]int
	errs  [impl.ErrKey + 1]int
}

func (s *seenOutcomes) add(o impl.Outcome) {
	s.kinds[o.Kind]++
	s.errs[o.Err]++
}

func (s *seenOutcomes) check(t *testing.T, least int, kinds ...int) {
	t.Helper()
	for _, kind := range kinds {
		if s.kinds[kind] < least {
			t.Errorf("only %d outcomes of kind %d", s.kinds[kind], kind)
		}
	}
	for code, n := range s.errs {
		if n < least {
			t.Errorf("only %d outcomes with error %d", n, code)
		}
	}
}

// Promise 6: whatever the args, the fuel and the depth, an accepted chunk never
// ends with OutWrong.
func TestAcceptedChunksAreNeverWrong(t *testing.T) {
	next := numbers(60)
	var seen seenOutcomes
	var ops [64]int
	for range 8000 {
		c := madeChunk(next)
		if got := impl.Verify(c); got != (impl.Report{}) {
			t.Fatalf("it is not accepted: %v\n%s", got, shown(c))
		}
		for _, p := range c.Protos {
			for _, word := range p.Code {
				ops[impl.Unpack(word).Op]++
			}
		}
		for range 4 {
			o := checkExec(t, c, someArgs(next), next(1+next(600)), 1+next(1+next(14)))
			if o.Kind == impl.OutWrong || o.Kind == impl.OutBad {
				t.Fatalf("%s:\n%s", told(o), shown(c))
			}
			seen.add(o)
		}
	}
	seen.check(t, 10, impl.OutValues, impl.OutError, impl.OutFuel)
	for op := range 34 {
		if ops[op] < 100 {
			t.Errorf("%s stands in only %d places", impl.OpName(op), ops[op])
		}
	}
}

// The same of chunks of which the verifier says at random whether it accepts
// them: those that it does not are as the oracle says, and may be wrong.
func TestChunksThatMayNotBeAccepted(t *testing.T) {
	next := numbers(61)
	var seen seenOutcomes
	accepted := 0
	for range 6000 {
		c := madeChunk(next)
		for range 1 + next(3) {
			spoil(next, &c)
		}
		ok := impl.Verify(c).Code == impl.VOk
		for range 3 {
			o := checkExec(t, c, someArgs(next), next(400), 1+next(8))
			if ok && o.Kind == impl.OutWrong {
				t.Fatalf("%s:\n%s", told(o), shown(c))
			}
			seen.add(o)
		}
		if ok {
			accepted++
		}
	}
	seen.check(t, 10, impl.OutValues, impl.OutError, impl.OutFuel, impl.OutWrong)
	if accepted < 200 || accepted > 5000 {
		t.Errorf("%d are accepted", accepted)
	}
}

// spoil changes a word, a part of a word, or an upvalue.
func spoil(next func(n int) int, c *impl.Chunk) {
	p := &c.Protos[next(len(c.Protos))]
	at := next(len(p.Code))
	i := impl.Unpack(p.Code[at])
	switch next(6) {
	case 0:
		p.Code[at] = uint32(next(1<<16))<<16 | uint32(next(1<<16))
	case 1:
		p.Code[at] = wide(i.Op, i.A, max(-131072, min(131071, i.S+next(5)-2)))
	case 2:
		p.Code[at] = parts(i.Op, next(madeRegs+1), i.B, i.C)
	case 3:
		p.Code[at] = parts(i.Op, i.A, []int{0, 1, 15, 16, impl.Open}[next(5)], i.C)
	case 4:
		p.Code[at] = parts(next(35), i.A, i.B, i.C)
	case 5:
		if len(p.Ups) > 0 {
			p.Ups[next(len(p.Ups))] = impl.Up{Stack: next(2) == 0, Index: next(18)}
		}
	}
}

func TestFamiliesAreRunAsSaid(t *testing.T) {
	next := numbers(62)
	for range 6000 {
		c := someFamily(next)
		if c.Protos[0].Kids > 0 && next(2) == 0 {
			c.Protos[0].Code = append([]uint32{wide(impl.OpClosure, 0, 0), wide(impl.OpClosure, 1, 0), parts(impl.OpCreate, 1, 1, 0)}, c.Protos[0].Code...)
		}
		for number := range c.Protos {
			c.Protos[number].Consts = otherValues(len(c.Protos[number].Consts), next(7))
		}
		ok := impl.Verify(c).Code == impl.VOk
		for range 3 {
			if o := checkExec(t, c, someArgs(next), next(200), 1+next(6)); ok && o.Kind == impl.OutWrong {
				t.Fatalf("%s:\n%s", told(o), shown(c))
			}
		}
	}
}

// Promise 5, of Exec: debug texts change nothing.
func TestStrippedRunsAlike(t *testing.T) {
	next := numbers(63)
	for range 2500 {
		bare := madeChunk(next)
		if next(3) == 0 {
			spoil(next, &bare)
		}
		c := copyChunk(bare)
		for number := range c.Protos {
			p := &c.Protos[number]
			p.Name, p.Lines, p.UpNames = "name"+strconv.Itoa(number), make([]int, len(p.Code)), make([]string, len(p.Ups))
			for k := range p.Lines {
				p.Lines[k] = next(impl.MaxNumber)
			}
			for k := range p.UpNames {
				p.UpNames[k] = "up" + strconv.Itoa(k)
			}
		}
		args, fuel, depth := someArgs(next), next(600), 1+next(12)
		want := told(checkExec(t, bare, args, fuel, depth))
		if got, stripped := told(impl.Exec(c, args, fuel, depth)), told(impl.Exec(impl.Strip(c), args, fuel, depth)); got != want || stripped != want {
			t.Fatalf("with debug texts %s, stripped %s; want %s:\n%s", got, stripped, want, shown(c))
		}
	}
}

// Promise 7: more fuel changes nothing but an OutFuel, and that has made as many steps as fuel says.
func TestMoreFuelChangesOnlyOutFuel(t *testing.T) {
	next := numbers(64)
	var seen seenOutcomes
	for range 1500 {
		c := madeChunk(next)
		if next(3) == 0 {
			spoil(next, &c)
		}
		args, depth := someArgs(next), 1+next(12)
		whole := impl.Exec(c, args, 3000, depth)
		seen.add(whole)
		for _, fuel := range []int{0, 1, next(whole.Steps + 1), next(whole.Steps + 1), max(0, whole.Steps-1), whole.Steps, whole.Steps + 1, 2999} {
			want := told(whole)
			if fuel < whole.Steps {
				want = "fuel / " + strconv.Itoa(fuel)
			}
			if whole.Kind == impl.OutFuel && fuel >= whole.Steps {
				continue
			}
			if got := told(impl.Exec(c, args, fuel, depth)); got != want {
				t.Fatalf("with fuel %d %s; want %s:\n%s", fuel, got, want, shown(c))
			}
		}
		if whole.Kind == impl.OutFuel && whole.Steps != 3000 {
			t.Fatalf("OutFuel after %d steps of 3000", whole.Steps)
		}
	}
	seen.check(t, 3, impl.OutValues, impl.OutError, impl.OutFuel, impl.OutWrong)
}

// Promise 12: a constant, a register and a return more at the end of each prototype.
func TestMoreAtTheEndRunsInTheSameWay(t *testing.T) {
	next := numbers(65)
	for range 2500 {
		c := madeChunk(next)
		more := copyChunk(c)
		for number := range more.Protos {
			p := &more.Protos[number]
			p.Consts = append(p.Consts, otherValues(1, next(7))...)
			p.Regs++
			p.Code = append(p.Code, leave())
		}
		if got := impl.Verify(more); got != (impl.Report{}) {
			t.Fatalf("it is not accepted: %v\n%s", got, shown(more))
		}
		for range 3 {
			args, fuel, depth := someArgs(next), next(600), 1+next(12)
			if got, want := told(impl.Exec(more, args, fuel, depth)), told(impl.Exec(c, args, fuel, depth)); got != want {
				t.Fatalf("with more %s; want %s:\n%s", got, want, shown(c))
			}
		}
	}
}

// Promise 12 at the limits: as many of all as there can be, once the more has come.
func TestMoreAtTheEndUpToTheLimits(t *testing.T) {
	c := chunkOf("proto 2 249 1 vararg; closure 5 0; move 6 0 0; vararg 7 open 0; call 5 open open; return 0 open 0; proto 1 249 0 vararg; vararg 248 open 0; return 0 open 0")
	for number := range c.Protos {
		p := &c.Protos[number]
		p.Consts = make([]impl.Value, impl.MaxConsts-1)
		for len(p.Code) < impl.MaxCode-1 {
			p.Code = append(p.Code, leave())
		}
	}
	want := told(checkExec(t, c, plainValues(1, 2, 3, 4), 100, 2))
	for number := range c.Protos {
		p := &c.Protos[number]
		p.Consts, p.Regs, p.Code = append(p.Consts, impl.Value{}), p.Regs+1, append(p.Code, leave())
	}
	if got := impl.Verify(c); got != (impl.Report{}) {
		t.Fatalf("it is not accepted: %v", got)
	}
	if got := told(checkExec(t, c, plainValues(1, 2, 3, 4), 100, 2)); got != want || !strings.HasPrefix(want, "values 1 2 nil nil nil 1 nil") {
		t.Errorf("%s; want %s", got, want)
	}
}
