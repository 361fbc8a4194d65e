package tests

import (
	"strconv"
	"strings"
	"testing"

	"loop.example/s02979/impl"
)

// The machine by the words of the document, as plainly as can be: a loop of
// steps over lists of frames, without calls of itself and without goroutines.

// simValue is equal to another just if the two are equal as Go structs.
type simValue struct {
	kind    int
	num     int64
	text    string
	table   *simTable
	closure *simClosure
	thread  *simThread
}

type simTable struct {
	entries map[simValue]simValue
}

type simCell struct {
	value simValue
}

type simClosure struct {
	proto int
	cells []*simCell
}

type simThread struct {
	state   string
	body    *simClosure
	begun   bool
	frames  []*simFrame
	resumer *simThread
}

type simFrame struct {
	body   *simClosure
	pc     int
	regs   []simValue
	shared map[int]*simCell
	extra  []simValue
	isOpen bool
	openAt int
	open   []simValue
	// instr is the instruction that waits to be given values.
	instr impl.Instr
}

type sim struct {
	c       impl.Chunk
	w       wanted
	fuel    int
	depth   int
	steps   int
	made    int
	threads []*simThread
	main    *simThread
	now     *simThread
	out     *impl.Outcome
}

func simOf(v impl.Value) simValue {
	return simValue{kind: v.Kind, num: v.Num, text: v.Text}
}

func simInt(n int64) simValue {
	return simValue{kind: impl.KInt, num: n}
}

func simText(s string) simValue {
	return simValue{kind: impl.KText, text: s}
}

func simBool(yes bool) simValue {
	if yes {
		return simValue{kind: impl.KBool, num: 1}
	}
	return simValue{kind: impl.KBool}
}

// wantExec is what Exec is to answer.
func wantExec(c impl.Chunk, args []impl.Value, fuel int, depth int) impl.Outcome {
	s := newSim(c, args, fuel, depth)
	for s.out == nil {
		s.step()
	}
	return *s.out
}

func newSim(c impl.Chunk, args []impl.Value, fuel int, depth int) *sim {
	s := &sim{c: c, w: wanted{uses: usesOfTable}, fuel: fuel, depth: depth}
	bad := !impl.WellFormed(c) || len(args) > impl.MaxArgs || fuel < 0 || fuel > impl.MaxFuel || depth < 1 || depth > impl.MaxDepth
	var values []simValue
	for _, v := range args {
		probe := treeOf(0)
		probe.Protos[0].Consts = []impl.Value{v}
		bad = bad || !impl.WellFormed(probe)
		values = append(values, simOf(v))
	}
	if bad {
		s.out = &impl.Outcome{Kind: impl.OutBad}
		return s
	}
	s.main = &simThread{state: "running", begun: true}
	s.threads = []*simThread{s.main}
	s.now = s.main
	if len(c.Protos[0].Ups) > 0 {
		s.wrong()
		return s
	}
	s.push(s.main, &simClosure{}, values)
	return s
}

func (s *sim) wrong() {
	s.out = &impl.Outcome{Kind: impl.OutWrong, Steps: s.steps}
}

func (s *sim) push(th *simThread, body *simClosure, args []simValue) {
	p := s.c.Protos[body.proto]
	f := &simFrame{body: body, regs: make([]simValue, p.Regs), shared: map[int]*simCell{}}
	for k, v := range args {
		if k < p.Params {
			f.regs[k] = v
		} else if p.Vararg {
			f.extra = append(f.extra, v)
		}
	}
	th.frames = append(th.frames, f)
}

// crowded says whether all threads together have depth frames.
func (s *sim) crowded() bool {
	n := 0
	for _, th := range s.threads {
		n += len(th.frames)
	}
	return n >= s.depth
}

func (f *simFrame) get(r int) simValue {
	if c := f.shared[r]; c != nil {
		return c.value
	}
	return f.regs[r]
}

func (f *simFrame) set(r int, v simValue) {
	if c := f.shared[r]; c != nil {
		c.value = v
		return
	}
	f.regs[r] = v
}

func shownValues(list []simValue) []impl.Value {
	var out []impl.Value
	for _, v := range list {
		if v.kind > impl.KText {
			v = simValue{kind: v.kind}
		}
		out = append(out, impl.Value{Kind: v.kind, Num: v.num, Text: v.text})
	}
	return out
}

// fail ends the running thread.
func (s *sim) fail(code int, values ...simValue) {
	th := s.now
	th.state, th.frames = "dead", nil
	if th == s.main {
		s.out = &impl.Outcome{Kind: impl.OutError, Err: code, Values: shownValues(values), Steps: s.steps}
		return
	}
	if code != impl.ErrUser {
		values = []simValue{simInt(int64(code))}
	}
	s.back(th, append([]simValue{simBool(false)}, values...))
}

// back lets the resumer run on and gives it the values.
func (s *sim) back(th *simThread, values []simValue) {
	s.now, th.resumer = th.resumer, nil
	s.now.state = "running"
	s.give(values)
}

// give is for the running thread's frame on top.
func (s *sim) give(values []simValue) {
	f := s.now.frames[len(s.now.frames)-1]
	count := f.instr.C
	if f.instr.Op == impl.OpVararg {
		count = f.instr.B
	}
	if count != impl.Open {
		for k := range count {
			v := simValue{}
			if k < len(values) {
				v = values[k]
			}
			f.set(f.instr.A+k, v)
		}
		return
	}
	if len(values) > impl.MaxOpen {
		s.fail(impl.ErrStack)
		return
	}
	f.isOpen, f.openAt, f.open = true, f.instr.A, append([]simValue{}, values...)
}

func (s *sim) step() {
	f := s.now.frames[len(s.now.frames)-1]
	p := s.c.Protos[f.body.proto]
	if f.pc < 0 || f.pc >= len(p.Code) {
		s.wrong()
		return
	}
	if s.steps == s.fuel {
		s.out = &impl.Outcome{Kind: impl.OutFuel, Steps: s.steps}
		return
	}
	s.steps++
	f.instr = impl.Unpack(p.Code[f.pc])
	f.pc++
	if !s.there(f, p) {
		s.wrong()
		return
	}
	values := s.values(f)
	f.isOpen = false
	s.do(f, f.instr, values)
}

// there looks at all that is used, the upvalues of a closure's child with it.
func (s *sim) there(f *simFrame, p impl.Proto) bool {
	i := f.instr
	if i.Op > 33 {
		return false
	}
	for _, r := range s.w.registers(i) {
		if r >= p.Regs {
			return false
		}
	}
	if i.Op == impl.OpLoadK && (i.S < 0 || i.S >= len(p.Consts)) {
		return false
	}
	if (i.Op == impl.OpGetUp || i.Op == impl.OpSetUp) && i.B >= len(p.Ups) {
		return false
	}
	if i.Op == impl.OpClosure && (i.S < 0 || i.S >= p.Kids || !s.upsThere(p, s.kid(f, i.S))) {
		return false
	}
	from := s.w.takes(i)
	if from >= 0 {
		return f.isOpen && f.openAt >= from
	}
	return !f.isOpen
}

func (s *sim) kid(f *simFrame, child int) int {
	at := f.body.proto + 1
	for range child {
		at = impl.End(s.c, at)
	}
	return at
}

func (s *sim) upsThere(p impl.Proto, kid int) bool {
	for _, u := range s.c.Protos[kid].Ups {
		if u.Stack && u.Index >= p.Regs || !u.Stack && u.Index >= len(p.Ups) {
			return false
		}
	}
	return true
}

// values are those of an instruction that has some.
func (s *sim) values(f *simFrame) []simValue {
	i := f.instr
	first := i.A
	switch i.Op {
	case impl.OpCall, impl.OpResume:
		first = i.A + 1
	case impl.OpYield, impl.OpReturn:
	default:
		return nil
	}
	var out []simValue
	if i.B != impl.Open {
		for k := range i.B {
			out = append(out, f.get(first+k))
		}
		return out
	}
	for r := first; r < f.openAt; r++ {
		out = append(out, f.get(r))
	}
	return append(out, f.open...)
}

// make counts things; false if there would be too many.
func (s *sim) make(n int) bool {
	if s.made+n > impl.MaxCells {
		s.fail(impl.ErrMemory)
		return false
	}
	s.made += n
	return true
}

func (s *sim) do(f *simFrame, i impl.Instr, values []simValue) {
	switch i.Op {
	case impl.OpCall, impl.OpReturn, impl.OpCreate, impl.OpResume, impl.OpYield, impl.OpError, impl.OpStatus:
		s.doThreads(f, i, values)
	case impl.OpNewTable, impl.OpGetTable, impl.OpSetTable, impl.OpClosure, impl.OpClose, impl.OpGetUp, impl.OpSetUp:
		s.doThings(f, i)
	case impl.OpJump, impl.OpEq, impl.OpLess, impl.OpTest, impl.OpForPrep, impl.OpForLoop:
		s.doFlow(f, i)
	case impl.OpMove:
		f.set(i.A, f.get(i.B))
	case impl.OpLoadK:
		f.set(i.A, simOf(s.c.Protos[f.body.proto].Consts[i.S]))
	case impl.OpLoadNil:
		for r := i.A; r <= i.A+i.B; r++ {
			f.set(r, simValue{})
		}
	case impl.OpLoadBool:
		f.set(i.A, simBool(i.B != 0))
	case impl.OpVararg:
		s.give(f.extra)
	default:
		s.doSums(f, i)
	}
}

func (s *sim) doSums(f *simFrame, i impl.Instr) {
	b := f.get(i.B)
	switch i.Op {
	case impl.OpNot:
		f.set(i.A, simBool(b.untrue()))
		return
	case impl.OpNeg:
		if b.kind != impl.KInt {
			s.fail(impl.ErrType)
			return
		}
		f.set(i.A, simInt(-b.num))
		return
	case impl.OpLen:
		s.doLen(f, i, b)
		return
	}
	c := f.get(i.C)
	if i.Op == impl.OpConcat {
		s.doConcat(f, i, b, c)
		return
	}
	if b.kind != impl.KInt || c.kind != impl.KInt {
		s.fail(impl.ErrType)
		return
	}
	if (i.Op == impl.OpDiv || i.Op == impl.OpMod) && c.num == 0 {
		s.fail(impl.ErrDivide)
		return
	}
	f.set(i.A, simInt(simSum(i.Op, b.num, c.num)))
}

// simSum does not lean on what Go says of the least integer and -1.
func simSum(op int, b int64, c int64) int64 {
	switch op {
	case impl.OpAdd:
		return int64(uint64(b) + uint64(c))
	case impl.OpSub:
		return int64(uint64(b) - uint64(c))
	case impl.OpMul:
		return int64(uint64(b) * uint64(c))
	case impl.OpDiv:
		if c == -1 {
			return int64(-uint64(b))
		}
		return b / c
	}
	if c == -1 {
		return 0
	}
	return b % c
}

func (v simValue) untrue() bool {
	return v.kind == impl.KNil || v.kind == impl.KBool && v.num == 0
}

func (s *sim) doLen(f *simFrame, i impl.Instr, b simValue) {
	switch b.kind {
	case impl.KText:
		f.set(i.A, simInt(int64(len(b.text))))
	case impl.KTable:
		n := int64(0)
		for b.table.entries[simInt(n+1)] != (simValue{}) {
			n++
		}
		f.set(i.A, simInt(n))
	default:
		s.fail(impl.ErrType)
	}
}

func (s *sim) doConcat(f *simFrame, i impl.Instr, b simValue, c simValue) {
	text := ""
	for _, v := range []simValue{b, c} {
		switch v.kind {
		case impl.KText:
			text += v.text
		case impl.KInt:
			text += strconv.FormatInt(v.num, 10)
		default:
			s.fail(impl.ErrType)
			return
		}
	}
	if len(text) > impl.MaxText {
		s.fail(impl.ErrMemory)
		return
	}
	f.set(i.A, simText(text))
}

func (s *sim) doThings(f *simFrame, i impl.Instr) {
	switch i.Op {
	case impl.OpGetUp:
		f.set(i.A, f.body.cells[i.B].value)
	case impl.OpSetUp:
		f.body.cells[i.B].value = f.get(i.A)
	case impl.OpNewTable:
		if s.make(1) {
			f.set(i.A, simValue{kind: impl.KTable, table: &simTable{entries: map[simValue]simValue{}}})
		}
	case impl.OpGetTable:
		t := f.get(i.B).table
		if t == nil {
			s.fail(impl.ErrType)
			return
		}
		f.set(i.A, t.entries[f.get(i.C)])
	case impl.OpSetTable:
		s.doSetTable(f, i)
	case impl.OpClose:
		for r, c := range f.shared {
			if r >= i.A {
				f.regs[r] = c.value
				delete(f.shared, r)
			}
		}
	case impl.OpClosure:
		s.doClosure(f, i)
	}
}

func (s *sim) doSetTable(f *simFrame, i impl.Instr) {
	t, key, v := f.get(i.A).table, f.get(i.B), f.get(i.C)
	if t == nil {
		s.fail(impl.ErrType)
		return
	}
	if key.kind == impl.KNil {
		s.fail(impl.ErrKey)
		return
	}
	if v.kind == impl.KNil {
		delete(t.entries, key)
		return
	}
	if _, ok := t.entries[key]; !ok && !s.make(1) {
		return
	}
	t.entries[key] = v
}

func (s *sim) doClosure(f *simFrame, i impl.Instr) {
	kid := s.kid(f, i.S)
	fresh := map[int]int{}
	for _, u := range s.c.Protos[kid].Ups {
		if u.Stack && f.shared[u.Index] == nil {
			fresh[u.Index] = 1
		}
	}
	if !s.make(1 + len(fresh)) {
		return
	}
	made := &simClosure{proto: kid}
	for _, u := range s.c.Protos[kid].Ups {
		if !u.Stack {
			made.cells = append(made.cells, f.body.cells[u.Index])
			continue
		}
		if f.shared[u.Index] == nil {
			f.shared[u.Index] = &simCell{value: f.regs[u.Index]}
		}
		made.cells = append(made.cells, f.shared[u.Index])
	}
	f.set(i.A, simValue{kind: impl.KClosure, closure: made})
}

func (s *sim) doFlow(f *simFrame, i impl.Instr) {
	yes, flag := false, i.A
	switch i.Op {
	case impl.OpJump:
		f.pc += i.S
		return
	case impl.OpForPrep, impl.OpForLoop:
		s.doLoop(f, i)
		return
	case impl.OpEq:
		yes = f.get(i.B) == f.get(i.C)
	case impl.OpLess:
		b, c := f.get(i.B), f.get(i.C)
		if b.kind != c.kind || b.kind != impl.KInt && b.kind != impl.KText {
			s.fail(impl.ErrType)
			return
		}
		yes = b.num < c.num || b.kind == impl.KText && strings.Compare(b.text, c.text) < 0
	case impl.OpTest:
		yes, flag = !f.get(i.A).untrue(), i.C
	}
	if flag == 0 && yes || flag != 0 && !yes {
		f.pc++
	}
}

func (s *sim) doLoop(f *simFrame, i impl.Instr) {
	at, last, step := f.get(i.A), f.get(i.A+1), f.get(i.A+2)
	if at.kind != impl.KInt || last.kind != impl.KInt || step.kind != impl.KInt || step.num == 0 {
		s.fail(impl.ErrType)
		return
	}
	fits := func(n int64) bool {
		return step.num > 0 && n <= last.num || step.num < 0 && n >= last.num
	}
	if i.Op == impl.OpForPrep {
		if fits(at.num) {
			f.set(i.A+3, at)
		} else {
			f.pc += i.S
		}
		return
	}
	sum := at.num + step.num
	around := step.num > 0 && sum < at.num || step.num < 0 && sum > at.num
	if !around && fits(sum) {
		f.set(i.A, simInt(sum))
		f.set(i.A+3, simInt(sum))
		f.pc += i.S
	}
}

func (s *sim) doThreads(f *simFrame, i impl.Instr, values []simValue) {
	th := s.now
	switch i.Op {
	case impl.OpCall:
		body := f.get(i.A).closure
		if body == nil {
			s.fail(impl.ErrType)
		} else if s.crowded() {
			s.fail(impl.ErrStack)
		} else {
			s.push(th, body, values)
		}
	case impl.OpReturn:
		s.doReturn(th, values)
	case impl.OpCreate:
		body := f.get(i.B).closure
		if body == nil {
			s.fail(impl.ErrType)
		} else if s.make(1) {
			made := &simThread{state: "suspended", body: body}
			s.threads = append(s.threads, made)
			f.set(i.A, simValue{kind: impl.KThread, thread: made})
		}
	case impl.OpResume:
		s.doResume(f.get(i.A).thread, values)
	case impl.OpYield:
		if th == s.main {
			s.fail(impl.ErrYield)
			return
		}
		th.state = "suspended"
		s.back(th, append([]simValue{simBool(true)}, values...))
	case impl.OpStatus:
		other := f.get(i.B).thread
		if other == nil {
			s.fail(impl.ErrType)
			return
		}
		f.set(i.A, simText(other.state))
	case impl.OpError:
		s.fail(impl.ErrUser, f.get(i.A))
	}
}

func (s *sim) doReturn(th *simThread, values []simValue) {
	th.frames = th.frames[:len(th.frames)-1]
	if len(th.frames) > 0 {
		s.give(values)
		return
	}
	th.state = "dead"
	if th == s.main {
		s.out = &impl.Outcome{Kind: impl.OutValues, Values: shownValues(values), Steps: s.steps}
		return
	}
	s.back(th, append([]simValue{simBool(true)}, values...))
}

func (s *sim) doResume(other *simThread, values []simValue) {
	if other == nil {
		s.fail(impl.ErrType)
		return
	}
	if other.state != "suspended" {
		s.fail(impl.ErrDead)
		return
	}
	if !other.begun && s.crowded() {
		s.fail(impl.ErrStack)
		return
	}
	s.now.state, other.state = "normal", "running"
	other.resumer, s.now = s.now, other
	if !other.begun {
		other.begun = true
		s.push(other, other.body, values)
		return
	}
	s.give(values)
}

// told writes an outcome in one line.
func told(o impl.Outcome) string {
	var out []string
	switch o.Kind {
	case impl.OutValues:
		out = append(out, "values")
	case impl.OutError:
		out = append(out, "error", strconv.Itoa(o.Err))
	case impl.OutFuel:
		out = append(out, "fuel")
	case impl.OutWrong:
		out = append(out, "wrong")
	case impl.OutBad:
		out = append(out, "bad")
	default:
		out = append(out, "kind", strconv.Itoa(o.Kind))
	}
	if o.Kind != impl.OutError && o.Err != 0 {
		out = append(out, "with Err", strconv.Itoa(o.Err))
	}
	for _, v := range o.Values {
		out = append(out, toldValue(v))
	}
	return strings.Join(out, " ") + " / " + strconv.Itoa(o.Steps)
}

func toldValue(v impl.Value) string {
	switch v {
	case impl.Value{}:
		return "nil"
	case impl.Value{Kind: impl.KBool}:
		return "false"
	case impl.Value{Kind: impl.KBool, Num: 1}:
		return "true"
	case impl.Value{Kind: impl.KInt, Num: v.Num}:
		return strconv.FormatInt(v.Num, 10)
	case impl.Value{Kind: impl.KText, Text: v.Text}:
		return strconv.Quote(v.Text)
	case impl.Value{Kind: impl.KTable}:
		return "table"
	case impl.Value{Kind: impl.KClosure}:
		return "closure"
	case impl.Value{Kind: impl.KThread}:
		return "thread"
	}
	return "strange value"
}

// checkExec holds Exec against the words of the document.
func checkExec(t *testing.T, c impl.Chunk, args []impl.Value, fuel int, depth int) impl.Outcome {
	t.Helper()
	got, want := impl.Exec(c, args, fuel, depth), wantExec(c, args, fuel, depth)
	if told(got) != told(want) {
		t.Fatalf("Exec with args %v, fuel %d and depth %d gives\n%s; want\n%s:\n%s", args, fuel, depth, told(got), told(want), shown(c))
	}
	return got
}
