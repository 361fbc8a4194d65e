package tests

import (
	"math"
	"reflect"
	"strings"
	"testing"

	"loop.example/s02979/impl"
)

// leaf is the least prototype that is well formed, with that many children.
func leaf(kids int) impl.Proto {
	return impl.Proto{Regs: 1, Kids: kids, Code: []uint32{0}}
}

// treeOf is the chunk of least prototypes with these numbers of Kids.
func treeOf(kids ...int) impl.Chunk {
	var c impl.Chunk
	for _, k := range kids {
		c.Protos = append(c.Protos, leaf(k))
	}
	return c
}

// full is a prototype in which every field holds something.
func full(kids int, mark int) impl.Proto {
	return impl.Proto{
		Params: 2,
		Vararg: true,
		Regs:   5,
		Code:   []uint32{uint32(mark), 0xffffffff, 7},
		Consts: []impl.Value{
			{Kind: impl.KNil},
			{Kind: impl.KBool, Num: 1},
			{Kind: impl.KInt, Num: int64(-mark)},
			{Kind: impl.KText, Text: "\x00\xff text"},
		},
		Ups:     []impl.Up{{Stack: true, Index: mark}, {Index: impl.MaxNumber}},
		Kids:    kids,
		Name:    "name",
		Lines:   []int{0, mark, impl.MaxNumber},
		UpNames: []string{"", "second"},
	}
}

// fullTree: 0 has the children 1, 2 and 5; 2 has 3; 3 has 4.
func fullTree() impl.Chunk {
	var c impl.Chunk
	for i, kids := range []int{3, 0, 1, 1, 0, 0} {
		c.Protos = append(c.Protos, full(kids, i+1))
	}
	return c
}

// wantTree reads a tree from the front, child by child, in another way than the
// program does. It gives the ends of the prototypes and how many are above each.
type wantTree struct {
	kids  []int
	ends  []int
	above []int
}

func (w *wantTree) read(at int, above int) (int, bool) {
	if at >= len(w.kids) || w.kids[at] < 0 {
		return 0, false
	}
	w.above[at] = above
	end := at + 1
	for k := 0; k < w.kids[at]; k++ {
		next, ok := w.read(end, above+1)
		if !ok {
			return 0, false
		}
		end = next
	}
	w.ends[at] = end
	return end, true
}

func wantTreeOf(kids []int) (*wantTree, bool) {
	w := &wantTree{kids: kids, ends: make([]int, len(kids)), above: make([]int, len(kids))}
	end, ok := w.read(0, 0)
	if !ok || end != len(kids) || len(kids) > impl.MaxProtos {
		return w, false
	}
	for _, n := range w.above {
		if n > impl.MaxDeep-1 {
			return w, false
		}
	}
	return w, true
}

// checkTree holds WellFormed, End and Strip of a chunk with these numbers of
// Kids against the reading from the front.
func checkTree(t *testing.T, kids []int) {
	t.Helper()
	c := treeOf(kids...)
	want, ok := wantTreeOf(kids)
	if got := impl.WellFormed(c); got != ok {
		t.Fatalf("WellFormed with Kids %v = %v", kids, got)
	}
	checkDumped(t, c, ok)
	checkListed(t, c, ok)
	stripped := len(impl.Strip(c).Protos)
	if ok && stripped != len(kids) || !ok && stripped != 0 {
		t.Fatalf("Strip with Kids %v has %d prototypes", kids, stripped)
	}
	for i := range kids {
		wantEnd := -1
		if ok {
			wantEnd = want.ends[i]
		}
		if got := impl.End(c, i); got != wantEnd {
			t.Fatalf("End(%d) with Kids %v = %d; want %d", i, kids, got, wantEnd)
		}
	}
	if ok {
		checkChildren(t, c)
	}
}

// checkChildren is promise 10 by its words.
func checkChildren(t *testing.T, c impl.Chunk) {
	t.Helper()
	if end := impl.End(c, 0); end != len(c.Protos) {
		t.Fatalf("the root ends at %d of %d", end, len(c.Protos))
	}
	for i, p := range c.Protos {
		at := i + 1
		for range p.Kids {
			at = impl.End(c, at)
		}
		if end := impl.End(c, i); end != at {
			t.Fatalf("prototype %d ends at %d, its last child at %d", i, end, at)
		}
	}
}

func TestEndOfChunksWithChildren(t *testing.T) {
	checkTree(t, []int{0})
	checkTree(t, []int{1, 0})
	checkTree(t, []int{2, 2, 0, 0, 0})
	checkTree(t, []int{3, 0, 1, 1, 0, 0})
	c := fullTree()
	for i, want := range []int{6, 2, 5, 5, 5, 6} {
		if got := impl.End(c, i); got != want {
			t.Errorf("End(%d) = %d; want %d", i, got, want)
		}
	}
	checkChildren(t, c)
}

func TestEndOfNumbersThatAreNoPrototype(t *testing.T) {
	c := treeOf(2, 1, 0, 0)
	for _, i := range []int{math.MinInt, -2, -1, 4, 5, impl.MaxProtos, math.MaxInt} {
		if got := impl.End(c, i); got != -1 {
			t.Errorf("End(%d) = %d", i, got)
		}
	}
	for _, i := range []int{-1, 0, 1, 2} {
		if got := impl.End(treeOf(2, 0), i); got != -1 {
			t.Errorf("End(%d) where there is no tree = %d", i, got)
		}
		if got := impl.End(impl.Chunk{}, i); got != -1 {
			t.Errorf("End(%d) of no prototypes = %d", i, got)
		}
	}
}

// TestTreesOfAllSmallKids goes through all lists of at most five numbers from -1 to 5.
func TestTreesOfAllSmallKids(t *testing.T) {
	var kids []int
	var grow func()
	grow = func() {
		checkTree(t, kids)
		if len(kids) == 5 {
			return
		}
		for k := -1; k <= 5; k++ {
			kids = append(kids, k)
			grow()
			kids = kids[:len(kids)-1]
		}
	}
	grow()
}

func TestKidsNearTheEndsOfInt(t *testing.T) {
	for _, k := range []int{math.MinInt, math.MinInt + 1, -2, impl.MaxProtos, impl.MaxNumber, math.MaxInt32, math.MaxInt - 1, math.MaxInt} {
		checkTree(t, []int{k})
		checkTree(t, []int{k, 0})
		checkTree(t, []int{1, k})
		checkTree(t, []int{2, k, 0})
		checkTree(t, []int{2, 0, k})
		checkTree(t, []int{k, 0, k})
	}
	// Sums of these come out right if they are taken modulo 2 to the 64.
	checkTree(t, []int{math.MaxInt, math.MaxInt, 4, 0, 0})
	checkTree(t, []int{3, -1, 0})
	checkTree(t, []int{2, -1, 1, 0})
}

// chain has n prototypes, each the child of the one before; the last has ends more below it.
func chain(n int, ends int) []int {
	kids := make([]int, n+ends)
	for i := range n - 1 {
		kids[i] = 1
	}
	kids[n-1] = ends
	return kids
}

func TestTreesOfAllDepths(t *testing.T) {
	for n := 1; n <= impl.MaxDeep+2; n++ {
		checkTree(t, chain(n, 0))
		checkTree(t, chain(n, 3))
	}
	if !impl.WellFormed(treeOf(chain(impl.MaxDeep, 0)...)) {
		t.Error("MaxDeep - 1 above the last prototype")
	}
	if impl.WellFormed(treeOf(chain(impl.MaxDeep+1, 0)...)) {
		t.Error("MaxDeep above the last prototype")
	}
}

// The deep branch may stand behind, before or between others, and a prototype
// behind a deep one is not deep for that.
func TestDepthIsCountedByBranch(t *testing.T) {
	for _, n := range []int{impl.MaxDeep - 2, impl.MaxDeep - 1, impl.MaxDeep} {
		deep := chain(n, 0)
		kids := append([]int{3}, deep...)
		kids = append(kids, 0)
		kids = append(kids, deep...)
		checkTree(t, kids)
		checkTree(t, append([]int{2, 0}, deep...))
		checkTree(t, append(append([]int{2}, deep...), 0))
	}
}

func TestManyPrototypes(t *testing.T) {
	for _, n := range []int{impl.MaxProtos - 1, impl.MaxProtos, impl.MaxProtos + 1, 3 * impl.MaxProtos} {
		kids := make([]int, n)
		kids[0] = n - 1
		checkTree(t, kids)
		pairs := make([]int, n)
		for i := 0; i+2 < n; i += 2 {
			pairs[i] = 2
		}
		checkTree(t, pairs)
	}
	wide := func(n int) impl.Chunk {
		kids := make([]int, n)
		kids[0] = n - 1
		return treeOf(kids...)
	}
	if !impl.WellFormed(wide(impl.MaxProtos)) {
		t.Error("MaxProtos prototypes")
	}
	if impl.WellFormed(wide(impl.MaxProtos + 1)) {
		t.Error("one more than MaxProtos")
	}
}

// numbers gives numbers below n by a fixed rule, the same at every run.
func numbers(seed uint32) func(n int) int {
	return func(n int) int {
		seed = seed*1664525 + 1013904223
		return int(seed>>8) % n
	}
}

// TestTreesOfManyShapes makes trees by a fixed rule of steps down and up, and
// spoils each in one place.
func TestTreesOfManyShapes(t *testing.T) {
	next := numbers(1)
	for range 60 {
		n := 1 + next(impl.MaxProtos)
		kids := []int{0}
		path := []int{0}
		for len(kids) < n {
			path = path[:1+next(len(path))]
			kids[path[len(path)-1]]++
			path = append(path, len(kids))
			kids = append(kids, 0)
		}
		checkTree(t, kids)
		spoiled := append([]int(nil), kids...)
		spoiled[next(n)] += 1 - 2*next(2)
		checkTree(t, spoiled)
	}
}

// limit is a change of a prototype, and whether it stays well formed.
type limit struct {
	name   string
	change func(p *impl.Proto)
	ok     bool
}

// checkLimits tries each change at every prototype of some chunks, so that none is overlooked.
func checkLimits(t *testing.T, limits []limit) {
	t.Helper()
	for _, l := range limits {
		for _, kids := range [][]int{{0}, {2, 1, 0, 0}} {
			for i := range kids {
				c := treeOf(kids...)
				l.change(&c.Protos[i])
				if got := impl.WellFormed(c); got != l.ok {
					t.Errorf("%s, prototype %d of %d: %v", l.name, i, len(kids), got)
				}
				checkDumped(t, c, l.ok)
				checkListed(t, c, l.ok)
				if end := impl.End(c, 0); l.ok != (end == len(kids)) || !l.ok && end != -1 {
					t.Errorf("%s, prototype %d of %d: the root ends at %d", l.name, i, len(kids), end)
				}
				if n := len(impl.Strip(c).Protos); l.ok != (n == len(kids)) || !l.ok && n != 0 {
					t.Errorf("%s, prototype %d of %d: %d stripped ones", l.name, i, len(kids), n)
				}
			}
		}
	}
}

func TestLimitsOfParamsAndRegs(t *testing.T) {
	var limits []limit
	add := func(name string, params int, regs int, ok bool) {
		limits = append(limits, limit{name, func(p *impl.Proto) { p.Params, p.Regs = params, regs }, ok})
	}
	add("Params 0", 0, 3, true)
	add("Params Regs", 3, 3, true)
	add("Params one more than Regs", 4, 3, false)
	add("Params -1", -1, 3, false)
	add("the least Params", math.MinInt, 3, false)
	add("the greatest Params", math.MaxInt, 3, false)
	add("Regs 1", 1, 1, true)
	add("Regs 0", 0, 0, false)
	add("Regs -1", 0, -1, false)
	add("Regs -1 and Params -1", -1, -1, false)
	add("the least Regs", 0, math.MinInt, false)
	add("Regs MaxRegs", impl.MaxRegs, impl.MaxRegs, true)
	add("Regs above MaxRegs", 0, impl.MaxRegs+1, false)
	add("Regs and Params above MaxRegs", impl.MaxRegs+1, impl.MaxRegs+1, false)
	add("the greatest Regs", 0, math.MaxInt, false)
	checkLimits(t, limits)
}

func TestLimitsOfLists(t *testing.T) {
	var limits []limit
	add := func(name string, change func(p *impl.Proto), ok bool) {
		limits = append(limits, limit{name, change, ok})
	}
	add("no Code", func(p *impl.Proto) { p.Code = nil }, false)
	add("empty Code", func(p *impl.Proto) { p.Code = []uint32{} }, false)
	add("a word", func(p *impl.Proto) { p.Code = []uint32{math.MaxUint32} }, true)
	add("MaxCode words", func(p *impl.Proto) { p.Code = make([]uint32, impl.MaxCode) }, true)
	add("a word too many", func(p *impl.Proto) { p.Code = make([]uint32, impl.MaxCode+1) }, false)
	add("empty lists", func(p *impl.Proto) {
		p.Consts, p.Ups, p.Lines, p.UpNames = []impl.Value{}, []impl.Up{}, []int{}, []string{}
	}, true)
	add("MaxConsts Consts", func(p *impl.Proto) { p.Consts = make([]impl.Value, impl.MaxConsts) }, true)
	add("a Const too many", func(p *impl.Proto) { p.Consts = make([]impl.Value, impl.MaxConsts+1) }, false)
	add("MaxUps Ups", func(p *impl.Proto) { p.Ups = make([]impl.Up, impl.MaxUps) }, true)
	add("an Up too many", func(p *impl.Proto) { p.Ups = make([]impl.Up, impl.MaxUps+1) }, false)
	checkLimits(t, limits)
}

func TestLimitsOfUps(t *testing.T) {
	var limits []limit
	add := func(index int, ok bool) {
		for _, stack := range []bool{false, true} {
			limits = append(limits, limit{"an Up", func(p *impl.Proto) {
				p.Ups = []impl.Up{{}, {}, {Stack: stack, Index: index}}
			}, ok})
		}
	}
	add(0, true)
	add(impl.MaxRegs+1, true)
	add(impl.MaxNumber, true)
	add(impl.MaxNumber+1, false)
	add(-1, false)
	add(math.MinInt, false)
	add(math.MaxInt, false)
	checkLimits(t, limits)
}

func TestLimitsOfDebugTexts(t *testing.T) {
	most, more := strings.Repeat("\xff", impl.MaxText), strings.Repeat("x", impl.MaxText+1)
	var limits []limit
	add := func(name string, change func(p *impl.Proto), ok bool) {
		limits = append(limits, limit{name, func(p *impl.Proto) {
			p.Code, p.Ups = make([]uint32, 3), make([]impl.Up, 2)
			change(p)
		}, ok})
	}
	add("all empty", func(p *impl.Proto) {}, true)
	add("a Name", func(p *impl.Proto) { p.Name = most }, true)
	add("a Name too long", func(p *impl.Proto) { p.Name = more }, false)
	for n := range 6 {
		add("Lines", func(p *impl.Proto) { p.Lines = make([]int, n) }, n == 0 || n == 3)
		add("UpNames", func(p *impl.Proto) { p.UpNames = make([]string, n) }, n == 0 || n == 2)
	}
	add("UpNames of no Ups", func(p *impl.Proto) { p.Ups, p.UpNames = nil, []string{""} }, false)
	add("the greatest line", func(p *impl.Proto) { p.Lines = []int{0, 0, impl.MaxNumber} }, true)
	for _, n := range []int{math.MinInt, -1, impl.MaxNumber + 1, math.MaxInt} {
		add("a wrong last line", func(p *impl.Proto) { p.Lines = []int{0, 0, n} }, false)
		add("a wrong first line", func(p *impl.Proto) { p.Lines = []int{n, 0, 0} }, false)
	}
	add("long UpNames", func(p *impl.Proto) { p.UpNames = []string{most, most} }, true)
	add("a last of UpNames too long", func(p *impl.Proto) { p.UpNames = []string{"", more} }, false)
	add("a first of UpNames too long", func(p *impl.Proto) { p.UpNames = []string{more, ""} }, false)
	checkLimits(t, limits)
}

func TestPlainValues(t *testing.T) {
	most, more := strings.Repeat("\x00", impl.MaxText), strings.Repeat("x", impl.MaxText+1)
	var limits []limit
	add := func(v impl.Value, ok bool) {
		limits = append(limits, limit{"a Const", func(p *impl.Proto) { p.Consts = []impl.Value{{}, v} }, ok})
		limits = append(limits, limit{"a first Const", func(p *impl.Proto) { p.Consts = []impl.Value{v, {}} }, ok})
	}
	for _, n := range []int64{math.MinInt64, -1, 0, 1, 2, math.MaxInt64} {
		add(impl.Value{Kind: impl.KNil, Num: n}, n == 0)
		add(impl.Value{Kind: impl.KBool, Num: n}, n == 0 || n == 1)
		add(impl.Value{Kind: impl.KInt, Num: n}, true)
		add(impl.Value{Kind: impl.KText, Num: n, Text: "text"}, n == 0)
	}
	for _, kind := range []int{impl.KNil, impl.KBool, impl.KInt} {
		add(impl.Value{Kind: kind, Text: "\x00"}, false)
	}
	add(impl.Value{Kind: impl.KText}, true)
	add(impl.Value{Kind: impl.KText, Text: most}, true)
	add(impl.Value{Kind: impl.KText, Text: more}, false)
	for _, kind := range []int{math.MinInt, -1, impl.KTable, impl.KClosure, impl.KThread, impl.KThread + 1, math.MaxInt} {
		add(impl.Value{Kind: kind}, false)
	}
	checkLimits(t, limits)
}

// sameChunk holds chunks against each other; the empty list and the nil list are the same.
func sameChunk(a impl.Chunk, b impl.Chunk) bool {
	return reflect.DeepEqual(copyChunk(a), copyChunk(b))
}

// copyChunk is a chunk of new lists, those that are empty nil.
func copyChunk(c impl.Chunk) impl.Chunk {
	var out impl.Chunk
	for _, p := range c.Protos {
		p.Code = append([]uint32(nil), p.Code...)
		p.Consts = append([]impl.Value(nil), p.Consts...)
		p.Ups = append([]impl.Up(nil), p.Ups...)
		p.Lines = append([]int(nil), p.Lines...)
		p.UpNames = append([]string(nil), p.UpNames...)
		out.Protos = append(out.Protos, p)
	}
	return out
}

func withoutDebug(c impl.Chunk) impl.Chunk {
	out := copyChunk(c)
	for i := range out.Protos {
		out.Protos[i].Name, out.Protos[i].Lines, out.Protos[i].UpNames = "", nil, nil
	}
	return out
}

func TestStripKeepsAllButDebugTexts(t *testing.T) {
	for _, c := range []impl.Chunk{fullTree(), treeOf(0), treeOf(2, 1, 0, 0)} {
		got := impl.Strip(c)
		if want := withoutDebug(c); !sameChunk(got, want) {
			t.Errorf("Strip gives\n%v\nwant\n%v", got, want)
		}
		if !impl.WellFormed(got) {
			t.Error("what Strip gives is not well formed")
		}
		if twice := impl.Strip(got); !sameChunk(twice, got) {
			t.Errorf("Strip of Strip gives\n%v", twice)
		}
		for i := range c.Protos {
			if impl.End(got, i) != impl.End(c, i) {
				t.Errorf("prototype %d ends elsewhere", i)
			}
		}
	}
}

func TestStripOfWhatIsNotWellFormed(t *testing.T) {
	wrong := fullTree()
	wrong.Protos[5].Lines = wrong.Protos[5].Lines[:1]
	for _, c := range []impl.Chunk{{}, {Protos: []impl.Proto{}}, treeOf(1), treeOf(0, 0), treeOf(-1), wrong} {
		if got := impl.Strip(c); len(got.Protos) != 0 {
			t.Errorf("Strip gives %v", got)
		}
	}
}

func TestArgumentsAreNotChanged(t *testing.T) {
	c, kept := fullTree(), fullTree()
	impl.WellFormed(c)
	for i := -1; i <= len(c.Protos); i++ {
		impl.End(c, i)
	}
	impl.Strip(c)
	if !reflect.DeepEqual(c, kept) {
		t.Errorf("the argument is now %v", c)
	}
}

// scribble writes over all of a chunk's lists, up to their capacity.
func scribble(c impl.Chunk) {
	for i := range c.Protos {
		p := &c.Protos[i]
		p.Code, p.Consts, p.Ups = p.Code[:cap(p.Code)], p.Consts[:cap(p.Consts)], p.Ups[:cap(p.Ups)]
		for k := range p.Code {
			p.Code[k] = 0xdead
		}
		for k := range p.Consts {
			p.Consts[k] = impl.Value{Kind: -7}
		}
		for k := range p.Ups {
			p.Ups[k] = impl.Up{Index: -7}
		}
		for k := range p.Lines {
			p.Lines[k] = -7
		}
		for k := range p.UpNames {
			p.UpNames[k] = "scribble"
		}
		p.Params, p.Regs, p.Kids, p.Name = -7, -7, -7, "scribble"
	}
}

func TestStripSharesNoMemory(t *testing.T) {
	c := fullTree()
	scribble(impl.Strip(c))
	if !reflect.DeepEqual(c, fullTree()) {
		t.Errorf("writing into the answer changes the argument: %v", c)
	}
	got := impl.Strip(c)
	scribble(c)
	if want := withoutDebug(fullTree()); !sameChunk(got, want) {
		t.Errorf("writing into the argument changes the answer: %v", got)
	}
	// A chunk without debug texts must be copied too.
	bare := withoutDebug(fullTree())
	scribble(impl.Strip(bare))
	if !sameChunk(bare, withoutDebug(fullTree())) {
		t.Errorf("writing into the answer changes the argument without debug texts: %v", bare)
	}
}

// Lists of one prototype may share memory in the argument; in the answer each stands alone.
func TestStrippedListsStandAlone(t *testing.T) {
	p := full(0, 1)
	p.Kids = 1
	q := p
	q.Kids = 0
	got := impl.Strip(impl.Chunk{Protos: []impl.Proto{p, q}})
	want := withoutDebug(impl.Chunk{Protos: []impl.Proto{p, q}})
	scribble(impl.Chunk{Protos: got.Protos[:1]})
	if !sameChunk(impl.Chunk{Protos: got.Protos[1:]}, impl.Chunk{Protos: want.Protos[1:]}) {
		t.Errorf("the second prototype is now %v", got.Protos[1])
	}
}

const allNames = "move loadk loadnil loadbool getup setup newtable gettable settable add sub mul div mod concat not neg len jump eq less test call return vararg closure close forprep forloop create resume yield status error"

func TestNamesOfOperations(t *testing.T) {
	names := strings.Fields(allNames)
	if len(names) != 34 {
		t.Fatalf("%d names", len(names))
	}
	for op, name := range names {
		if got := impl.OpName(op); got != name {
			t.Errorf("OpName(%d) = %q; want %q", op, got, name)
		}
		if got := impl.OpCode(name); got != op {
			t.Errorf("OpCode(%q) = %d; want %d", name, got, op)
		}
	}
	for _, op := range []int{math.MinInt, -34, -1, 34, 35, 63, 64, math.MaxInt} {
		if got := impl.OpName(op); got != "" {
			t.Errorf("OpName(%d) = %q", op, got)
		}
	}
	for _, name := range []string{"", " ", "Move", "MOVE", "mov", "moves", " move", "move ", "move\n", "move loadk", "word", "proto", "\x00"} {
		if got := impl.OpCode(name); got != -1 {
			t.Errorf("OpCode(%q) = %d", name, got)
		}
	}
}

func TestOperationsAreNumberedAsNamed(t *testing.T) {
	for name, op := range map[string]int{
		"move": impl.OpMove, "loadk": impl.OpLoadK, "gettable": impl.OpGetTable, "len": impl.OpLen,
		"jump": impl.OpJump, "call": impl.OpCall, "closure": impl.OpClosure, "forprep": impl.OpForPrep,
		"yield": impl.OpYield, "error": impl.OpError,
	} {
		if got := impl.OpCode(name); got != op {
			t.Errorf("OpCode(%q) = %d; want %d", name, got, op)
		}
	}
}
