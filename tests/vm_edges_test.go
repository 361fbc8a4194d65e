package tests

import (
	"math"
	"reflect"
	"runtime"
	"slices"
	"strconv"
	"strings"
	"sync"
	"testing"
	"time"

	"loop.example/s02979/impl"
)

func TestWrongArgumentsOfExec(t *testing.T) {
	c := chunkOf("proto 0 2 0 vararg; vararg 0 open 0; return 0 open 0")
	long := strings.Repeat("x", impl.MaxText+1)
	check := func(what string, c impl.Chunk, args []impl.Value, fuel int, depth int, bad bool) {
		t.Helper()
		o := checkExec(t, c, args, fuel, depth)
		if bad && !reflect.DeepEqual(o, impl.Outcome{Kind: impl.OutBad}) || !bad && o.Kind == impl.OutBad {
			t.Errorf("%s: %s", what, told(o))
		}
	}
	check("all right", c, nil, 5, 5, false)
	check("MaxArgs", c, make([]impl.Value, impl.MaxArgs), 5, 5, false)
	check("MaxArgs and one more", c, make([]impl.Value, impl.MaxArgs+1), 5, 5, true)
	for fuel, bad := range map[int]bool{math.MinInt: true, -1: true, 0: false, 1: false, impl.MaxFuel: false, impl.MaxFuel + 1: true, math.MaxInt: true} {
		check("fuel "+strconv.Itoa(fuel), c, nil, fuel, 5, bad)
	}
	for depth, bad := range map[int]bool{math.MinInt: true, -1: true, 0: true, 1: false, impl.MaxDepth: false, impl.MaxDepth + 1: true, math.MaxInt: true} {
		check("depth "+strconv.Itoa(depth), c, nil, 5, depth, bad)
	}
	for _, v := range []impl.Value{
		{Kind: impl.KTable}, {Kind: impl.KClosure}, {Kind: impl.KThread}, {Kind: -1}, {Kind: 7}, {Kind: math.MaxInt},
		{Num: 1}, {Text: "x"}, {Kind: impl.KBool, Num: 2}, {Kind: impl.KBool, Num: -1}, {Kind: impl.KBool, Text: "x"},
		{Kind: impl.KInt, Text: "x"}, {Kind: impl.KText, Num: 1}, {Kind: impl.KText, Text: long},
	} {
		check("no plain value", c, []impl.Value{v}, 5, 5, true)
		check("no plain value at the end", c, []impl.Value{{}, v}, 5, 5, true)
		check("no plain value at the beginning", c, []impl.Value{v, {}}, 5, 5, true)
	}
	check("a text of MaxText", c, plainValues(long[1:]), 5, 5, false)
	for _, w := range []impl.Chunk{{}, treeOf(1), treeOf(0, 0), treeOf(-1)} {
		check("not well formed", w, nil, 5, 5, true)
	}
	wrong := chunkOf("proto 0 2 1; return 0 0 0; proto 0 0 0; return 0 0 0")
	check("a child that is not well formed", wrong, nil, 5, 5, true)
	ups := chunkOf("proto 0 2 0; up stack 0; return 0 0 0")
	check("a root with Ups and wrong fuel", ups, nil, -1, 5, true)
	check("a root with Ups and wrong depth", ups, nil, 1, 0, true)
}

func TestRootWithUps(t *testing.T) {
	for _, up := range []string{"up stack 0", "up cell 0", "up cell 99"} {
		for _, fuel := range []int{0, 1, 5} {
			checkRunIn(t, up, "proto 0 2 0;"+up+"; return 0 0 0", plainValues(4), fuel, 1, "wrong / 0")
		}
	}
}

// wrongAt asks that the instruction is wrong in the main thread, in a call and
// in a coroutine; the prototype has 6 registers, 2 constants, 1 upvalue and 2
// children, but for the root, which has no upvalue.
func wrongAt(t *testing.T, what string, word uint32, wrong bool) {
	t.Helper()
	leaves := "proto 0 1 0; return 0 0 0; proto 0 1 0; up stack 5; return 0 0 0;"
	if op := impl.Unpack(word).Op; op != impl.OpGetUp && op != impl.OpSetUp {
		root := chunkOf("proto 0 6 2 vararg; nil; nil; move 0 0 0; return 0 0 0; return 0 0 0; return 0 0 0;" + leaves)
		root.Protos[0].Code[1] = word
		o := checkExec(t, root, nil, 9, 9)
		if wrong != (told(o) == "wrong / 2") || wrong != (o.Kind == impl.OutWrong) {
			t.Errorf("%s: %s", what, told(o))
		}
	}
	within := "proto 0 6 2 vararg; up stack 0; nil; nil; return 0 0 0; return 0 0 0; return 0 0 0;" + leaves
	for code, steps := range map[string]string{"closure 0 0; call 0 0 0; return 0 0 0;": "3", "closure 0 0; create 0 0 0; resume 0 0 0; return 0 0 0;": "4"} {
		c := chunkOf("proto 0 1 1;" + code + within)
		c.Protos[1].Code[0] = word
		o := checkExec(t, c, nil, 9, 9)
		if wrong != (told(o) == "wrong / "+steps) || wrong != (o.Kind == impl.OutWrong) {
			t.Errorf("%s within: %s", what, told(o))
		}
	}
}

func TestWhatIsNotThere(t *testing.T) {
	// With B and C of 0, S is the least that there is.
	for op := range 64 {
		wrongAt(t, "an operation", parts(op, 0, 0, 0), op > 33 || op == impl.OpLoadK || op == impl.OpClosure || op == impl.OpJump)
	}
	for op, row := range usesOfTable {
		_, isWide := row["S"]
		for k, part := range []string{"A", "B", "C"} {
			for _, n := range []int{5, 6, 7, 255, 256, 510, 511} {
				abc := [3]int{}
				abc[k] = n
				if row[part] != "register" || k == 0 && n > 255 {
					continue
				}
				word := parts(op, abc[0], abc[1], abc[2])
				if isWide {
					word = wide(op, n, 0)
				}
				wrongAt(t, impl.OpName(op)+" "+part, word, n > 5)
			}
		}
	}
	for s := -2; s <= 3; s++ {
		wrongAt(t, "loadk", wide(impl.OpLoadK, 0, s), s < 0 || s > 1)
		wrongAt(t, "closure", wide(impl.OpClosure, 0, s), s < 0 || s > 1)
	}
	for _, s := range []int{-131072, 131071} {
		wrongAt(t, "loadk", wide(impl.OpLoadK, 0, s), true)
		wrongAt(t, "closure", wide(impl.OpClosure, 0, s), true)
	}
	for b, wrong := range map[int]bool{0: false, 1: true, 2: true, 511: true} {
		wrongAt(t, "getup", parts(impl.OpGetUp, 0, b, 0), wrong)
		wrongAt(t, "setup", parts(impl.OpSetUp, 0, b, 0), wrong)
	}
	for a := range 8 {
		wrongAt(t, "forprep", wide(impl.OpForPrep, a, 0), a > 2)
		wrongAt(t, "forloop", wide(impl.OpForLoop, a, 0), a > 2)
	}
}

// Ranges up to the last register and one further; what is open asks for A alone.
func TestRangesThatAreNotThere(t *testing.T) {
	for a := range 8 {
		for n := range 9 {
			wrongAt(t, "loadnil", parts(impl.OpLoadNil, a, n, 0), a+n > 5)
			wrongAt(t, "return", parts(impl.OpReturn, a, n, 0), a > 5 || a+n > 6)
			wrongAt(t, "vararg", parts(impl.OpVararg, a, n, 0), a > 5 || a+n > 6)
			for _, op := range []int{impl.OpCall, impl.OpResume} {
				wrongAt(t, "values of "+impl.OpName(op), parts(op, a, n, 0), a > 5 || a+1+n > 6)
				wrongAt(t, "given at "+impl.OpName(op), parts(op, a, 0, n), a > 5 || a+n > 6)
			}
			wrongAt(t, "values of yield", parts(impl.OpYield, a, n, 0), a > 5 || a+n > 6)
			wrongAt(t, "given at yield", parts(impl.OpYield, a, 0, n), a > 5 || a+n > 6)
		}
		for _, op := range []int{impl.OpCall, impl.OpResume, impl.OpYield, impl.OpReturn} {
			wrongAt(t, "nothing is open at "+impl.OpName(op), parts(op, a, impl.Open, 0), true)
		}
	}
	wrongAt(t, "a range of 510", parts(impl.OpReturn, 0, 510, 0), true)
	wrongAt(t, "loadnil of 511 more", parts(impl.OpLoadNil, 0, 511, 0), true)
}

// What the verifier alone asks for is not wrong here: parts that are not named
// or that are not 0 or 1, a test without a jump, a loop's head without a loop.
func TestWhatIsOddButThere(t *testing.T) {
	for text, want := range map[string]string{
		"move 0 0 511; return 0 0 511":                        "values / 2",
		"loadbool 0 300 300; return 0 1 0":                    "values true / 2",
		"newtable 0 99 99; return 0 1 0":                      "values table / 2",
		"eq 200 0 1; return 0 0 0; return 0 1 0":              "values / 2",
		"eq 0 0 1; return 0 0 0; return 0 1 0":                "values nil / 2",
		"test 0 99 0; move 0 0 0; return 0 1 0":               "values nil / 3",
		"close 1 7 7; return 0 1 0":                           "values nil / 2",
		"vararg 0 2 9; return 0 2 0":                          "values nil nil / 2",
		"jump 255 1; jump 0 99; return 0 0 0":                 "values / 2",
		"loadnil 0 1 77; return 0 2 0":                        "values nil nil / 2",
		"not 0 1 9; return 0 1 0":                             "values true / 2",
		"jump 0 1; closure 77 77; return 0 0 0":               "values / 2",
		"eq 0 0 0; jump 0 77; return 0 0 0":                   "values / 2",
		"return 0 0 0; vararg 0 open 0; loadk 0 99":           "values / 1",
		"newtable 0 0 0; error 0 99 99":                       "error 6 table / 2",
		"loadbool 0 1 0; len 0 0 9":                           "error 1 / 2",
		"newtable 0 0 0; gettable 1 0 1; return 1 1 8":        "values nil / 3",
		"vararg 0 open 77; return 0 open 77":                  "values / 2",
		"loadbool 0 1 0; test 0 0 9; return 0 1 0":            "values true / 3",
		"loadbool 0 1 0; test 0 0 0; jump 0 -9; return 0 1 0": "values true / 3",
	} {
		checkRun(t, text, "proto 0 2 0;"+text, nil, want)
	}
}

func TestUpsOfAChildThatAreNotThere(t *testing.T) {
	for _, one := range []struct {
		up    string
		wrong bool
	}{
		{"up stack 4", false}, {"up stack 5", true}, {"up stack 16777215", true}, {"up cell 0", true},
		{"up stack 0; up stack 4", false}, {"up stack 0; up stack 5; up stack 0", true}, {"up stack 0; up cell 0", true},
	} {
		want := "values closure / 2"
		if one.wrong {
			want = "wrong / 1"
		}
		checkRun(t, one.up, "proto 0 5 1; closure 0 0; return 0 1 0; proto 0 9 0;"+one.up+"; return 0 0 0", nil, want)
		checkRun(t, one.up+", never made", "proto 0 5 2; closure 0 0; return 0 1 0; proto 0 1 0; return 0 0 0; proto 0 9 0;"+one.up+"; return 0 0 0", nil, "values closure / 2")
	}
	root := "proto 0 2 1; closure 0 0; call 0 0 1; return 0 1 0; proto 0 2 1; up stack 0; up stack 1; closure 0 0; return 0 1 0; proto 0 9 0;"
	for index, want := range map[int]string{0: "values closure / 5", 1: "values closure / 5", 2: "wrong / 3", impl.MaxNumber: "wrong / 3"} {
		checkRun(t, "a cell", root+"up cell "+strconv.Itoa(index)+"; return 0 0 0", nil, want)
	}
}

// A place outside the code is asked for before the fuel, an instruction behind it.
func TestPlacesThatAreNotThere(t *testing.T) {
	for text, steps := range map[string]int{
		"move 0 0 0":                  1,
		"jump 0 0":                    1,
		"jump 0 1":                    1,
		"jump 0 -2":                   1,
		"jump 0 131071":               1,
		"jump 0 -131072":              1,
		"eq 0 0 0":                    1,
		"eq 0 0 0; jump 0 -2":         1,
		"eq 1 0 0":                    1,
		"test 0 0 1; return 0 0 0":    1,
		"move 0 0 0; vararg 0 open 0": 2,
		"closure 0 0; call 0 0 0":     3,
		"closure 0 0; create 0 0 0; resume 0 0 1":      4,
		"closure 0 1; call 0 0 0; return 0 0 0":        3,
		"closure 0 1; create 0 0 0; resume 0 0 0":      4,
		"loadk 0 0; loadk 1 0; loadk 2 0; forloop 0 7": 4,
		"loadk 0 0; loadk 1 1; loadk 2 0; forprep 0 7": 4,
		"loadk 0 1; loadk 1 0; loadk 2 0; forloop 0 7": 4,
	} {
		c := "proto 0 4 2; int 2; int 1;" + text + "; proto 0 1 0; return 0 0 0; proto 0 1 0; move 0 0 0"
		for fuel := range steps {
			checkRunIn(t, text, c, nil, fuel, 9, "fuel / "+strconv.Itoa(fuel))
		}
		for _, fuel := range []int{steps, steps + 1, 500} {
			checkRunIn(t, text, c, nil, fuel, 9, "wrong / "+strconv.Itoa(steps))
		}
	}
	checkRunIn(t, "an operation that is none, without fuel", "proto 0 1 0; move 0 0 0; move 0 9 9", nil, 1, 1, "fuel / 1")
	checkRunIn(t, "an operation that is none", "proto 0 1 0; move 0 0 0; move 0 9 9", nil, 2, 1, "wrong / 2")
}

func TestWhatIsOpenWhereItMustNotBe(t *testing.T) {
	leaf := "; proto 0 1 0 vararg; vararg 0 open 0; return 0 open 0"
	open := []string{"vararg 3 open 0", "closure 3 0; call 3 0 open", "closure 3 0; create 3 3 0; resume 3 0 open"}
	for k, opener := range open {
		steps := []int{1, 4, 5}[k]
		after := func(word string) string { return "proto 0 6 1 vararg;" + opener + ";" + word + "; return 0 0 0" + leaf }
		for op, row := range usesOfTable {
			if op == impl.OpGetUp || op == impl.OpSetUp {
				continue
			}
			word := impl.OpName(op) + " 0 0 0"
			if _, ok := row["S"]; ok {
				word = impl.OpName(op) + " 0 0"
			}
			if op == impl.OpLoadK {
				continue
			}
			checkRun(t, word, after(word), plainValues(1, 2), "wrong / "+strconv.Itoa(steps+1))
		}
		for a := range 6 {
			for _, name := range []string{"call", "resume", "yield", "return"} {
				from := a
				if name == "call" || name == "resume" {
					from = a + 1
				}
				text := after(name + " " + strconv.Itoa(a) + " open 0")
				o := checkExec(t, chunkOf(text), plainValues(1, 2), 100, 9)
				if (o.Kind == impl.OutWrong) != (from > 3) {
					t.Errorf("%s from %d on: %s", name, from, told(o))
				}
			}
		}
	}
	checkRun(t, "taken twice", "proto 0 3 0 vararg; vararg 0 open 0; yield 0 open 0; return 0 open 0", nil, "error 7 / 2")
	checkRun(t, "taken twice by calls", "proto 0 4 1 vararg; closure 0 0; vararg 1 open 0; call 0 open 1; return 0 open 0; proto 0 1 0; return 0 0 0", nil, "wrong / 5")
	checkRun(t, "open in another frame", "proto 0 4 1 vararg; closure 0 0; vararg 1 open 0; call 0 open 1; return 0 0 0; proto 0 2 0 vararg; return 0 open 0", nil, "wrong / 4")
	checkRun(t, "open in a frame below", "proto 0 4 1 vararg; closure 2 0; call 2 0 open; return 0 open 0; proto 0 2 0 vararg; return 0 0 0", nil, "values nil nil / 4")
	checkRun(t, "still open after a yield", "proto 0 4 1; closure 0 0; create 0 0 0; move 1 0 0; resume 1 0 0; resume 0 0 0; return 0 0 0; proto 0 2 0 vararg; yield 0 0 open; return 0 0 0", nil, "wrong / 7")
}

// failing is code for every error, in a prototype with 10 registers, one child
// that only returns, and the constants 0, "ab" and 1.
var failing = []struct {
	err   int
	code  string
	steps int
}{
	{impl.ErrType, "add 0 1 2", 1},
	{impl.ErrType, "loadk 0 0; call 0 0 0", 2},
	{impl.ErrDivide, "loadk 0 0; div 0 0 0", 2},
	{impl.ErrDivide, "loadk 0 0; mod 0 0 0", 2},
	{impl.ErrDead, "closure 0 0; create 0 0 0; move 1 0 0; resume 1 0 0; resume 0 0 0", 6},
	{impl.ErrStack, "closure 0 1; move 1 0 0; call 0 1 0", 0},
	{impl.ErrMemory, "loadk 0 1; concat 0 0 0; jump 0 -2", 0},
	{impl.ErrMemory, "newtable 0 0 0; jump 0 -2", 0},
	{impl.ErrUser, "loadk 0 1; error 0 0 0", 2},
	{impl.ErrUser, "error 0 0 0", 1},
	{impl.ErrUser, "newtable 0 0 0; error 0 0 0", 2},
	{impl.ErrKey, "newtable 0 0 0; settable 0 1 1", 2},
}

const failingKids = "; proto 0 1 0; return 0 0 0; proto 1 3 0; move 1 0 0; move 2 0 0; call 1 1 0; return 0 0 0"

func TestEveryErrorInTheMainThread(t *testing.T) {
	for _, f := range failing {
		o := checkExec(t, chunkOf("proto 0 10 2; int 0; text ab; int 1;"+f.code+"; return 0 0 0"+failingKids), nil, 30000, 20)
		if o.Kind != impl.OutError || o.Err != f.err || f.steps > 0 && o.Steps != f.steps || (len(o.Values) == 1) != (f.err == impl.ErrUser) {
			t.Errorf("%s: %s", f.code, told(o))
		}
	}
	checkRun(t, "yield", "proto 0 1 0; yield 0 1 1; return 0 0 0", nil, "error 7 / 1")
	checkRun(t, "yield in a call", "proto 0 1 1; closure 0 0; call 0 0 0; return 0 0 0; proto 0 1 0; yield 0 0 0; return 0 0 0", nil, "error 7 / 3")
	for k, want := range []string{"nil", "false", "2", `"ab"`, "table", "closure", "thread"} {
		checkRun(t, "error with a value", withThings("error "+strconv.Itoa(k)+" 0 0"), nil, "error 6 "+want+" / 8")
	}
}

// What the resumer gets: false and the code, or the value at ErrUser; nothing
// else, and the thread is dead and its frames are gone.
func TestEveryErrorInACoroutine(t *testing.T) {
	body := func(f string) string {
		return "proto 0 10 2; int 0; text ab; int 1;" + f + "; return 0 0 0" + failingKids
	}
	for _, f := range failing {
		want := `values false ` + strconv.Itoa(f.err) + ` "dead" nil /`
		if f.err == impl.ErrUser {
			value := map[string]string{"loadk 0 1; error 0 0 0": `"ab"`, "error 0 0 0": "nil", "newtable 0 0 0; error 0 0 0": "table"}[f.code]
			want = `values false ` + value + ` "dead" nil /`
		}
		for what, text := range map[string]string{
			"in its first frame": "proto 0 9 1; closure 0 0; create 0 0 0; move 1 0 0; resume 1 0 4; status 3 0 0; return 1 4 0;" + body(f.code),
			"in a call": "proto 0 9 1; closure 0 0; create 0 0 0; move 1 0 0; resume 1 0 4; status 3 0 0; return 1 4 0;" +
				"proto 0 2 1; closure 0 0; call 0 0 1; return 0 1 0;" + body(f.code),
			"after a yield": "proto 0 9 1; closure 0 0; create 0 0 0; move 1 0 0; resume 1 0 0; move 1 0 0; resume 1 0 4; status 3 0 0; return 1 4 0;" +
				"proto 0 2 1; yield 0 0 0; closure 0 0; call 0 0 1; return 0 1 0;" + body(f.code),
			"in a coroutine of a coroutine": "proto 0 9 1; closure 0 0; create 0 0 0; resume 0 0 6; return 1 4 0;" +
				"proto 0 6 1; closure 0 0; create 0 0 0; move 1 0 0; resume 1 0 4; status 3 0 0; return 1 4 0;" + body(f.code),
		} {
			if got := told(checkExec(t, chunkOf(text), nil, 30000, 20)); !strings.HasPrefix(got, want) {
				t.Errorf("%s, %s: %s; want %s", f.code, what, got, want)
			}
		}
	}
	checkRun(t, "open to the resumer", "proto 0 3 1; closure 0 0; create 0 0 0; resume 0 0 open; return 0 open 0; proto 0 1 0; error 0 0 0", nil, "values false nil / 5")
	checkRun(t, "only the flag is taken", "proto 0 3 1; closure 0 0; create 0 0 0; resume 0 0 1; return 0 2 0; proto 0 1 0; error 0 0 0", nil, "values false nil / 5")
	checkRun(t, "the thing itself comes out", "proto 0 4 1; newtable 2 0 0; closure 0 0; create 0 0 0; move 1 2 0; resume 0 1 2; eq 1 1 2; jump 0 1; return 0 0 0; return 0 1 0; proto 1 1 0; error 0 0 0", nil, "values false / 9")
}

// An error in a coroutine that no one catches goes to its resumer alone.
func TestErrorsDoNotGoFurther(t *testing.T) {
	checkRun(t, "the resumer's resumer", `proto 0 5 1; closure 0 0; create 0 0 0; resume 0 0 4; return 0 4 0;
		proto 0 4 1; closure 0 0; create 0 0 0; resume 0 0 3; return 0 3 0; proto 0 1 0; neg 0 0 0; return 0 0 0`, nil, "values true false 1 nil / 9")
	checkRun(t, "an error by the resumer after it", `proto 0 5 1; closure 0 0; create 0 0 0; resume 0 0 4; return 0 4 0;
		proto 0 4 1; closure 0 0; create 0 0 0; resume 0 0 3; error 1 0 0; proto 0 1 0; neg 0 0 0; return 0 0 0`, nil, "values false 1 nil nil / 9")
}

// fullOf is code that makes that many things in registers 0 to 4; its constants
// are the first of a prototype.
func fullOf(n int) (consts string, code string) {
	return "int 1; int " + strconv.Itoa(n) + ";", "loadk 0 0; loadk 1 1; loadk 2 0; forprep 0 2; newtable 4 0 0; forloop 0 -2;"
}

func checkFull(t *testing.T, what string, before int, code string, want string) {
	t.Helper()
	consts, fill := fullOf(before)
	text := "proto 0 12 4;" + consts + "text ab;" + fill + code + "; return 5 3 0;" +
		"proto 0 1 0; return 0 0 0; proto 0 2 0; up stack 6; return 0 0 0; proto 0 2 0; up stack 6; up stack 7; up stack 6; return 0 0 0; proto 0 3 0; newtable 0 0 0; newtable 1 0 0; return 0 2 0"
	got := told(checkExec(t, chunkOf(text), nil, 30000, 20))
	if !strings.HasPrefix(got, want+" /") {
		t.Errorf("%s after %d: %s; want %s", what, before, got, want)
	}
}

func TestHowManyThings(t *testing.T) {
	most := impl.MaxCells
	for _, one := range []struct{ code, want string }{
		{"newtable 5 0 0", "values table nil nil"},
		{"closure 5 0", "values closure nil nil"},
		{"settable 4 0 4; gettable 5 4 0", "values table nil nil"},
		{"loadk 6 2; settable 4 6 6", `values nil "ab" nil`},
	} {
		checkFull(t, one.code, most-1, one.code, one.want)
		checkFull(t, one.code, most, one.code, "error 5")
	}
	every := "newtable 5 0 0; closure 6 0; create 7 6 0; settable 5 6 7"
	checkFull(t, "one of every kind", most-4, every, "values table closure thread")
	checkFull(t, "one of every kind", most-3, every, "error 5")
	checkFull(t, "a thread", most-2, "closure 5 0; create 5 5 0", "values thread nil nil")
	checkFull(t, "a thread", most-1, "closure 5 0; create 5 5 0", "error 5")
	checkFull(t, "a closure with a cell", most-2, "closure 5 1", "values closure nil nil")
	checkFull(t, "a closure with a cell", most-1, "closure 5 1", "error 5")
	checkFull(t, "a closure with two cells, one of them twice", most-3, "closure 5 2", "values closure nil nil")
	checkFull(t, "a closure with two cells, one of them twice", most-2, "closure 5 2", "error 5")
	checkFull(t, "a cell that is there", most-3, "closure 5 1; closure 5 1", "values closure nil nil")
	checkFull(t, "a cell that is there", most-2, "closure 5 1; closure 5 1", "error 5")
	checkFull(t, "one cell that is there and one that is not", most-4, "closure 5 1; closure 5 2", "values closure nil nil")
	checkFull(t, "one cell that is there and one that is not", most-3, "closure 5 1; closure 5 2", "error 5")
	checkFull(t, "a cell anew after close", most-4, "closure 5 1; close 6 0 0; closure 5 1", "values closure nil nil")
	checkFull(t, "a cell anew after close", most-3, "closure 5 1; close 6 0 0; closure 5 1", "error 5")
	checkFull(t, "a cell that close leaves", most-3, "closure 5 1; close 7 0 0; closure 5 1", "values closure nil nil")
	checkFull(t, "another value", most-1, "settable 4 0 0; settable 4 0 1; gettable 5 4 0", "values "+strconv.Itoa(most-1)+" nil nil")
	checkFull(t, "taken out", most-1, "settable 4 0 0; settable 4 0 8; gettable 5 4 0", "values nil nil nil")
	checkFull(t, "made again", most-1, "settable 4 0 0; settable 4 0 8; settable 4 0 0", "error 5")
	checkFull(t, "made again with one left", most-2, "settable 4 0 0; settable 4 0 8; settable 4 0 0; gettable 5 4 0", "values "+strconv.Itoa(most-2)+" nil nil")
	checkFull(t, "an entry of nil", most, "settable 4 0 8; gettable 5 4 0", "values nil nil nil")
	checkFull(t, "texts and calls", most-1, "closure 5 0; call 5 0 0; loadk 6 2; concat 6 6 6; move 5 6 0", `values "abab" "abab" nil`)
	checkFull(t, "in a call", most-2, "closure 5 3; call 5 0 2", "error 5")
	checkFull(t, "in a call with room", most-3, "closure 5 3; call 5 0 2", "values table table nil")
}

func TestTooManyInACoroutine(t *testing.T) {
	most := impl.MaxCells
	resume := "closure 5 3; create 5 5 0; resume 5 0 3"
	checkFull(t, "with room", most-4, resume, "values true table table")
	checkFull(t, "without room for the second", most-3, resume, "values false 5 nil")
	checkFull(t, "without room for the first", most-2, resume, "values false 5 nil")
	checkFull(t, "without room for the thread", most-1, resume, "error 5")
}

// An instruction that fails has counted nothing: there is still room for one.
func TestWhatFailsIsNotCounted(t *testing.T) {
	consts, fill := fullOf(impl.MaxCells - 3)
	text := "proto 0 12 1;" + consts + fill + "closure 5 0; create 5 5 0; resume 5 0 3; newtable 8 0 0; move 7 8 0; newtable 8 0 0; return 5 3 0;" +
		"proto 0 3 1; closure 0 0; return 0 0 0; proto 0 1 0; up stack 1; return 0 0 0"
	fail := told(checkExec(t, chunkOf(text), nil, 30000, 9))
	if !strings.HasPrefix(fail, "error 5 /") {
		t.Errorf("one table too many: %s", fail)
	}
	room := strings.Replace(text, "newtable 8 0 0; return", "return", 1)
	if got := told(checkExec(t, chunkOf(room), nil, 30000, 9)); !strings.HasPrefix(got, "values false 5 table /") {
		t.Errorf("a closure and its cell that are too many: %s", got)
	}
}

// Two questions that fail at one instruction: the first in the document's order is told.
func TestOrderAtOneInstruction(t *testing.T) {
	checkRun(t, "no table before no key", "proto 0 3 0; settable 0 1 2; return 0 0 0", nil, "error 1 / 1")
	checkRun(t, "gettable of no table with a key of nil", "proto 0 3 0; gettable 0 1 2; return 0 0 0", nil, "error 1 / 1")
	checkRun(t, "no integer before a division by 0", "proto 2 3 0; div 2 0 1; return 0 0 0", plainValues("x", 0), "error 1 / 1")
	checkRun(t, "no integer before a division by 0, mod", "proto 2 3 0; mod 2 0 1; return 0 0 0", plainValues(nil, 0), "error 1 / 1")
	long := strings.Repeat("x", impl.MaxText)
	checkRun(t, "no text before too long a text", "proto 3 4 0; concat 3 0 1; return 0 0 0", plainValues(long, nil), "error 1 / 1")
	checkRunIn(t, "no closure before no room", "proto 0 1 0; call 0 0 0; return 0 0 0", nil, 9, 1, "error 1 / 1")
	checkRunIn(t, "no thread before no room", "proto 0 1 0; resume 0 0 0; return 0 0 0", nil, 9, 1, "error 1 / 1")
	checkRunIn(t, "a dead one before no room", `proto 0 3 1; closure 0 0; create 0 0 0; move 1 0 0; resume 1 0 2; move 1 2 0; return 1 1 0;
		proto 0 2 1; up stack 0; getup 0 0 0; resume 0 0 0; return 0 0 0; proto 0 1 0; return 0 0 0`, nil, 20, 2, "values 3 / 8")
	most := impl.MaxCells
	checkFull(t, "no key before no room", most, "settable 4 8 0", "error 8")
	checkFull(t, "no table before no room", most, "settable 8 0 0", "error 1")
	checkFull(t, "no closure before no room", most, "create 5 8 0", "error 1")
	checkFull(t, "wrong before no room", most, "newtable 12 0 0", "wrong")
	checkFull(t, "wrong before no room at closure", most, "closure 5 4", "wrong")
	checkRun(t, "wrong before no integer", "proto 0 1 0; add 1 0 0; return 0 0 0", nil, "wrong / 1")
	checkRun(t, "wrong before a yield in the main thread", "proto 0 1 0; yield 0 2 0; return 0 0 0", nil, "wrong / 1")
	checkRun(t, "wrong before a yield of what is not open", "proto 0 1 0; yield 0 open 0; return 0 0 0", nil, "wrong / 1")
	checkRun(t, "wrong before no closure", "proto 0 2 0; call 0 2 0; return 0 0 0", nil, "wrong / 1")
	checkRun(t, "wrong before an error of its own", "proto 0 2 0 vararg; vararg 0 open 0; error 0 0 0", nil, "wrong / 2")
	checkRunIn(t, "fuel before wrong", "proto 0 1 0; add 1 0 0; return 0 0 0", nil, 0, 1, "fuel / 0")
	checkRunIn(t, "fuel before an error", "proto 0 1 0; add 0 0 0; return 0 0 0", nil, 0, 1, "fuel / 0")
}

func TestDepth(t *testing.T) {
	// Each call goes one deeper, as long as its argument is above 0.
	deep := `proto 1 4 1; closure 1 0; move 3 1 0; move 2 0 0; call 1 1 1; return 1 1 0;
		proto 1 5 0; int 0; int 1; up stack 3; loadk 1 0; less 1 1 0; jump 0 1; return 0 1 0;
		getup 2 0 0; loadk 4 1; sub 3 0 4; call 2 1 1; return 2 1 0`
	for _, depth := range []int{1, 2, 3, 10, impl.MaxDepth - 1, impl.MaxDepth} {
		for _, calls := range []int{1, 2, 3, 9, 10, depth - 1, depth, depth + 1} {
			if calls < 1 {
				continue
			}
			o := checkExec(t, chunkOf(deep), plainValues(calls-1), 20000, depth)
			if want := map[bool]int{true: impl.OutValues, false: impl.OutError}[calls+1 <= depth]; o.Kind != want || o.Kind == impl.OutError && o.Err != impl.ErrStack {
				t.Errorf("%d calls of depth %d: %s", calls, depth, told(o))
			}
		}
	}
	checkRunIn(t, "frames that are taken off are not counted", `proto 0 5 1; int 1; int 500; loadk 0 0; loadk 1 1; loadk 2 0; forprep 0 3; closure 4 0; call 4 0 0; forloop 0 -3; return 0 1 0; proto 0 1 0; return 0 0 0`,
		nil, 9000, 2, "values 500 / 2005")
}

// co is a root that makes two threads of its two children in registers 0 and 1.
const co = "proto 0 9 2; closure 0 0; create 0 0 0; closure 1 1; create 1 1 0;"

func TestDepthOverAllThreads(t *testing.T) {
	holds := "proto 0 1 1; closure 0 0; call 0 0 0; return 0 0 0; proto 0 1 0; yield 0 0 0; return 0 0 0;"
	leaf := "proto 0 1 0; return 0 0 0"
	suspends := co + "resume 0 0 1; closure 2 1; call 2 0 0; return 0 1 0;" + holds + leaf
	checkRunIn(t, "those of a suspended thread", suspends, nil, 50, 4, "values true / 12")
	checkRunIn(t, "those of a suspended thread, one too many", suspends, nil, 50, 3, "error 4 / 10")
	checkRunIn(t, "those of the resumer", suspends, nil, 50, 2, "values false / 11")
	ends := co + "move 2 0 0; resume 0 0 1; resume 2 0 1; closure 3 1; call 3 0 0; return 0 1 0;" + holds + leaf
	checkRunIn(t, "those of a dead thread are gone", ends, nil, 50, 3, "values true / 16")
	fails := co + "resume 0 0 2; closure 2 1; move 3 2 0; call 2 0 0; return 0 2 0; proto 0 1 1; closure 0 0; call 0 0 0; return 0 0 0; proto 0 1 0; neg 0 0 0; return 0 0 0;" + leaf
	checkRunIn(t, "those of one that failed are gone", fails, nil, 50, 3, "values false 1 / 13")
	checkRunIn(t, "an error in the thread that calls", fails, nil, 50, 2, "values false 4 / 12")
	checkRunIn(t, "one that was never resumed has none", co+"closure 2 1; call 2 0 0; return 0 1 0;"+holds+leaf, nil, 50, 2, "values thread / 8")
	checkRunIn(t, "the first resume asks for room", co+"resume 0 0 1; return 0 1 0;"+holds+leaf, nil, 50, 1, "error 4 / 5")
	later := co + "move 2 1 0; resume 1 0 0; resume 2 0 2; return 2 2 0;" + holds + "proto 0 2 0; int 5; yield 0 0 0; loadk 0 0; return 0 1 0"
	checkRunIn(t, "later ones do not", later, nil, 50, 2, "values true 5 / 11")
}

// A thread that could not be begun for lack of room stays suspended, and may be begun later.
func TestResumeWithoutRoom(t *testing.T) {
	text := `proto 0 9 2; closure 0 0; create 0 0 0; closure 1 1; create 1 1 0; move 2 0 0; move 3 1 0; resume 2 1 2; status 4 0 0; status 5 1 0; move 6 1 0; resume 6 0 3; return 2 7 0;
		proto 1 2 0; resume 0 0 0; return 0 0 0; proto 1 2 0; int 5; loadk 1 0; return 0 2 0`
	checkRunIn(t, "without room", text, nil, 50, 2, `values false 4 "dead" "suspended" true nil 5 / 15`)
	checkRunIn(t, "with room", text, nil, 50, 3, "error 3 / 15")
}

// openText is a root that opens that many hundreds of values, an even number
// of them, by calls that put 200 before those they are given, and then does the
// code. Each call opens one register further down, the first one in register 11.
// The first three children give back all they are given, with 200 before them,
// with 1 before them, and as they are.
func openText(hundreds int, before string, code string, kids ...string) impl.Chunk {
	text := "proto 0 12 " + strconv.Itoa(3+len(kids)) + " vararg;" + before + ";"
	given := "0"
	for k := range hundreds / 2 {
		text += "closure " + strconv.Itoa(11-k) + " 0;"
	}
	for k := range hundreds / 2 {
		text += "call " + strconv.Itoa(11-k) + " " + given + " open;"
		given = "open"
	}
	text += code + "; proto 0 201 0 vararg; vararg 200 open 0; return 0 open 0;"
	text += "proto 0 2 0 vararg; vararg 1 open 0; return 0 open 0;"
	text += "proto 0 1 0 vararg; vararg 0 open 0; return 0 open 0;"
	return chunkOf(text + strings.Join(kids, ";"))
}

func checkCount(t *testing.T, what string, c impl.Chunk, want int) {
	t.Helper()
	if o := checkExec(t, c, nil, 500, 20); o.Kind != impl.OutValues || len(o.Values) != want {
		t.Errorf("%s: kind %d, error %d, %d values; want %d", what, o.Kind, o.Err, len(o.Values), want)
	}
}

func checkFault(t *testing.T, what string, c impl.Chunk, want int) {
	t.Helper()
	if o := checkExec(t, c, nil, 500, 20); o.Kind != impl.OutError || o.Err != want {
		t.Errorf("%s: kind %d, error %d, %d values; want error %d", what, o.Kind, o.Err, len(o.Values), want)
	}
}

// 1000 values are open in register 7.
func TestHowManyAreOpen(t *testing.T) {
	checkCount(t, "MaxOpen", openText(10, "", "return 7 open 0"), 1000)
	checkCount(t, "MaxOpen and registers before them", openText(10, "", "return 0 open 0"), 1007)
	checkFault(t, "more than MaxOpen", openText(12, "", "return 6 open 0"), impl.ErrStack)
	checkCount(t, "given on by a call", openText(10, "closure 6 2", "call 6 open open; return 6 open 0"), 1000)
	checkFault(t, "one more by a call", openText(10, "closure 6 1", "call 6 open open; return 6 open 0"), impl.ErrStack)
	checkCount(t, "one more, but not open", openText(10, "closure 6 1", "call 6 open 5; return 6 5 0"), 5)
	checkCount(t, "one more, none taken", openText(10, "closure 6 1", "call 6 open 0; return 6 5 0"), 5)
	checkFault(t, "one argument more, open by vararg", openText(10, "closure 5 2", "call 5 open open; return 5 open 0"), impl.ErrStack)
	few := "proto 0 5 0 vararg; vararg 0 5 0; return 0 5 0"
	checkCount(t, "one argument more, some by vararg", openText(10, "closure 5 3", "call 5 open open; return 5 open 0", few), 5)
	params := "proto 1 5 0 vararg; vararg 1 open 0; return 1 open 0"
	checkCount(t, "one argument more, the first a parameter", openText(10, "closure 5 3", "call 5 open open; return 5 open 0", params), 1000)
}

func TestHowManyAreOpenOfCoroutines(t *testing.T) {
	thread := func(child string, code string, kids ...string) impl.Chunk {
		return openText(10, "closure 6 "+child+"; create 6 6 0", code, kids...)
	}
	drops := "proto 1 2 0 vararg; vararg 0 open 0; return 0 open 0"
	checkCount(t, "999 and true", thread("3", "resume 6 open open; return 6 open 0", drops), 1000)
	checkFault(t, "1000 and true", thread("2", "resume 6 open open; return 6 open 0"), impl.ErrStack)
	checkCount(t, "1000 and true, but not open", thread("2", "resume 6 open 3; return 6 3 0"), 3)
	yields := "proto 1 2 0 vararg; vararg 0 open 0; yield 0 open 0; return 0 0 0"
	checkCount(t, "999 yielded and true", thread("3", "resume 6 open open; return 6 open 0", yields), 1000)
	all := "proto 0 2 0 vararg; vararg 0 open 0; yield 0 open 0; return 0 0 0"
	checkFault(t, "1000 yielded and true", thread("3", "resume 6 open open; return 6 open 0", all), impl.ErrStack)
	checkCount(t, "1000 yielded and true, but not open", thread("3", "resume 6 open 2; return 6 2 0", all), 2)
}

// The error of too many values is one of the thread that yielded, not of its resumer.
func TestHowManyAreOpenOfYields(t *testing.T) {
	given := func(code string, kid string, want string) {
		t.Helper()
		begin := "closure 0 3; create 0 0 0; move 6 0 0; resume 6 0 0; move 6 0 0; move 5 0 0"
		o := checkExec(t, openText(10, begin, code, kid), nil, 500, 20)
		if !strings.HasPrefix(told(o), want+" /") {
			t.Errorf("%s: %s; want %s", code, told(o), want)
		}
	}
	waits := "proto 0 2 0; yield 0 0 open; return 0 open 0"
	given("resume 6 open 2; status 8 0 0; return 6 3 0", waits, `values true nil "dead"`)
	given("resume 5 open 3; status 8 0 0; return 5 4 0", waits, `values false 4 nil "dead"`)
	given("resume 5 open open; return 5 open 0", waits, `values false 4`)
	given("resume 5 open 3; status 8 0 0; return 5 4 0", "proto 0 4 0; yield 0 0 2; return 0 4 0", `values true thread nil "dead"`)
}

// fuelTexts are programs that end, in several ways and with coroutines in several states.
func fuelTexts() []string {
	out := []string{
		co + `move 2 0 0; resume 2 0 2; move 4 1 0; resume 4 0 2; resume 0 0 2; resume 1 0 3; return 0 6 0;
			proto 0 2 1; int 1; loadk 0 0; yield 0 1 0; closure 0 0; call 0 0 1; return 0 1 0; proto 0 1 0; yield 0 0 0; return 0 1 0;
			proto 0 2 0; yield 0 0 1; neg 0 0 0; return 0 1 0`,
		"proto 0 1 0; move 0 0 0; neg 0 0 0; return 0 0 0",
		"proto 0 1 0; move 0 0 0; jump 0 5",
		"proto 0 4 1; closure 0 0; create 0 0 0; resume 0 0 0; return 0 0 0; proto 0 1 0; move 0 0 0; move 9 0 0",
		"proto 0 4 1; closure 0 0; create 0 0 0; resume 0 0 0; return 0 0 0; proto 0 1 0; move 0 0 0; move 0 0 0",
		"proto 0 4 1; closure 0 0; create 0 0 0; resume 0 0 0; error 0 0 0; proto 0 1 0; yield 0 0 0; return 0 0 0",
	}
	for _, f := range failing {
		out = append(out, "proto 0 9 1; closure 0 0; create 0 0 0; move 1 0 0; resume 1 0 4; status 3 0 0; return 1 4 0; proto 0 10 2; int 0; text ab; int 1;"+f.code+"; return 0 0 0"+failingKids)
	}
	return out
}

// Promise 7 at every step of some programs.
func TestFuelThatEndsAtEachStep(t *testing.T) {
	for _, text := range fuelTexts() {
		c := chunkOf(text)
		whole := checkExec(t, c, nil, impl.MaxFuel, 12)
		if whole.Kind == impl.OutFuel {
			t.Fatalf("it does not end: %s", text)
		}
		for fuel := range min(whole.Steps, 300) + 5 {
			got := told(checkExec(t, c, nil, fuel, 12))
			want := told(whole)
			if fuel < whole.Steps {
				want = "fuel / " + strconv.Itoa(fuel)
			}
			if got != want {
				t.Errorf("with fuel %d of %d: %s; want %s:\n%s", fuel, whole.Steps, got, want, text)
			}
		}
	}
}

// goroutinesEnd waits a little: one that has done all may still be counted for a moment.
func goroutinesEnd(before int) bool {
	for range 2000 {
		if runtime.NumGoroutine() <= before {
			return true
		}
		time.Sleep(time.Millisecond)
	}
	return false
}

func TestGoroutinesHaveEnded(t *testing.T) {
	many := `proto 0 9 1; int 1; int 1000; closure 5 0; loadk 0 0; loadk 1 1; loadk 2 0; forprep 0 3; create 6 5 0; resume 6 0 0; forloop 0 -3; @;
		proto 0 2 1; closure 0 0; call 0 0 0; return 0 0 0; proto 0 1 0; yield 0 0 0; return 0 0 0`
	for _, text := range append(fuelTexts(),
		strings.Replace(many, "@", "return 0 0 0", 1),
		strings.Replace(many, "@", "error 0 0 0", 1),
		strings.Replace(many, "@", "jump 0 -1", 1),
		strings.Replace(many, "@", "jump 0 99", 1),
		strings.Replace(strings.Replace(many, "resume 6 0 0", "move 6 6 0", 1), "@", "return 0 0 0", 1),
	) {
		c := chunkOf(text)
		for _, fuel := range []int{0, 3, 5, 7, 20, 5000, 30000} {
			before := runtime.NumGoroutine()
			impl.Exec(c, nil, fuel, impl.MaxDepth)
			if !goroutinesEnd(before) {
				t.Fatalf("with fuel %d there are %d goroutines after %d:\n%s", fuel, runtime.NumGoroutine(), before, text)
			}
		}
	}
	// Here each suspended thread has two frames, and there is room for all of them.
	held := strings.Replace(strings.Replace(many, "@", "return 0 1 0", 1), "int 1000", "int 99", 1)
	checkRunIn(t, "many suspended threads", held, nil, 30000, impl.MaxDepth, "values 99 / 600")
}

func TestExecChangesNoArgument(t *testing.T) {
	for _, text := range fuelTexts() {
		c, kept := chunkOf(text), chunkOf(text)
		room := plainValues(1, "two", nil, true, 5, 6)
		args := room[:4]
		impl.Exec(c, args, 5000, 12)
		if !reflect.DeepEqual(c, kept) || !slices.Equal(room, plainValues(1, "two", nil, true, 5, 6)) {
			t.Errorf("the arguments are now %v and %v", c, room)
		}
	}
	text := "proto 1 6 0 vararg; int 9; loadk 0 0; vararg 1 open 0; return 0 open 0"
	c := chunkOf(text)
	room := plainValues(1, 2, 3, 4)
	impl.Exec(c, room[:3], 9, 9)
	if !reflect.DeepEqual(c, chunkOf(text)) || !slices.Equal(room, plainValues(1, 2, 3, 4)) {
		t.Errorf("the arguments are now %v and %v", c, room)
	}
}

func TestExecSharesNoMemory(t *testing.T) {
	for _, text := range []string{
		"proto 0 6 0 vararg; vararg 1 open 0; return 1 open 0",
		"proto 3 6 0; return 0 3 0",
		"proto 3 6 0; text x; text y; loadk 0 0; loadk 1 1; return 0 3 0",
		"proto 1 6 0; error 0 0 0",
	} {
		c := chunkOf(text)
		args := plainValues("x", "y", "z")
		first, second := impl.Exec(c, args, 9, 9), impl.Exec(c, args, 9, 9)
		want := told(second)
		whole := first.Values[:cap(first.Values)]
		for k := range whole {
			whole[k] = impl.Value{Kind: 77}
		}
		if !slices.Equal(args, plainValues("x", "y", "z")) || !reflect.DeepEqual(c, chunkOf(text)) {
			t.Errorf("writing into the answer changes the arguments: %v, %v", args, c)
		}
		if told(second) != want || told(impl.Exec(c, args, 9, 9)) != want {
			t.Errorf("writing into an answer changes another")
		}
		scribble(c)
		for k := range args {
			args[k] = impl.Value{Kind: 78}
		}
		if told(second) != want {
			t.Errorf("writing into the arguments changes the answer: %s", told(second))
		}
	}
}

// Calls that run at the same time have nothing in common.
func TestExecAtTheSameTime(t *testing.T) {
	texts := fuelTexts()
	var wait sync.WaitGroup
	for range 4 {
		for _, text := range texts {
			wait.Add(1)
			go func() {
				defer wait.Done()
				c := chunkOf(text)
				if got, want := told(impl.Exec(c, nil, 30000, 12)), told(wantExec(c, nil, 30000, 12)); got != want {
					t.Errorf("%s; want %s", got, want)
				}
			}()
		}
	}
	wait.Wait()
}

// Programs that use up all they may, in not too long a time.
func TestMostThatARunCanDo(t *testing.T) {
	began := time.Now()
	for what, text := range map[string]string{
		"calls with all registers":  "proto 0 250 1; closure 0 0; move 1 0 0; call 1 0 0; jump 0 -3; proto 0 250 0; return 0 0 0",
		"resumes":                   "proto 0 9 1; closure 0 0; create 0 0 0; move 1 0 0; resume 1 0 0; jump 0 -3; proto 0 1 0; yield 0 0 0; jump 0 -2",
		"open values":               "proto 0 9 1 vararg; closure 0 0; move 1 0 0; vararg 2 open 0; call 1 open 0; jump 0 -4; proto 0 3 0 vararg; vararg 0 open 0; return 0 open 0",
		"long texts":                "proto 2 9 0; concat 2 0 1; len 3 2 0; jump 0 -3",
		"questions of long texts":   "proto 2 9 0; eq 0 0 1; jump 0 0; less 0 0 1; jump 0 0; jump 0 -5",
		"shared registers":          "proto 0 250 1; closure 0 0; close 0 0 0; move 1 0 0; jump 0 -3; proto 0 1 0; up stack 1; return 0 0 0",
		"tables with keys of text":  "proto 1 5 0; newtable 1 0 0; settable 1 0 0; gettable 2 1 0; jump 0 -3",
		"a thread within a thread":  "proto 0 3 1; closure 0 0; move 1 0 0; create 2 0 0; move 1 0 0; resume 2 1 0; return 0 0 0; proto 1 3 0; create 1 0 0; move 2 0 0; resume 1 1 2; return 0 0 0",
		"an entry in and out again": "proto 1 5 0; newtable 1 0 0; settable 1 0 0; settable 1 0 3; jump 0 -3",
	} {
		c := chunkOf(text)
		args := plainValues(strings.Repeat("x", 500), strings.Repeat("x", 499)+"y")
		for range impl.MaxArgs - 2 {
			args = append(args, impl.Value{Kind: impl.KInt, Num: 1 << 40})
		}
		got, want := told(impl.Exec(c, args, impl.MaxFuel, impl.MaxDepth)), told(wantExec(c, args, impl.MaxFuel, impl.MaxDepth))
		if got != want {
			t.Errorf("%s: %s; want %s", what, got, want)
		}
	}
	if took := time.Since(began); took > 5*time.Minute {
		t.Errorf("it took %v", took)
	}
}
