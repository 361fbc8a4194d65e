package tests

import (
	"math"
	"slices"
	"strconv"
	"strings"
	"testing"
	"time"

	"loop.example/s02979/impl"
)

// chunkOf reads a chunk from lines or pieces between semicolons: proto PARAMS
// REGS KIDS [vararg]; int N, text S, true, false or nil for a constant; up
// stack N or up cell N; an instruction by its name and A S or A B C, with open for Open.
func chunkOf(text string) impl.Chunk {
	var c impl.Chunk
	for _, line := range strings.Split(strings.ReplaceAll(text, ";", "\n"), "\n") {
		if words := strings.Fields(line); len(words) > 0 {
			addLine(&c, words)
		}
	}
	return c
}

func addLine(c *impl.Chunk, words []string) {
	if words[0] == "proto" {
		c.Protos = append(c.Protos, impl.Proto{Params: numberOf(words[1]), Regs: numberOf(words[2]), Kids: numberOf(words[3]), Vararg: len(words) == 5})
		return
	}
	p := &c.Protos[len(c.Protos)-1]
	switch words[0] {
	case "nil":
		p.Consts = append(p.Consts, impl.Value{})
	case "true":
		p.Consts = append(p.Consts, impl.Value{Kind: impl.KBool, Num: 1})
	case "false":
		p.Consts = append(p.Consts, impl.Value{Kind: impl.KBool})
	case "int":
		p.Consts = append(p.Consts, impl.Value{Kind: impl.KInt, Num: int64(numberOf(words[1]))})
	case "text":
		p.Consts = append(p.Consts, impl.Value{Kind: impl.KText, Text: strings.Join(words[1:], " ")})
	case "up":
		p.Ups = append(p.Ups, impl.Up{Stack: words[1] == "stack", Index: numberOf(words[2])})
	default:
		p.Code = append(p.Code, wordOf(words))
	}
}

func wordOf(words []string) uint32 {
	op := slices.Index(strings.Fields(allNames), words[0])
	if op < 0 {
		panic("no operation: " + words[0])
	}
	if _, ok := usesOfTable[op]["S"]; ok {
		return wide(op, numberOf(words[1]), numberOf(words[2]))
	}
	return parts(op, numberOf(words[1]), numberOf(words[2]), numberOf(words[3]))
}

func numberOf(word string) int {
	if word == "open" {
		return impl.Open
	}
	n, err := strconv.Atoi(word)
	if err != nil {
		panic("no number: " + word)
	}
	return n
}

// plainValues makes plain values of what Go has in their place.
func plainValues(list ...any) []impl.Value {
	var out []impl.Value
	for _, x := range list {
		switch v := x.(type) {
		case nil:
			out = append(out, impl.Value{})
		case bool:
			out = append(out, shownValues([]simValue{simBool(v)})...)
		case int:
			out = append(out, impl.Value{Kind: impl.KInt, Num: int64(v)})
		case string:
			out = append(out, impl.Value{Kind: impl.KText, Text: v})
		}
	}
	return out
}

// checkRun asks for the outcome of a chunk, and that the oracle says the same.
func checkRun(t *testing.T, what string, text string, args []impl.Value, want string) {
	t.Helper()
	checkRunIn(t, what, text, args, 20000, 20, want)
}

func checkRunIn(t *testing.T, what string, text string, args []impl.Value, fuel int, depth int, want string) {
	t.Helper()
	if got := told(checkExec(t, chunkOf(text), args, fuel, depth)); got != want {
		t.Errorf("%s: %s; want %s", what, got, want)
	}
}

func TestMovesAndLoads(t *testing.T) {
	checkRun(t, "move", "proto 2 4 0; move 2 1 0; move 3 0 0; return 0 4 0", plainValues(7, "x"), `values 7 "x" "x" 7 / 3`)
	checkRun(t, "move to itself", "proto 1 1 0; move 0 0 0; return 0 1 0", plainValues(7), `values 7 / 2`)
	checkRun(t, "loadk", "proto 0 5 0; nil; true; false; int -3; text a b; loadk 0 4; loadk 1 3; loadk 2 2; loadk 3 1; loadk 4 0; return 0 5 0", nil,
		`values "a b" -3 false true nil / 6`)
	checkRun(t, "loadnil of one", "proto 3 3 0; loadnil 1 0 0; return 0 3 0", plainValues(1, 2, 3), `values 1 nil 3 / 2`)
	checkRun(t, "loadnil of more", "proto 4 4 0; loadnil 1 1 0; return 0 4 0", plainValues(1, 2, 3, 4), `values 1 nil nil 4 / 2`)
	checkRun(t, "loadnil of all", "proto 3 3 0; loadnil 0 2 0; return 0 3 0", plainValues(1, 2, 3), `values nil nil nil / 2`)
	checkRun(t, "loadbool", "proto 0 3 0; loadbool 0 0 0; loadbool 1 1 0; loadbool 2 9 0; return 0 3 0", nil, `values false true true / 4`)
	checkRun(t, "registers at first", "proto 0 3 0; return 0 3 0", nil, `values nil nil nil / 1`)
}

func TestArgumentsOfTheRoot(t *testing.T) {
	checkRun(t, "too few", "proto 3 4 0; return 0 4 0", plainValues(1, 2), `values 1 2 nil nil / 1`)
	checkRun(t, "too many", "proto 2 4 0; return 0 4 0", plainValues(1, 2, 3), `values 1 2 nil nil / 1`)
	checkRun(t, "too many, kept", "proto 2 5 0 vararg; vararg 2 3 0; return 0 5 0", plainValues(1, 2, 3, 4), `values 1 2 3 4 nil / 2`)
	checkRun(t, "all are kept", "proto 0 3 0 vararg; vararg 0 open 0; return 0 open 0", plainValues(true, false, nil, "", -1), `values true false nil "" -1 / 2`)
	checkRun(t, "those that are lost", "proto 1 3 0; vararg 1 2 0; return 0 3 0", plainValues(1, 2, 3), `values 1 nil nil / 2`)
	checkRun(t, "those that are lost, open", "proto 1 3 0; vararg 1 open 0; return 0 open 0", plainValues(1, 2, 3), `values 1 / 2`)
	checkRun(t, "no values", "proto 0 1 0; return 0 0 0", plainValues(1), `values / 1`)
}

func TestSums(t *testing.T) {
	most, least := math.MaxInt64, math.MinInt64
	for _, one := range []struct {
		name string
		n    int
		by   int
		want string
	}{
		{"add", 2, 3, "5"}, {"add", most, 1, "-9223372036854775808"}, {"add", least, -1, "9223372036854775807"}, {"add", least, least, "0"},
		{"sub", 2, 3, "-1"}, {"sub", least, 1, "9223372036854775807"}, {"sub", 0, least, "-9223372036854775808"}, {"sub", most, -1, "-9223372036854775808"},
		{"mul", -2, 3, "-6"}, {"mul", most, 2, "-2"}, {"mul", least, -1, "-9223372036854775808"}, {"mul", 1 << 32, 1 << 32, "0"},
		{"div", 7, 2, "3"}, {"div", -7, 2, "-3"}, {"div", 7, -2, "-3"}, {"div", -7, -2, "3"}, {"div", 1, 2, "0"}, {"div", least, -1, "-9223372036854775808"},
		{"div", least, 1, "-9223372036854775808"}, {"div", most, -1, "-9223372036854775807"}, {"div", least, least, "1"}, {"div", 0, 5, "0"},
		{"mod", 7, 2, "1"}, {"mod", -7, 2, "-1"}, {"mod", 7, -2, "1"}, {"mod", -7, -2, "-1"}, {"mod", least, -1, "0"}, {"mod", least, most, "-1"}, {"mod", 6, 3, "0"},
	} {
		text := "proto 2 3 0; " + one.name + " 2 0 1; return 0 3 0"
		want := "values " + strconv.Itoa(one.n) + " " + strconv.Itoa(one.by) + " " + one.want + " / 2"
		checkRun(t, one.name, text, plainValues(one.n, one.by), want)
	}
	for _, name := range []string{"div", "mod"} {
		for _, n := range []int{0, 1, -1, least, most} {
			checkRun(t, name+" by 0", "proto 2 3 0; "+name+" 2 0 1; return 2 1 0", plainValues(n, 0), "error 2 / 1")
		}
	}
	for n, want := range map[int]string{0: "0", 5: "-5", -5: "5", most: "-9223372036854775807", least: "-9223372036854775808"} {
		checkRun(t, "neg", "proto 1 2 0; neg 1 0 0; return 1 1 0", plainValues(n), "values "+want+" / 2")
	}
	checkRun(t, "a sum into one of its own", "proto 1 1 0; add 0 0 0; mul 0 0 0; return 0 1 0", plainValues(3), "values 36 / 3")
}

// things is code that puts a value of every kind into registers 0 to 7: nil,
// false, an integer, a text, a table, a closure, a thread, the text of an integer.
const things = `loadbool 1 0 0; loadk 2 0; loadk 3 1; newtable 4 0 0; closure 5 0; create 6 5 0; loadk 7 2;`

func withThings(code string) string {
	return "proto 0 20 1 vararg; int 2; text ab; text 2;" + things + code + "; return 10 4 0; proto 0 1 0; return 0 0 0"
}

// checkKinds asks of each kind of operand whether the instruction may have it;
// the place of the operand is held by an at sign.
func checkKinds(t *testing.T, code string, good string) {
	t.Helper()
	for kind := range 8 {
		text := withThings(strings.ReplaceAll(code, "@", strconv.Itoa(kind)))
		want := strings.Contains(good, strconv.Itoa(kind))
		o := checkExec(t, chunkOf(text), nil, 100, 5)
		if ok := o.Kind == impl.OutValues; ok != want || !ok && told(o) != "error 1 / "+strconv.Itoa(o.Steps) {
			t.Errorf("%s with kind %d: %s", code, kind, told(o))
		}
	}
}

func TestKindsOfOperands(t *testing.T) {
	for _, name := range []string{"add", "sub", "mul", "div", "mod"} {
		checkKinds(t, name+" 10 @ 2", "2")
		checkKinds(t, name+" 10 2 @", "2")
	}
	checkKinds(t, "concat 10 @ 3", "237")
	checkKinds(t, "concat 10 3 @", "237")
	checkKinds(t, "concat 10 @ 2", "237")
	checkKinds(t, "not 10 @ 0", "01234567")
	checkKinds(t, "neg 10 @ 0", "2")
	checkKinds(t, "len 10 @ 0", "347")
	checkKinds(t, "less 0 @ 2; jump 0 0", "2")
	checkKinds(t, "less 0 2 @; jump 0 0", "2")
	checkKinds(t, "less 0 @ 3; jump 0 0", "37")
	checkKinds(t, "less 0 3 @; jump 0 0", "37")
	checkKinds(t, "less 0 @ @; jump 0 0", "237")
	checkKinds(t, "eq 0 @ 2; jump 0 0", "01234567")
	checkKinds(t, "test @ 0 0; jump 0 0", "01234567")
	checkKinds(t, "gettable 10 @ 2", "4")
	checkKinds(t, "gettable 10 4 @", "01234567")
	checkKinds(t, "settable @ 2 2", "4")
	checkKinds(t, "settable 4 2 @", "01234567")
	checkKinds(t, "call @ 0 0", "5")
	checkKinds(t, "create 10 @ 0", "5")
	checkKinds(t, "resume @ 0 0", "6")
	checkKinds(t, "status 10 @ 0", "6")
	for _, name := range []string{"forprep", "forloop"} {
		checkKinds(t, "move 10 @ 0; move 11 2 0; move 12 2 0; "+name+" 10 0", "2")
		checkKinds(t, "move 10 2 0; move 11 @ 0; move 12 2 0; "+name+" 10 0", "2")
		checkKinds(t, "move 10 2 0; move 11 2 0; move 12 @ 0; "+name+" 10 0", "2")
	}
}

func TestTexts(t *testing.T) {
	text := "proto 2 4 0; concat 2 0 1; len 3 2 0; return 2 2 0"
	checkRun(t, "two texts", text, plainValues("ab", "c"), `values "abc" 3 / 3`)
	checkRun(t, "a text and an integer", text, plainValues("ab", -12), `values "ab-12" 5 / 3`)
	checkRun(t, "two integers", text, plainValues(0, 7), `values "07" 2 / 3`)
	checkRun(t, "the least and the greatest", text, plainValues(math.MinInt64, math.MaxInt64), `values "-92233720368547758089223372036854775807" 39 / 3`)
	checkRun(t, "empty ones", text, plainValues("", ""), `values "" 0 / 3`)
	checkRun(t, "bytes", text, plainValues("\xff\x00", "é"), `values `+strconv.Quote("\xff\x00é")+` 4 / 3`)
	for over, want := range []string{"values 1000 / 3", "error 5 / 1"} {
		short := "proto 2 4 0; concat 2 0 1; len 3 2 0; return 3 1 0"
		full := strings.Repeat("x", impl.MaxText)
		checkRun(t, "two texts of MaxText", short, plainValues(full[:600], full[:400+over]), want)
		checkRun(t, "a text of MaxText and none", short, plainValues(full, full[:over]), want)
		checkRun(t, "none and a text of MaxText", short, plainValues(full[:over], full), want)
		checkRun(t, "an integer and a text", short, plainValues(-5, full[:998+over]), want)
	}
}

// tableCode is code that fills table 0 with what the constants name: keys and values by turns.
func tableCode(consts int) string {
	code := "newtable 0 0 0;"
	for k := 0; k < consts; k += 2 {
		code += "loadk 1 " + strconv.Itoa(k) + "; loadk 2 " + strconv.Itoa(k+1) + "; settable 0 1 2;"
	}
	return code
}

func TestTables(t *testing.T) {
	checkRun(t, "nothing in it", "proto 2 5 0; newtable 2 0 0; gettable 3 2 0; gettable 4 2 1; len 2 2 0; return 2 3 0", plainValues(1, nil), "values 0 nil nil / 5")
	all := "proto 0 9 0; int 1; text one; text 1; int 10; true; text yes; false; text no;" + tableCode(8)
	checkRun(t, "keys of every plain kind", all+"loadk 1 0; gettable 3 0 1; loadk 1 2; gettable 4 0 1; loadk 1 4; gettable 5 0 1; loadk 1 6; gettable 6 0 1; gettable 7 0 8; return 3 5 0",
		nil, `values "one" 10 "yes" "no" nil / 23`)
	checkRun(t, "keys that are things", withThings(`settable 4 4 2; settable 4 5 3; settable 4 6 7; newtable 8 0 0; closure 9 0;
		gettable 10 4 4; gettable 11 4 5; gettable 12 4 6; gettable 13 4 8; gettable 14 4 9; create 15 5 0; gettable 16 4 15; return 10 7 0`),
		nil, `values 2 "ab" "2" nil nil thread nil / 20`)
	checkRun(t, "another value", "proto 3 5 0; newtable 3 0 0; settable 3 0 1; settable 3 0 2; gettable 4 3 0; len 3 3 0; return 3 2 0", plainValues(1, 5, 6), "values 1 6 / 6")
	checkRun(t, "taken out", "proto 2 6 0; newtable 3 0 0; settable 3 0 1; settable 3 0 2; gettable 4 3 0; len 5 3 0; return 4 2 0", plainValues(1, 5), "values nil 0 / 6")
	checkRun(t, "taken out where nothing is", "proto 2 6 0; newtable 3 0 0; settable 3 0 2; gettable 4 3 0; len 5 3 0; return 4 2 0", plainValues(1), "values nil 0 / 5")
	checkRun(t, "false is a value", "proto 2 5 0; newtable 2 0 0; settable 2 0 1; gettable 3 2 0; len 4 2 0; return 3 2 0", plainValues(1, false), "values false 1 / 5")
	checkRun(t, "nil as a key", "proto 0 3 0; newtable 0 0 0; settable 0 1 0; return 0 0 0", nil, "error 8 / 2")
	checkRun(t, "nil as a key and a value", "proto 0 3 0; newtable 0 0 0; settable 0 1 1; return 0 0 0", nil, "error 8 / 2")
	checkRun(t, "one table by two names", "proto 1 4 0; newtable 1 0 0; move 2 1 0; settable 2 0 0; gettable 3 1 0; return 3 1 0", plainValues(4), "values 4 / 5")
	checkRun(t, "in itself", "proto 1 4 0; newtable 1 0 0; settable 1 0 1; gettable 2 1 0; gettable 2 2 0; return 1 2 0", plainValues(4), "values table table / 5")
}

func TestLengthsOfTables(t *testing.T) {
	run := func(want int, keys ...int) {
		t.Helper()
		text := "proto 0 4 0; int " + strconv.Itoa(want)
		code := "newtable 0 0 0; loadbool 2 0 0;"
		for k, n := range keys {
			text += "; int " + strconv.Itoa(max(n, -n))
			code += "loadk 1 " + strconv.Itoa(k+1) + "; settable 0 1 " + map[bool]string{true: "2", false: "3"}[n > 0] + ";"
		}
		o := checkExec(t, chunkOf(text+";"+code+"len 1 0 0; return 1 1 0"), nil, 500, 1)
		if got := told(o); !strings.HasPrefix(got, "values "+strconv.Itoa(want)+" /") {
			t.Errorf("after the keys %v (taken out where below 0): %s; want %d", keys, got, want)
		}
	}
	run(0)
	run(0, 2)
	run(1, 1)
	run(3, 1, 2, 3)
	run(3, 3, 2, 1)
	run(4, 4, 2, 1, 3, 9)
	run(1, 1, 3)
	run(2, 1, 2, 3, -3)
	run(1, 1, 2, 3, -2)
	run(0, 1, 2, 3, -1)
	run(3, 1, 2, 3, -1, 1)
	run(3, 1, 2, 3, -2, -7, 2)
	run(2, 1, 2, -3)
	run(5, 5, 4, 3, 2, 1)
	run(1, 5, 4, 3, 2, 1, -2, -1, 1)
	for _, key := range []int{0, -1, math.MinInt64, math.MaxInt64, 4} {
		text := "proto 1 5 0; int 1; int 7; int 2; int 7; int 3; int 7; move 3 0 0;" + tableCode(6) + "settable 0 3 1; settable 0 3 4; len 1 0 0; return 1 1 0"
		checkRun(t, "a key that does not count is taken out", text, plainValues(key), "values 3 / 15")
	}
	checkRun(t, "keys that are no integers above 0", `proto 0 5 0; int 0; int 0; int -1; int 0; text 1; int 0; true; int 0; int -9223372036854775808; int 0; int 9223372036854775807; int 0;`+
		tableCode(12)+"len 1 0 0; return 1 1 0", nil, "values 0 / 21")
}

// A length is asked again and again of a table that is as great as can be.
func TestLengthOfTheGreatestTable(t *testing.T) {
	c := chunkOf(`proto 0 8 0; int 1; int 4999; int 90000; newtable 4 0 0; loadk 0 0; loadk 1 1; loadk 2 0;
		forprep 0 2; settable 4 3 3; forloop 0 -2; loadk 0 0; loadk 1 2; forprep 0 2; len 5 4 0; forloop 0 -2; return 5 1 0`)
	began := time.Now()
	if got := told(impl.Exec(c, nil, impl.MaxFuel, 1)); got != "values 4999 / 190007" {
		t.Errorf("%s", got)
	}
	if took := time.Since(began); took > 20*time.Second {
		t.Errorf("it took %v", took)
	}
}

func TestQuestions(t *testing.T) {
	// Register 2 is 1 if the jump is made and 5 if it is skipped.
	ask := func(code string, args []impl.Value, jumps bool) {
		t.Helper()
		text := "proto 2 4 0; int 1; int 5; loadk 2 0; " + code + "; jump 0 1; loadk 2 1; return 2 1 0"
		want := "values 5 / 4"
		if jumps {
			want = "values 1 / 4"
		}
		checkRun(t, code, text, args, want)
	}
	both := func(name string, x any, y any, yes bool) {
		t.Helper()
		ask(name+" 1 0 1", plainValues(x, y), yes)
		ask(name+" 0 0 1", plainValues(x, y), !yes)
		ask(name+" 77 0 1", plainValues(x, y), yes)
	}
	for k, x := range []any{nil, false, true, 0, 1, -1, "", "0", "1", "nil", "a"} {
		for m, y := range []any{nil, false, true, 0, 1, -1, "", "0", "1", "nil", "a"} {
			both("eq", x, y, k == m)
		}
		yes := k > 1
		ask("test 0 0 1", plainValues(x), yes)
		ask("test 0 0 0", plainValues(x), !yes)
		ask("test 0 0 500", plainValues(x), yes)
	}
	numbers := []int{math.MinInt64, -1, 0, 1, math.MaxInt64}
	texts := []string{"", "\x00", "A", "B", "a", "aa", "ab", "b", "\x7f", "\x80", "\xff"}
	for k, x := range numbers {
		for m, y := range numbers {
			both("less", x, y, k < m)
		}
	}
	for k, x := range texts {
		for m, y := range texts {
			both("less", x, y, k < m)
		}
	}
	checkRun(t, "an integer and a text", "proto 2 2 0; less 0 0 1; jump 0 0; return 0 0 0", plainValues(1, "1"), "error 1 / 1")
	checkRun(t, "two of a kind that has no order", "proto 2 2 0; less 0 0 1; jump 0 0; return 0 0 0", plainValues(true, true), "error 1 / 1")
}

func TestThingsAreEqualOnlyToThemselves(t *testing.T) {
	for _, one := range []struct {
		code string
		want string
	}{
		{"move 8 4 0; eq 1 8 4", "1"}, {"newtable 8 0 0; eq 1 8 4", "0"},
		{"move 8 5 0; eq 1 8 5", "1"}, {"closure 8 0; eq 1 8 5", "0"},
		{"move 8 6 0; eq 1 8 6", "1"}, {"create 8 5 0; eq 1 8 6", "0"},
		{"move 8 0 0; eq 1 4 5", "0"}, {"move 8 0 0; eq 1 5 6", "0"}, {"move 8 0 0; eq 1 0 4", "0"},
	} {
		text := withThings("loadbool 10 1 0; " + one.code + "; jump 0 1; loadbool 10 0 0; return 10 1 0")
		want := map[string]string{"1": "values true / 12", "0": "values false / 12"}[one.want]
		checkRun(t, one.code, text, nil, want)
	}
	checkRun(t, "all things are true", withThings("loadbool 10 0 0; test 4 0 1; jump 0 1; return 0 0 0; test 5 0 1; jump 0 1; return 0 0 0; test 6 0 1; jump 0 1; return 0 0 0; not 11 4 0; return 10 2 0"),
		nil, "values false false / 16")
}

func TestJumps(t *testing.T) {
	checkRun(t, "on", "proto 0 1 0; int 1; jump 0 1; loadk 0 0; return 0 1 0", nil, "values nil / 2")
	checkRun(t, "to the next", "proto 0 1 0; int 1; jump 0 0; loadk 0 0; return 0 1 0", nil, "values 1 / 3")
	checkRun(t, "back", "proto 0 1 0; int 1; jump 0 1; return 0 1 0; loadk 0 0; jump 0 -3", nil, "values 1 / 4")
	checkRun(t, "over and over", "proto 0 1 0; jump 0 -1", nil, "fuel / 20000")
	checkRun(t, "with an A that means nothing", "proto 0 1 0; jump 200 1; jump 0 -1; return 0 0 0", nil, "values / 2")
}

// loopText counts the rounds of a loop and adds up its numbers.
const loopText = `proto 3 8 0; int 0; int 1; loadk 5 0; loadk 6 0; loadk 7 1; forprep 0 3; add 5 5 7; add 6 6 3; forloop 0 -3; return 0 7 0`

func TestLoops(t *testing.T) {
	most, least := math.MaxInt64, math.MinInt64
	for _, one := range []struct {
		from, to, step int
		want           string
	}{
		{1, 4, 1, "4 4 1 4 nil 4 10 / 17"},
		{1, 1, 1, "1 1 1 1 nil 1 1 / 8"},
		{2, 1, 1, "2 1 1 nil nil 0 0 / 5"},
		{1, 4, 2, "3 4 2 3 nil 2 4 / 11"},
		{4, 1, -1, "1 1 -1 1 nil 4 10 / 17"},
		{4, 1, -2, "2 1 -2 2 nil 2 6 / 11"},
		{1, 1, -1, "1 1 -1 1 nil 1 1 / 8"},
		{1, 2, -1, "1 2 -1 nil nil 0 0 / 5"},
		{most - 1, most, 1, "9223372036854775807 9223372036854775807 1 9223372036854775807 nil 2 -3 / 11"},
		{most, most, most, "9223372036854775807 9223372036854775807 9223372036854775807 9223372036854775807 nil 1 9223372036854775807 / 8"},
		{most - 2, most, 2, "9223372036854775807 9223372036854775807 2 9223372036854775807 nil 2 -4 / 11"},
		{most - 1, most, 2, "9223372036854775806 9223372036854775807 2 9223372036854775806 nil 1 9223372036854775806 / 8"},
		{least + 1, least, -1, "-9223372036854775808 -9223372036854775808 -1 -9223372036854775808 nil 2 1 / 11"},
		{least, least, least, "-9223372036854775808 -9223372036854775808 -9223372036854775808 -9223372036854775808 nil 1 -9223372036854775808 / 8"},
		{least, most, most, "9223372036854775806 9223372036854775807 9223372036854775807 9223372036854775806 nil 3 -3 / 14"},
		{most, least, least, "-1 -9223372036854775808 -9223372036854775808 -1 nil 2 9223372036854775806 / 11"},
		{-1, least, least, "-1 -9223372036854775808 -9223372036854775808 -1 nil 1 -1 / 8"},
		{0, least, least, "-9223372036854775808 -9223372036854775808 -9223372036854775808 -9223372036854775808 nil 2 -9223372036854775808 / 11"},
	} {
		checkRun(t, "a loop", loopText, plainValues(one.from, one.to, one.step), "values "+one.want)
	}
	checkRun(t, "a step of 0", loopText, plainValues(1, 4, 0), "error 1 / 4")
	checkRun(t, "a step of 0 where there is no round", loopText, plainValues(4, 1, 0), "error 1 / 4")
	checkRun(t, "a loop without a head", "proto 3 4 0; forloop 0 -1; return 0 4 0", plainValues(1, 3, 1), "values 3 3 1 3 / 4")
	checkRun(t, "a loop alone with a step of 0", "proto 3 4 0; forloop 0 -1; return 0 4 0", plainValues(1, 3, 0), "error 1 / 1")
	checkRun(t, "a head without a loop", "proto 3 4 0; forprep 0 1; move 0 0 0; return 0 4 0", plainValues(4, 3, 1), "values 4 3 1 nil / 2")
	checkRun(t, "a number that is changed within", "proto 3 5 0; int 9; forprep 0 2; loadk 3 0; forloop 0 -2; return 0 4 0", plainValues(1, 2, 1), "values 2 2 1 9 / 6")
	checkRun(t, "a step that is changed to 0", "proto 3 5 0; int 0; forprep 0 2; loadk 2 0; forloop 0 -2; return 0 4 0", plainValues(1, 2, 1), "error 1 / 3")
	checkRun(t, "a step that is changed to nil", "proto 3 5 0; nil; forprep 0 2; loadk 2 0; forloop 0 -2; return 0 4 0", plainValues(1, 2, 1), "error 1 / 3")
}

func TestCalls(t *testing.T) {
	kid := "proto 1 5 0 vararg; vararg 1 2 0; return 0 3 0"
	root := func(code string) string { return "proto 2 9 1 vararg; closure 2 0; " + code + ";" + kid }
	checkRun(t, "too few arguments", root("call 2 0 3; return 2 3 0"), nil, "values nil nil nil / 5")
	checkRun(t, "as many as it asks for", root("move 3 0 0; move 4 1 0; move 5 0 0; call 2 3 3; return 2 3 0"), plainValues(1, 2), "values 1 2 1 / 8")
	checkRun(t, "more than it asks for", root("move 3 0 0; move 4 1 0; move 5 0 0; move 6 1 0; call 2 4 3; return 2 4 0"), plainValues(1, 2), "values 1 2 1 1 / 9")
	checkRun(t, "fewer values are taken", root("move 3 0 0; move 4 1 0; call 2 2 1; return 2 3 0"), plainValues(1, 2), "values 1 1 2 / 7")
	checkRun(t, "no value is taken", root("move 3 0 0; call 2 1 0; return 2 2 0"), plainValues(1), "values closure 1 / 6")
	checkRun(t, "more values than there are", root("move 6 0 0; call 2 0 5; return 2 6 0"), plainValues(1), "values nil nil nil nil nil nil / 6")
	checkRun(t, "open to it", root("vararg 3 open 0; call 2 open 3; return 2 3 0"), plainValues(1, 2, 3, 4, 5, 6), "values 3 4 5 / 6")
	checkRun(t, "open behind a register", root("move 3 0 0; vararg 4 open 0; call 2 open 3; return 2 3 0"), plainValues(1, 2, 3, 4, 5), "values 1 3 4 / 7")
	checkRun(t, "open and none", root("vararg 3 open 0; call 2 open 3; return 2 3 0"), plainValues(1, 2), "values nil nil nil / 6")
	checkRun(t, "open from it", root("move 3 0 0; call 2 1 open; return 2 open 0"), plainValues(1, 2), "values 1 nil nil / 6")
	checkRun(t, "open from it behind registers", root("move 3 0 0; call 2 1 open; return 0 open 0"), plainValues(8, 9), "values 8 9 8 nil nil / 6")
	checkRun(t, "open to it and from it", root("vararg 3 open 0; call 2 open open; return 2 open 0"), plainValues(1, 2, 3), "values 3 nil nil / 6")
	checkRun(t, "twice", root("move 4 2 0; vararg 5 open 0; call 4 open open; move 0 0 0; return 0 0 0"), plainValues(1, 2, 3), "wrong / 7")
	checkRun(t, "one within the other", root("move 3 2 0; vararg 4 open 0; call 3 open open; call 2 open open; return 2 open 0"), plainValues(1, 2, 3), "values 3 nil nil / 10")
	checkRun(t, "no values from one without a return of any", "proto 0 3 1; closure 0 0; call 0 0 open; return 0 open 0; proto 0 1 0; return 0 0 0", nil, "values / 4")
	checkRun(t, "registers stay", "proto 1 4 1; closure 1 0; call 1 0 0; return 0 1 0; proto 1 2 0; int 5; loadk 0 0; return 0 0 0", plainValues(7), "values 7 / 5")
}

// A child's children are found by where the trees of those before them end.
func TestChildren(t *testing.T) {
	ret := func(n int, kids int, code string) string {
		return "proto 0 4 " + strconv.Itoa(kids) + "; int " + strconv.Itoa(n) + ";" + code + "loadk 0 0; return 0 4 0;"
	}
	tree := func(child int) string {
		deep := "closure 1 0; call 1 0 1; closure 2 1; call 2 0 1;"
		return "proto 0 4 3; closure 0 " + strconv.Itoa(child) + "; call 0 0 3; return 0 3 0;" +
			ret(10, 1, "closure 1 0; call 1 0 1;") + ret(11, 0, "") +
			ret(20, 2, deep) + ret(21, 1, "") + ret(22, 0, "") + ret(23, 0, "") +
			ret(30, 0, "")
	}
	checkRun(t, "child 0", tree(0), nil, "values 10 11 nil / 9")
	checkRun(t, "child 1", tree(1), nil, "values 20 21 23 / 13")
	checkRun(t, "child 2", tree(2), nil, "values 30 nil nil / 5")
}

func TestRecursion(t *testing.T) {
	// The sum of the numbers from 1 to its argument, by a call of itself for all below it.
	sum := `proto 1 5 1; closure 1 0; move 2 1 0; move 3 0 0; call 2 1 1; return 2 1 0;
		proto 1 6 0; int 0; int 1; up stack 1; loadk 1 0; less 1 1 0; jump 0 1; return 1 1 0;
		getup 2 0 0; loadk 3 1; sub 3 0 3; call 2 1 1; add 2 2 0; return 2 1 0`
	checkRun(t, "sum", sum, plainValues(4), "values 10 / 44")
	for n, want := range map[int]string{17: "values 153", 18: "values 171", 19: "error 4", 20: "error 4"} {
		if got := told(checkExec(t, chunkOf(sum), plainValues(n), 20000, 20)); !strings.HasPrefix(got, want+" /") {
			t.Errorf("the sum to %d: %s", n, got)
		}
	}
}

// counter is a child that adds 1 to its first upvalue and gives it back.
const counter = `int 1; getup 0 0 0; loadk 1 0; add 0 0 1; setup 0 0 0; return 0 1 0;`

func TestSharedCells(t *testing.T) {
	child := "proto 0 4 0; up stack 0;" + counter
	checkRun(t, "a closure and its register", `proto 1 9 1; closure 1 0; move 2 1 0; call 2 0 1; move 3 0 0; return 2 2 0;`+child, plainValues(5), "values 6 6 / 10")
	checkRun(t, "what is written to the register", `proto 2 9 1; closure 2 0; move 0 1 0; call 2 0 1; return 0 3 0;`+child, plainValues(5, 20), "values 21 20 21 / 9")
	checkRun(t, "two closures", `proto 1 9 1; closure 1 0; closure 2 0; move 3 1 0; call 3 0 1; move 4 2 0; call 4 0 1; move 5 1 0; call 5 0 1; return 3 3 0;`+child, plainValues(5), "values 6 7 8 / 24")
	checkRun(t, "after close", `proto 1 9 1; closure 1 0; move 3 1 0; call 3 0 1; close 0 0 0; move 4 1 0; call 4 0 1; move 5 0 0; closure 2 0; move 6 2 0; call 6 0 1; move 7 1 0; call 7 0 1; return 3 5 0;`+child,
		plainValues(5), "values 6 7 6 7 8 / 33")
	checkRun(t, "two closures share after close", `proto 1 9 1; closure 1 0; closure 2 0; close 0 0 0; move 3 1 0; call 3 0 1; move 4 2 0; call 4 0 1; move 5 0 0; return 3 3 0;`+child, plainValues(5), "values 6 7 5 / 19")
	checkRun(t, "close of what is behind", `proto 1 9 1; closure 1 0; close 1 0 0; move 2 1 0; call 2 0 1; move 3 0 0; return 2 2 0;`+child, plainValues(5), "values 6 6 / 11")
	checkRun(t, "close of what is before", `proto 2 9 1; closure 2 0; close 0 0 0; call 2 0 1; return 0 3 0; proto 0 4 0; up stack 1;`+counter, plainValues(4, 5), "values 4 5 6 / 9")
	checkRun(t, "close where nothing is shared", `proto 2 3 0; close 0 0 0; return 0 2 0`, plainValues(4, 5), "values 4 5 / 2")
	checkRun(t, "a cell outlives its frame", `proto 0 9 1; closure 0 0; call 0 0 1; move 1 0 0; call 1 0 1; move 2 0 0; call 2 0 1; return 1 2 0;
		proto 0 3 1; int 7; loadk 0 0; closure 1 0; return 1 1 0;`+child, nil, "values 8 9 / 20")
	checkRun(t, "each frame has a cell of its own", `proto 0 9 1; closure 0 0; move 1 0 0; call 1 0 1; move 2 0 0; call 2 0 1; move 3 1 0; call 3 0 1; move 4 1 0; call 4 0 1; move 5 2 0; call 5 0 1; return 3 3 0;
		proto 0 3 1; int 7; loadk 0 0; closure 1 0; return 1 1 0;`+child, nil, "values 8 9 8 / 33")
	checkRun(t, "a closure that holds itself", `proto 0 3 1; closure 0 0; move 1 0 0; call 1 0 1; eq 1 0 1; jump 0 1; return 2 1 0; return 0 2 0; proto 0 1 0; up stack 0; getup 0 0 0; return 0 1 0`,
		nil, "values closure closure / 8")
	checkRun(t, "the same register twice", `proto 1 4 1; closure 1 0; call 1 0 1; return 0 2 0; proto 0 4 0; up stack 0; up stack 0; int 1; getup 0 0 0; loadk 1 0; add 0 0 1; setup 0 0 0; getup 2 1 0; return 2 1 0`,
		plainValues(5), "values 6 6 / 9")
}

func TestUpvaluesOfUpvalues(t *testing.T) {
	checkRun(t, "a cell handed on", `proto 1 5 1; closure 1 0; move 2 1 0; call 2 0 1; call 2 0 1; move 3 0 0; return 2 2 0;
		proto 0 3 1; up stack 0; closure 0 0; return 0 1 0;
		proto 0 4 0; up cell 0;`+counter, plainValues(5), "values 6 6 / 13")
	checkRun(t, "in their order", `proto 3 6 1; closure 3 0; call 3 0 3; return 3 3 0;
		proto 2 5 1; up stack 2; up stack 0; int 8; loadk 0 0; closure 2 0; call 2 0 3; return 2 3 0;
		proto 0 3 0; up cell 1; up stack 0; up cell 0; getup 0 0 0; getup 1 1 0; getup 2 2 0; return 0 3 0`, plainValues(1, 2, 3), "values 1 8 3 / 11")
	checkRun(t, "two upvalues with a cell each", `proto 2 6 1; closure 2 0; call 2 0 2; return 0 4 0;
		proto 0 2 0; up stack 1; up stack 0; getup 0 0 0; getup 1 1 0; setup 0 1 0; setup 1 0 0; return 0 2 0`, plainValues(1, 2), "values 2 1 2 1 / 8")
}

// Whatever writes a register writes its cell; register 0 is shared in all of them.
func TestWhatIsWrittenIntoSharedRegisters(t *testing.T) {
	look := "; move 9 8 0; call 9 0 1; move 1 0 0; move 10 1 0; return 9 2 0; proto 0 1 0; up stack 0; getup 0 0 0; return 0 1 0; proto 0 2 0; int 3; int 4; loadk 0 0; loadk 1 1; return 0 2 0"
	for code, want := range map[string]string{
		"move 0 1 0":                "6 6",
		"loadk 0 0":                 "9 9",
		"loadnil 0 3 0":             "nil nil",
		"loadbool 0 1 0":            "true true",
		"newtable 0 0 0":            "table table",
		"add 0 0 1":                 "11 11",
		"concat 0 0 1":              `"56" "56"`,
		"not 0 0 0":                 "false false",
		"vararg 0 1 0":              "7 7",
		"closure 0 1":               "closure closure",
		"closure 0 1; call 0 0 1":   "3 3",
		"closure 0 0; call 0 0 1":   "closure closure",
		"closure 0 1; create 0 0 0": "thread thread",
		"closure 0 1; create 0 0 0; status 0 0 0": `"suspended" "suspended"`,
	} {
		text := "proto 2 12 2 vararg; int 9; closure 8 0; " + code + look
		if got := told(checkExec(t, chunkOf(text), plainValues(5, 6, 7), 500, 20)); !strings.HasPrefix(got, "values "+want+" /") {
			t.Errorf("%s: %s; want %s", code, got, want)
		}
	}
	checkRun(t, "a loop over shared registers", `proto 3 9 1; closure 4 0; forprep 0 3; move 5 4 0; call 5 0 1; forloop 0 -3; return 0 6 0; proto 0 2 0; int 1; up stack 1; up stack 3; getup 0 0 0; loadk 1 0; sub 0 0 1; setup 0 0 0; getup 0 1 0; return 0 1 0`,
		plainValues(1, 6, 1), "values 3 3 1 3 closure 3 / 30")
}

func TestCoroutines(t *testing.T) {
	begin := "proto 2 12 1 vararg; closure 2 0; create 2 2 0;"
	echo := "proto 1 5 0 vararg; int 1; vararg 1 2 0; yield 0 3 4; return 0 4 0"
	checkRun(t, "never resumed", begin+"status 3 2 0; return 2 2 0;"+echo, nil, `values thread "suspended" / 4`)
	checkRun(t, "to its yield", begin+"move 3 0 0; move 4 1 0; resume 2 2 5; return 2 5 0;"+echo, plainValues(7, 8), "values true 7 8 nil nil / 8")
	checkRun(t, "to its end", begin+"move 8 2 0; move 3 0 0; resume 2 1 0; move 2 8 0; move 3 1 0; resume 2 1 6; status 9 8 0; return 2 8 0;"+echo, plainValues(7, 8),
		`values true 8 nil nil nil nil thread "dead" / 13`)
	checkRun(t, "open to it and from it", begin+"vararg 3 open 0; resume 2 open open; return 2 open 0;"+echo, plainValues(1, 2, 3, 4, 5, 6), "values true 3 4 5 / 7")
	checkRun(t, "open behind registers", begin+"move 3 0 0; vararg 4 open 0; resume 2 open open; return 0 open 0;"+echo, plainValues(1, 2, 3), "values 1 2 true 1 3 nil / 8")
	pipe := "proto 0 3 0 vararg; vararg 0 open 0; yield 0 open open; yield 0 open open; return 0 open 0"
	checkRun(t, "open within it", begin+`move 4 2 0; vararg 5 open 0; resume 4 open 0; move 4 2 0; move 5 0 0; resume 4 1 3; move 7 2 0; move 8 1 0; move 9 0 0; resume 7 2 open; return 4 open 0;`+pipe, plainValues(1, 2, 3),
		"values true 1 nil true 2 1 / 17")
	checkRun(t, "a yield behind registers", begin+`vararg 3 open 0; resume 2 open open; return 2 open 0; proto 1 4 0 vararg; vararg 2 open 0; yield 0 open 0; return 0 0 0`, plainValues(0, 0, 5, 6, 7), "values true 5 nil 6 7 / 7")
	checkRun(t, "a yield of none", begin+`resume 2 0 open; return 2 open 0; proto 1 4 0; yield 0 0 0; return 0 0 0`, nil, "values true / 5")
	checkRun(t, "an end with none", begin+`resume 2 0 open; return 2 open 0; proto 1 4 0; return 0 0 0`, nil, "values true / 5")
	checkRun(t, "nothing is taken", begin+`resume 2 0 0; return 2 1 0; proto 1 4 0; return 0 0 0`, nil, "values thread / 5")
	checkRun(t, "a yield within a call", begin+`move 3 2 0; resume 3 0 2; resume 2 0 2; return 2 3 0; proto 0 3 1; closure 0 0; call 0 0 1; return 0 1 0;
		proto 0 3 0; int 4; int 5; loadk 0 0; yield 0 1 0; loadk 0 1; return 0 1 0`, nil, "values true 5 4 / 13")
}

// A generator of the numbers from 1 on, resumed by a loop; it is suspended at the end.
func TestGenerator(t *testing.T) {
	checkRun(t, "a generator", `proto 1 12 1; int 1; int 0; closure 2 0; create 2 2 0; loadk 3 0; move 4 0 0; loadk 5 0; loadk 7 1; forprep 3 4; move 8 2 0; resume 8 0 2; add 7 7 9; forloop 3 -4; status 8 2 0; return 7 2 0;
		proto 0 3 0; int 1; loadk 0 0; loadk 1 0; yield 0 1 0; add 0 0 1; jump 0 -3`, plainValues(10), `values 55 "suspended" / 79`)
}

func TestCoroutinesWithinCoroutines(t *testing.T) {
	// 0 resumes 1, 1 resumes 2; 2 yields to 1 and 1 yields that on, with one more value.
	checkRun(t, "handed on", `proto 1 9 1; closure 1 0; create 1 1 0; move 2 1 0; move 3 0 0; resume 2 1 4; move 6 1 0; resume 6 0 2; status 8 1 0; return 2 7 0;
		proto 1 6 1; int 1; closure 1 0; create 1 1 0; move 3 0 0; move 2 1 0; resume 2 1 2; loadk 4 0; yield 2 3 0; move 2 1 0; resume 2 0 2; status 5 1 0; return 3 3 0;
		proto 1 3 0; add 0 0 0; yield 0 1 0; add 0 0 0; return 0 1 0`, plainValues(5), `values true true 10 1 true 20 "dead" / 24`)
	checkRun(t, "each to its own resumer", `proto 0 9 2; closure 0 0; create 0 0 0; closure 1 1; create 1 1 0; move 2 1 0; move 3 0 0; resume 2 1 3; resume 0 0 2; return 0 5 0;
		proto 0 3 0; int 1; int 2; loadk 0 0; yield 0 1 0; loadk 0 1; return 0 1 0;
		proto 1 4 0; resume 0 0 2; return 0 2 0`, nil, "values true 2 true true 1 / 15")
}

func TestStatus(t *testing.T) {
	// The thread in register 0 is known to all below by an upvalue.
	checkRun(t, "of itself", `proto 0 4 1; closure 0 0; create 0 0 0; move 1 0 0; resume 1 0 2; status 3 0 0; return 1 3 0; proto 0 2 0; up stack 0; getup 0 0 0; status 0 0 0; return 0 1 0`, nil,
		`values true "running" "dead" / 9`)
	checkRun(t, "of its resumer", `proto 0 4 1; closure 0 0; create 0 0 0; move 1 0 0; resume 1 0 3; return 1 3 0;
		proto 0 3 1; up stack 0; closure 0 0; create 0 0 0; resume 0 0 2; getup 2 0 0; status 2 2 0; return 1 2 0;
		proto 0 2 0; up cell 0; getup 0 0 0; status 0 0 0; return 0 1 0`, nil, `values true "normal" "running" / 14`)
	checkRun(t, "of one that yields", `proto 0 4 1; closure 0 0; create 0 0 0; move 1 0 0; resume 1 0 0; status 1 0 0; return 1 1 0; proto 0 1 0; yield 0 0 0; return 0 0 0`, nil, `values "suspended" / 7`)
	checkRun(t, "of one that failed", `proto 0 4 1; closure 0 0; create 0 0 0; move 1 0 0; resume 1 0 0; status 1 0 0; return 1 1 0; proto 0 1 0; neg 0 0 0; return 0 0 0`, nil, `values "dead" / 7`)
}

func TestResumeOfWhatIsNotSuspended(t *testing.T) {
	dead := `proto 0 4 1; closure 0 0; create 0 0 0; move 1 0 0; resume 1 0 0; move 1 0 0; resume 1 0 2; return 1 2 0;`
	checkRun(t, "one that has ended", dead+"proto 0 1 0; return 0 0 0", nil, "error 3 / 7")
	checkRun(t, "one that has failed", dead+"proto 0 1 0; error 0 0 0", nil, "error 3 / 7")
	checkRun(t, "itself", `proto 0 4 1; closure 0 0; create 0 0 0; move 1 0 0; resume 1 0 3; return 1 3 0; proto 0 2 0; up stack 0; getup 0 0 0; resume 0 0 0; return 0 1 0`, nil, "values false 3 nil / 7")
	checkRun(t, "its resumer", `proto 0 5 1; closure 0 0; create 0 0 0; move 1 0 0; resume 1 0 4; status 0 0 0; return 0 5 0;
		proto 0 4 1; up stack 0; closure 0 0; create 0 0 0; move 3 0 0; resume 0 0 2; status 2 3 0; return 0 3 0;
		proto 0 2 0; up cell 0; getup 0 0 0; resume 0 0 0; return 0 1 0`, nil, `values "dead" true false 3 "dead" / 14`)
}

// manyValues writes count values from the list, nil where there are too few;
// all of them if count is Open.
func manyValues(list []string, count int) string {
	out := ""
	for k := range max(len(list), count) {
		if count != impl.Open && k >= count {
			break
		}
		if k < len(list) {
			out += " " + list[k]
		} else if count != impl.Open {
			out += " nil"
		}
	}
	return out
}

// Up to four values come from one side and up to five or all are taken by the other.
func TestTooFewAndTooManyValues(t *testing.T) {
	load := "int 1; int 2; int 3; int 4; loadk 1 0; loadk 2 1; loadk 3 2; loadk 4 3;"
	numbers := []string{"1", "2", "3", "4"}
	for given := range 5 {
		for _, taken := range []int{0, 1, 2, 3, 4, 5, impl.Open} {
			b, c := strconv.Itoa(given), strconv.Itoa(taken)
			list := numbers[:given]
			check := func(what string, text string, want string) {
				t.Helper()
				if got := told(checkExec(t, chunkOf(text), nil, 100, 9)); !strings.HasPrefix(got, "values"+want+" /") {
					t.Errorf("%s of %d, %d taken: %s; want%s", what, given, taken, got, want)
				}
			}
			check("return", "proto 0 9 1; closure 1 0; call 1 0 "+c+"; return 1 "+c+" 0; proto 0 9 0;"+load+"return 1 "+b+" 0", manyValues(list, taken))
			flag := append([]string{"true"}, list...)
			check("return to a resume", "proto 0 9 1; closure 1 0; create 1 1 0; resume 1 0 "+c+"; return 1 "+c+" 0; proto 0 9 0;"+load+"return 1 "+b+" 0", manyValues(flag, taken))
			check("yield", "proto 0 9 1; closure 1 0; create 1 1 0; resume 1 0 "+c+"; return 1 "+c+" 0; proto 0 9 0;"+load+"yield 1 "+b+" 0; return 0 0 0", manyValues(flag, taken))
			check("call", "proto 0 9 1;"+load+"closure 0 0; call 0 "+b+" open; return 0 open 0; proto 0 9 0 vararg; vararg 1 "+c+" 0; return 1 "+c+" 0", manyValues(list, taken))
			check("resume of a new one", "proto 0 9 1;"+load+"closure 0 0; create 0 0 0; resume 0 "+b+" open; return 0 open 0; proto 0 9 0 vararg; vararg 1 "+c+" 0; return 1 "+c+" 0", " true"+manyValues(list, taken))
			check("resume of a yield", "proto 0 9 1;"+load+"closure 0 0; create 0 0 0; move 5 0 0; resume 5 0 0; resume 0 "+b+" open; return 0 open 0; proto 0 9 0; yield 1 0 "+c+"; return 1 "+c+" 0", " true"+manyValues(list, taken))
			if taken == impl.Open {
				continue
			}
			check("parameters", "proto 0 9 1;"+load+"closure 0 0; call 0 "+b+" open; return 0 open 0; proto "+c+" 9 0; return 0 "+c+" 0", manyValues(list, taken))
			check("parameters and the rest", "proto 0 9 1;"+load+"closure 0 0; call 0 "+b+" open; return 0 open 0; proto "+c+" 9 0 vararg; vararg 6 open 0; return 6 open 0",
				manyValues(list[min(taken, given):], impl.Open))
		}
	}
}
