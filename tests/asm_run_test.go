package tests

import (
	"fmt"
	"math"
	"slices"
	"strings"
	"sync"
	"testing"

	"loop.example/s02979/impl"
)

func TestShow(t *testing.T) {
	most, more := strings.Repeat("x", impl.MaxText), strings.Repeat("x", impl.MaxText+1)
	for _, x := range []struct {
		v    impl.Value
		want string
	}{
		{impl.Value{}, "nil"},
		{impl.Value{Kind: impl.KBool}, "false"},
		{impl.Value{Kind: impl.KBool, Num: 1}, "true"},
		{impl.Value{Kind: impl.KInt}, "0"},
		{impl.Value{Kind: impl.KInt, Num: 1}, "1"},
		{impl.Value{Kind: impl.KInt, Num: -7}, "-7"},
		{impl.Value{Kind: impl.KInt, Num: math.MaxInt64}, "9223372036854775807"},
		{impl.Value{Kind: impl.KInt, Num: math.MinInt64}, "-9223372036854775808"},
		{impl.Value{Kind: impl.KText}, `""`},
		{impl.Value{Kind: impl.KText, Text: "a b"}, `"a b"`},
		{impl.Value{Kind: impl.KText, Text: "nil"}, `"nil"`},
		{impl.Value{Kind: impl.KText, Text: "\"\\\n\x00\xff\xc3\xa9%d"}, "\"\"\\\n\x00\xff\xc3\xa9%d\""},
		{impl.Value{Kind: impl.KText, Text: most}, `"` + most + `"`},
		{impl.Value{Kind: impl.KText, Text: more}, "?"},
		{impl.Value{Kind: impl.KText, Text: "a", Num: 1}, "?"},
		{impl.Value{Kind: impl.KText, Num: -1}, "?"},
		{impl.Value{Kind: impl.KNil, Num: 1}, "?"},
		{impl.Value{Kind: impl.KNil, Num: math.MinInt64}, "?"},
		{impl.Value{Kind: impl.KNil, Text: "a"}, "?"},
		{impl.Value{Kind: impl.KBool, Num: 2}, "?"},
		{impl.Value{Kind: impl.KBool, Num: -1}, "?"},
		{impl.Value{Kind: impl.KBool, Num: math.MaxInt64}, "?"},
		{impl.Value{Kind: impl.KBool, Text: "a"}, "?"},
		{impl.Value{Kind: impl.KBool, Num: 1, Text: "\x00"}, "?"},
		{impl.Value{Kind: impl.KInt, Text: "0"}, "?"},
		{impl.Value{Kind: impl.KInt, Num: 5, Text: " "}, "?"},
		{impl.Value{Kind: impl.KTable}, "table"},
		{impl.Value{Kind: impl.KClosure}, "closure"},
		{impl.Value{Kind: impl.KThread}, "thread"},
		{impl.Value{Kind: impl.KTable, Num: 5}, "table"},
		{impl.Value{Kind: impl.KClosure, Text: more}, "closure"},
		{impl.Value{Kind: impl.KThread, Num: -1, Text: "a"}, "thread"},
		{impl.Value{Kind: 7}, "?"},
		{impl.Value{Kind: -1}, "?"},
		{impl.Value{Kind: math.MaxInt}, "?"},
		{impl.Value{Kind: math.MinInt}, "?"},
		{impl.Value{Kind: 1 << 32}, "?"},
		{impl.Value{Kind: 256 + impl.KInt}, "?"},
	} {
		if got := impl.Show(x.v); got != x.want {
			t.Errorf("Show(%.100v) = %.100q; want %.100q", x.v, got, x.want)
		}
	}
	for b := range 256 {
		text := string([]byte{byte(b)})
		if got := impl.Show(impl.Value{Kind: impl.KText, Text: text}); got != `"`+text+`"` {
			t.Errorf("the byte %d is shown as %q", b, got)
		}
	}
}

// TestShowGoesByPlainValues asks a chunk which values are plain.
func TestShowGoesByPlainValues(t *testing.T) {
	texts := []string{"", "\x00", "a", strings.Repeat("a", impl.MaxText), strings.Repeat("a", impl.MaxText+1)}
	for kind := -2; kind < 10; kind++ {
		for _, n := range []int64{math.MinInt64, -1, 0, 1, 2, math.MaxInt64} {
			for _, text := range texts {
				v := impl.Value{Kind: kind, Num: n, Text: text}
				c := treeOf(0)
				c.Protos[0].Consts = []impl.Value{v}
				thing := kind == impl.KTable || kind == impl.KClosure || kind == impl.KThread
				if got := impl.Show(v) != "?"; got != (thing || impl.WellFormed(c)) {
					t.Errorf("Show(%.100v) = %.100q", v, impl.Show(v))
				}
			}
		}
	}
}

// wantShow shows what an Outcome can hold.
func wantShow(v impl.Value) string {
	switch v.Kind {
	case impl.KBool:
		return fmt.Sprint(v.Num != 0)
	case impl.KInt:
		return fmt.Sprint(v.Num)
	case impl.KText:
		return `"` + v.Text + `"`
	}
	return map[int]string{impl.KNil: "nil", impl.KTable: "table", impl.KClosure: "closure", impl.KThread: "thread"}[v.Kind]
}

// wantRun is promise 9: it leaves Assemble, Verify and Exec to the oracles.
func wantRun(text string, args []impl.Value, fuel int, depth int) string {
	c, code := wantAssemble(text)
	if code != 0 {
		return fmt.Sprintf("bad %d\n", code)
	}
	r := wanted{uses: usesOfTable}.verify(c)
	said := fmt.Sprintf("verify %d %d %d\n", r.Code, r.Proto, r.Pc)
	if r.Code != impl.VOk {
		return said
	}
	o := impl.Outcome{Kind: impl.OutBad}
	if fuel >= 0 && fuel <= impl.MaxFuel && depth >= 1 && depth <= impl.MaxDepth && len(args) <= impl.MaxArgs {
		o = wantExec(c, args, fuel, depth)
	}
	said += map[int]string{impl.OutValues: "values", impl.OutError: fmt.Sprintf("error %d", o.Err), impl.OutFuel: "fuel", impl.OutWrong: "wrong", impl.OutBad: "bad"}[o.Kind]
	for _, v := range o.Values {
		said += " " + wantShow(v)
	}
	return said + fmt.Sprintf("\nsteps %d\n", o.Steps)
}

// runCase is a text and what Run says of it with the args 6, "a b", true and nil.
type runCase struct {
	text string
	want string
}

func checkRuns(t *testing.T, fuel int, depth int, cases []runCase) {
	t.Helper()
	args := plainValues(6, "a b", true, nil)
	for _, x := range cases {
		got := impl.Run(x.text, args, fuel, depth)
		if got != x.want {
			t.Errorf("Run(%.200q) = %.200q; want %.200q", x.text, got, x.want)
		}
		if want := wantRun(x.text, args, fuel, depth); got != want {
			t.Errorf("Run(%.200q) = %.200q; the oracle says %.200q", x.text, got, want)
		}
	}
}

func TestRunOfTextsThatAreNotAssembled(t *testing.T) {
	checkRuns(t, 9, 9, []runCase{
		{"", "bad -1\n"},
		{"proto 0 1 0\n", "bad -1\n"},
		{"proto 0 1 1\nreturn 0 0 0\n", "bad -1\n"},
		{strings.Repeat("x", impl.MaxListing+1), "bad 1\n"},
		{strings.Repeat("x", impl.MaxListing), "bad 2\n"},
		{"look", "bad 2\n"},
		{"\n", "bad 2\n"},
		{"proto 0 1 0\nreturn 0 0", "bad 3\n"},
		{"proto 0 1 0\nreturn 0 0 0\nconst nil\n", "bad 4\n"},
		{"proto 0 1 0\n" + strings.Repeat("return 0 0 0\n", 1500) + "x", "bad 1503\n"},
	})
	// Wrong arguments are seen only where the text is run.
	if got := impl.Run("look", make([]impl.Value, 999), -1, -1); got != "bad 2\n" {
		t.Errorf("with wrong arguments %q", got)
	}
	if got := impl.Run("proto 0 1 0\nmove 0 1 0\n", []impl.Value{{Kind: 9}}, -1, -1); got != "verify 3 0 0\n" {
		t.Errorf("with wrong arguments %q", got)
	}
}

func TestRunOfWhatIsNotAccepted(t *testing.T) {
	checkRuns(t, 9, 9, []runCase{
		{"proto 0 1 0\nword 34\n", "verify 1 0 0\n"},
		{"proto 0 1 0\nreturn 0 0 0\nreturn 0 0 1\n", "verify 2 0 1\n"},
		{"proto 0 2 0\nmove 1 2 0\n", "verify 3 0 0\n"},
		{"proto 0 2 0\nloadk 0 0\n", "verify 4 0 0\n"},
		{"proto 0 2 0\nmove 0 0 0\ngetup 0 0 0\n", "verify 5 0 1\n"},
		{"proto 0 2 0\nclosure 0 0\n", "verify 6 0 0\n"},
		{"proto 0 2 0\njump 0 5\n", "verify 7 0 0\n"},
		{"proto 0 2 0\ntest 0 0 0\nreturn 0 0 0\n", "verify 8 0 0\n"},
		{"proto 0 2 0\nmove 0 0 0\n", "verify 9 0 0\n"},
		{"proto 0 2 1\nreturn 0 0 0\nproto 0 2 0\nmove 0 0 0\nreturn 0 511 0\n", "verify 10 1 1\n"},
		{"proto 0 2 0\nup stack 0\nreturn 0 0 0\n", "verify 11 0 1\n"},
	})
}

func TestRunOfEachOutcome(t *testing.T) {
	checkRuns(t, 9, 5, []runCase{
		{"proto 0 1 0\nreturn 0 0 0\n", "verify 0 0 0\nvalues\nsteps 1\n"},
		{"proto 0 1 0\nreturn 0 0 0", "verify 0 0 0\nvalues\nsteps 1\n"},
		{"proto 4 4 0\nreturn 0 4 0\n", "verify 0 0 0\nvalues 6 \"a b\" true nil\nsteps 1\n"},
		{"proto 2 3 0\nconst int -9223372036854775808\nconst text \nconst false\nloadk 0 0\nloadk 1 1\nloadk 2 2\nreturn 0 3 0", "verify 0 0 0\nvalues -9223372036854775808 \"\" false\nsteps 4\n"},
		{"proto 0 3 1\nnewtable 0 0 0\nclosure 1 0\ncreate 2 1 0\nreturn 0 3 0\nproto 0 1 0\nreturn 0 0 0\n", "verify 0 0 0\nvalues table closure thread\nsteps 4\n"},
		{"proto 0 1 0 vararg\nvararg 0 511 0\nreturn 0 511 0\n", "verify 0 0 0\nvalues 6 \"a b\" true nil\nsteps 2\n"},
		{"proto 0 1 0\nconst text 0a22ff00\nloadk 0 0\nreturn 0 1 0\n", "verify 0 0 0\nvalues \"\n\"\xff\x00\"\nsteps 2\n"},
		{"proto 1 2 0\nadd 1 0 1\nreturn 0 0 0\n", "verify 0 0 0\nerror 1\nsteps 1\n"},
		{"proto 1 2 0\nsub 1 0 0\ndiv 1 0 1\nreturn 0 0 0\n", "verify 0 0 0\nerror 2\nsteps 2\n"},
		{"proto 0 2 1\nclosure 0 0\ncreate 0 0 0\nmove 1 0 0\nresume 1 0 0\nmove 1 0 0\nresume 1 0 0\nreturn 0 0 0\nproto 0 1 0\nreturn 0 0 0\n", "verify 0 0 0\nerror 3\nsteps 7\n"},
		{"proto 1 2 0\nerror 0 0 0\n", "verify 0 0 0\nerror 6 6\nsteps 1\n"},
		{"proto 2 2 0\nerror 1 0 0\n", "verify 0 0 0\nerror 6 \"a b\"\nsteps 1\n"},
		{"proto 0 2 0\nerror 1 0 0\n", "verify 0 0 0\nerror 6 nil\nsteps 1\n"},
		{"proto 0 2 0\nnewtable 1 0 0\nerror 1 0 0\n", "verify 0 0 0\nerror 6 table\nsteps 2\n"},
		{"proto 0 1 0\nyield 0 0 0\nreturn 0 0 0\n", "verify 0 0 0\nerror 7\nsteps 1\n"},
		{"proto 0 2 0\nnewtable 0 0 0\nsettable 0 1 0\nreturn 0 0 0\n", "verify 0 0 0\nerror 8\nsteps 2\n"},
		{"proto 0 1 0\njump 0 -1\n", "verify 0 0 0\nfuel\nsteps 9\n"},
	})
}

func TestRunWithFuelAndDepth(t *testing.T) {
	call := "proto 0 1 1\nclosure 0 0\ncall 0 0 0\nreturn 0 0 0\nproto 0 1 0\nreturn 0 0 0\n"
	checkRuns(t, 9, 1, []runCase{{call, "verify 0 0 0\nerror 4\nsteps 2\n"}})
	checkRuns(t, 9, 2, []runCase{{call, "verify 0 0 0\nvalues\nsteps 4\n"}})
	checkRuns(t, 3, 2, []runCase{{call, "verify 0 0 0\nfuel\nsteps 3\n"}})
	checkRuns(t, 0, 2, []runCase{{call, "verify 0 0 0\nfuel\nsteps 0\n"}})
	tables := "proto 0 1 0\nnewtable 0 0 0\njump 0 -2\n"
	checkRuns(t, impl.MaxFuel, impl.MaxDepth, []runCase{
		{tables, "verify 0 0 0\nerror 5\nsteps 10001\n"},
		{"proto 0 1 0\njump 0 -1\n", "verify 0 0 0\nfuel\nsteps 200000\n"},
	})
}

func TestRunWithWrongArguments(t *testing.T) {
	text := head + done
	good := "verify 0 0 0\nvalues\nsteps 1\n"
	bad := "verify 0 0 0\nbad\nsteps 0\n"
	check := func(what string, args []impl.Value, fuel int, depth int, want string) {
		t.Helper()
		if got := impl.Run(text, args, fuel, depth); got != want {
			t.Errorf("%s: %q; want %q", what, got, want)
		}
	}
	check("nothing wrong", nil, 1, 1, good)
	check("as much as may be", make([]impl.Value, impl.MaxArgs), impl.MaxFuel, impl.MaxDepth, good)
	check("an argument too many", make([]impl.Value, impl.MaxArgs+1), 1, 1, bad)
	for _, fuel := range []int{-1, impl.MaxFuel + 1, math.MinInt, math.MaxInt} {
		check("a wrong fuel", nil, fuel, 1, bad)
	}
	for _, depth := range []int{0, -1, impl.MaxDepth + 1, math.MinInt, math.MaxInt} {
		check("a wrong depth", nil, 1, depth, bad)
	}
	for _, v := range []impl.Value{{Kind: impl.KTable}, {Kind: 7}, {Num: 1}, {Kind: impl.KText, Text: strings.Repeat("x", impl.MaxText+1)}} {
		check("an argument that is not plain", []impl.Value{{}, v}, 1, 1, bad)
	}
}

// Promise 9 of programs that run, of some that are not accepted, and of texts that are no listing.
func TestRunShowsWhatVerifyAndExecSay(t *testing.T) {
	next := numbers(90)
	seen := map[string]int{}
	for range 3000 {
		c := madeChunk(next)
		if next(3) == 0 {
			spoil(next, &c)
		}
		text := impl.List(c)
		if next(10) == 0 {
			at := next(len(text))
			text = text[:at] + text[at+1:]
		}
		if next(2) == 0 {
			text = strings.TrimSuffix(text, "\n")
		}
		args, fuel, depth := someArgs(next), next(600)-3, next(14)
		got, want := impl.Run(text, args, fuel, depth), wantRun(text, args, fuel, depth)
		if got != want {
			t.Fatalf("Run with args %v, fuel %d and depth %d gives\n%s\nwant\n%s\n%s", args, fuel, depth, got, want, text)
		}
		lines := strings.SplitN(got, "\n", 3)
		kind, _, _ := strings.Cut(lines[0], " ")
		if lines[1] != "" {
			kind, _, _ = strings.Cut(lines[1], " ")
			kind = "run: " + kind
		}
		seen[kind]++
	}
	for _, kind := range []string{"bad", "verify", "run: values", "run: error", "run: fuel", "run: bad"} {
		if seen[kind] < 10 {
			t.Errorf("only %d times %q", seen[kind], kind)
		}
	}
	if len(seen) != 6 {
		t.Errorf("kinds of answers: %v", seen)
	}
}

func TestRunChangesNoArgument(t *testing.T) {
	room := plainValues(1, "two", nil, true, 5, 6)
	for _, text := range []string{everyLine, head + done, "proto 1 6 0 vararg\nconst int 9\nloadk 0 0\nvararg 1 511 0\nreturn 0 511 0\n"} {
		first := impl.Run(text, room[:4], 99, 9)
		if !slices.Equal(room, plainValues(1, "two", nil, true, 5, 6)) {
			t.Fatalf("the args are now %v", room)
		}
		kept := strings.Clone(first)
		args := slices.Clone(room[:4])
		again := impl.Run(text, args, 99, 9)
		for k := range args {
			args[k] = impl.Value{Kind: 78}
		}
		if first != kept || again != kept {
			t.Errorf("%q, and a second time %q", first, again)
		}
	}
}

// Calls that run at the same time have nothing in common.
func TestListingsAtTheSameTime(t *testing.T) {
	var wait sync.WaitGroup
	for seed := range uint32(8) {
		wait.Add(1)
		go func() {
			defer wait.Done()
			next := numbers(91 + seed%2)
			for range 20 {
				c, args := madeChunk(next), someArgs(next)
				text := wantList(c)
				if got := impl.List(c); got != text {
					t.Errorf("List gives %.200q", got)
				}
				if got, want := impl.Run(text, args, 500, 9), wantRun(text, args, 500, 9); got != want {
					t.Errorf("Run gives %q; want %q", got, want)
				}
			}
		}()
	}
	wait.Wait()
}
