package tests

import (
	"math"
	"strings"
	"testing"

	"loop.example/s02979/impl"
)

// varintSizes: the first number that needs more bytes than the place says, from one byte on.
var varintSizes = []int{1 << 7, 1 << 14, 1 << 21}

// wantVarint writes a varint by the document's words, in another way than the program does.
func wantVarint(n int) string {
	size := 1
	for _, first := range varintSizes {
		if n >= first {
			size++
		}
	}
	out := make([]byte, size)
	for k := range out {
		out[k] = byte(n>>(7*k))&127 | 128
	}
	out[size-1] &= 127
	return string(out)
}

// wantGet reads a varint by trying every size that one can have.
func wantGet(s string, at int) (int, int, bool) {
	if at < 0 || at > len(s) {
		return 0, 0, false
	}
	for size := 1; size <= 4 && size <= len(s)-at; size++ {
		piece := s[at : at+size]
		n := 0
		for k := range size {
			n |= int(piece[k]&127) << (7 * k)
		}
		if n <= impl.MaxNumber && wantVarint(n) == piece {
			return n, at + size, true
		}
	}
	return 0, 0, false
}

func checkGet(t *testing.T, s string, at int) {
	t.Helper()
	n, next, ok := impl.GetVarint(s, at)
	wantN, wantNext, wantOk := wantGet(s, at)
	if n != wantN || next != wantNext || ok != wantOk {
		t.Fatalf("GetVarint(%q, %d) = %d, %d, %v; want %d, %d, %v", s, at, n, next, ok, wantN, wantNext, wantOk)
	}
}

func TestVarintOfEveryNumber(t *testing.T) {
	for n := 0; n <= impl.MaxNumber; n++ {
		s := impl.PutVarint(n)
		got, next, ok := impl.GetVarint(s, 0)
		if got != n || next != len(s) || !ok {
			t.Fatalf("%d is written %q and read as %d, %d, %v", n, s, got, next, ok)
		}
	}
}

func TestVarintIsWrittenAsSaid(t *testing.T) {
	check := func(n int) {
		if got, want := impl.PutVarint(n), wantVarint(n); got != want {
			t.Fatalf("PutVarint(%d) = %q; want %q", n, got, want)
		}
	}
	for n := range 70000 {
		check(n)
	}
	for n := 70000; n < impl.MaxNumber; n += 997 {
		check(n)
	}
	for _, n := range append([]int{impl.MaxNumber}, varintSizes...) {
		check(n - 1)
		check(n)
	}
}

func TestVarintOfNumbersThatHaveNone(t *testing.T) {
	none := []int{
		-1, -2, -127, -128, -129, -impl.MaxNumber, math.MinInt, math.MinInt + 1,
		impl.MaxNumber + 1, impl.MaxNumber + 2, 1 << 28, 1<<28 - 1, 1 << 32, 1<<32 + 5, math.MaxInt,
	}
	for _, n := range none {
		if s := impl.PutVarint(n); s != "" {
			t.Errorf("PutVarint(%d) = %q; want the empty text", n, s)
		}
	}
}

func TestVarintTakesNothingElse(t *testing.T) {
	for a := range 256 {
		checkGet(t, string([]byte{byte(a)}), 0)
		for b := range 256 {
			checkGet(t, string([]byte{byte(a), byte(b)}), 0)
		}
	}
	edges := []byte{0, 1, 7, 8, 15, 127, 128, 129, 255}
	texts := []string{""}
	for range 5 {
		var longer []string
		for _, s := range texts {
			for _, b := range edges {
				longer = append(longer, s+string([]byte{b}))
			}
		}
		for _, s := range longer {
			checkGet(t, s, 0)
		}
		texts = longer
	}
}

func TestVarintWrongTexts(t *testing.T) {
	wrong := map[string]string{
		"nothing":                     "",
		"cut after one byte":          "\x80",
		"cut after two bytes":         "\xff\xff",
		"cut after three bytes":       "\xff\xff\xff",
		"no last byte within four":    "\xff\xff\xff\xff",
		"zero in two bytes":           "\x80\x00",
		"one in two bytes":            "\x81\x00",
		"127 in two bytes":            "\xff\x00",
		"128 in three bytes":          "\x80\x81\x00",
		"zero in four bytes":          "\x80\x80\x80\x00",
		"the number behind MaxNumber": "\x80\x80\x80\x08",
		"the most of four bytes":      "\xff\xff\xff\x7f",
		"five bytes":                  "\x80\x80\x80\x80\x01",
		"MaxNumber in five bytes":     "\xff\xff\xff\x87\x00",
		"two to the 64 and more":      strings.Repeat("\xff", 11) + "\x01",
	}
	for name, s := range wrong {
		if n, next, ok := impl.GetVarint(s, 0); n != 0 || next != 0 || ok {
			t.Errorf("%s: GetVarint(%q, 0) = %d, %d, %v; want 0, 0, false", name, s, n, next, ok)
		}
	}
}

func TestVarintPlaces(t *testing.T) {
	s := "\x05\x80\x01\xff\xff\xff\x07\x80"
	for at := -3; at <= len(s)+3; at++ {
		checkGet(t, s, at)
	}
	for _, at := range []int{math.MinInt, math.MinInt + 1, math.MaxInt - 1, math.MaxInt} {
		checkGet(t, s, at)
	}
	if n, next, ok := impl.GetVarint(s, 3); n != impl.MaxNumber || next != 7 || !ok {
		t.Errorf("MaxNumber in the midst: %d, %d, %v", n, next, ok)
	}
}

func TestVarintBehindAnother(t *testing.T) {
	numbers := []int{0, 1, 127, 128, 300, 16383, 16384, 2097151, 2097152, impl.MaxNumber}
	s := ""
	for _, n := range numbers {
		s += impl.PutVarint(n)
	}
	at := 0
	for _, n := range numbers {
		got, next, ok := impl.GetVarint(s, at)
		if got != n || next != at+len(wantVarint(n)) || !ok {
			t.Fatalf("%d at %d is read as %d, %d, %v", n, at, got, next, ok)
		}
		at = next
	}
	if at != len(s) {
		t.Errorf("ends at %d of %d", at, len(s))
	}
}

// someInts: the ends of int64, all powers of two and their neighbours, and a walk over all bits.
func someInts() []int64 {
	list := []int64{0, 1, -1, 255, 256, 258, -256, math.MaxInt64, math.MaxInt64 - 1, math.MinInt64, math.MinInt64 + 1, 0x0102030405060708}
	for k := range 64 {
		p := int64(1) << k
		list = append(list, p-1, p, p+1, -p)
	}
	n := int64(1)
	for range 100000 {
		n = n*6364136223846793005 + 1442695040888963407
		list = append(list, n)
	}
	return list
}

func TestIntGoesAndComesBack(t *testing.T) {
	for _, n := range someInts() {
		s := impl.PutInt(n)
		if len(s) != 8 {
			t.Fatalf("PutInt(%d) has %d bytes", n, len(s))
		}
		for k := range 8 {
			if s[k] != byte(uint64(n)>>(8*k)) {
				t.Fatalf("PutInt(%d) = %q, wrong at byte %d", n, s, k)
			}
		}
		if got, next, ok := impl.GetInt(s, 0); got != n || next != 8 || !ok {
			t.Fatalf("%d is read as %d, %d, %v", n, got, next, ok)
		}
		if got, next, ok := impl.GetInt("abc"+s+"\xff", 3); got != n || next != 11 || !ok {
			t.Fatalf("%d in the midst is read as %d, %d, %v", n, got, next, ok)
		}
	}
}

func TestIntTakesAnyEightBytes(t *testing.T) {
	s := "\x00\x01\x7f\x80\xff\x10\x00\x00\xfe\x27LRV\x01\x00\x80"
	for at := 0; at+8 <= len(s); at++ {
		n, next, ok := impl.GetInt(s, at)
		if !ok || next != at+8 || impl.PutInt(n) != s[at:at+8] {
			t.Errorf("at %d: %d, %d, %v", at, n, next, ok)
		}
	}
}

func TestIntWrongPlaces(t *testing.T) {
	check := func(s string, at int) {
		if n, next, ok := impl.GetInt(s, at); n != 0 || next != 0 || ok {
			t.Errorf("GetInt(%q, %d) = %d, %d, %v; want 0, 0, false", s, at, n, next, ok)
		}
	}
	for size := range 8 {
		check("12345678"[:size], 0)
	}
	s := "123456789"
	for _, at := range []int{-1, -8, 2, 8, 9, 10, 17, math.MinInt, math.MinInt + 8, math.MaxInt, math.MaxInt - 7, math.MaxInt - 8} {
		check(s, at)
	}
}

// checkWord looks at one word against the document's sums.
func checkWord(t *testing.T, w uint32) {
	t.Helper()
	i := impl.Unpack(w)
	n := int(w)
	want := impl.Instr{Op: n % 64, A: n / 64 % 256, B: n / 16384 % 512, C: n / 8388608}
	want.S = want.B + 512*want.C - 131072
	if i != want {
		t.Fatalf("Unpack(%d) = %+v; want %+v", w, i, want)
	}
	if back := impl.Pack(i); back != w {
		t.Fatalf("Pack(%+v) = %d; want %d", i, back, w)
	}
}

func TestWordsUnpackAndPack(t *testing.T) {
	for k := range 32 {
		checkWord(t, 1<<k)
		checkWord(t, 1<<k-1)
		checkWord(t, ^uint32(1<<k))
	}
	checkWord(t, math.MaxUint32)
	var w uint32
	for range 2000000 {
		checkWord(t, w)
		w += 2654435769
	}
}

func checkInstr(t *testing.T, op, a, b, c int) {
	t.Helper()
	i := impl.Instr{Op: op, A: a, B: b, C: c, S: b + 512*c - 131072}
	w := impl.Pack(i)
	if want := uint32(op + 64*a + 16384*b + 8388608*c); w != want {
		t.Fatalf("Pack(%+v) = %d; want %d", i, w, want)
	}
	if back := impl.Unpack(w); back != i {
		t.Fatalf("Unpack(Pack(%+v)) = %+v", i, back)
	}
}

func TestInstructionsPackAndUnpack(t *testing.T) {
	ends := [][4]int{{0, 0, 0, 0}, {63, 255, 511, 511}, {33, 128, 256, 255}}
	for _, e := range ends {
		for op := range 64 {
			for a := range 256 {
				checkInstr(t, op, a, e[2], e[3])
			}
		}
		for b := range 512 {
			for c := range 512 {
				checkInstr(t, e[0], e[1], b, c)
			}
		}
	}
}

func checkNotPacked(t *testing.T, i impl.Instr) {
	t.Helper()
	if w := impl.Pack(i); w != 0 {
		t.Errorf("Pack(%+v) = %d; want 0", i, w)
	}
}

func TestPartsThatDoNotFit(t *testing.T) {
	wrong := func(most int) []int {
		return []int{-1, -2, -most - 1, most + 1, 2*most + 1, 1 << 32, 1<<32 + 1, -1 << 32, math.MaxInt, math.MinInt}
	}
	for _, n := range wrong(63) {
		checkNotPacked(t, impl.Instr{Op: n, A: 1, B: 2, C: 3, S: 2 + 512*3 - 131072})
	}
	for _, n := range wrong(255) {
		checkNotPacked(t, impl.Instr{Op: 1, A: n, B: 2, C: 3, S: 2 + 512*3 - 131072})
	}
	for _, n := range wrong(511) {
		checkNotPacked(t, impl.Instr{Op: 1, A: 2, B: n, C: 3, S: n + 512*3 - 131072})
		checkNotPacked(t, impl.Instr{Op: 1, A: 2, B: 3, C: n, S: 3 + 512*n - 131072})
	}
	// Here B and C say an S that other parts could say, but they do not fit.
	checkNotPacked(t, impl.Instr{Op: 1, A: 2, B: 512, C: 0, S: 512 - 131072})
	checkNotPacked(t, impl.Instr{Op: 1, A: 2, B: -512, C: 1, S: -131072})
	checkNotPacked(t, impl.Instr{Op: 1, A: 2, B: 131072, C: 0, S: 0})
}

func TestAnSThatTheOthersDoNotSay(t *testing.T) {
	for _, bc := range [][2]int{{0, 0}, {511, 511}, {0, 256}, {511, 255}, {2, 1}} {
		s := bc[0] + 512*bc[1] - 131072
		for _, off := range []int{1, -1, 512, -512, 131072, -131072, 262144, -262144, 1 << 32, -1 << 32} {
			checkNotPacked(t, impl.Instr{Op: 5, A: 3, B: bc[0], C: bc[1], S: s + off})
		}
		checkNotPacked(t, impl.Instr{Op: 5, A: 3, B: bc[0], C: bc[1], S: math.MaxInt})
		checkNotPacked(t, impl.Instr{Op: 5, A: 3, B: bc[0], C: bc[1], S: math.MinInt})
	}
	checkNotPacked(t, impl.Instr{})
	checkNotPacked(t, impl.Instr{Op: 63, A: 255})
}

func TestWideSaysEveryS(t *testing.T) {
	for s := -131072; s <= 131071; s++ {
		i := impl.Wide(18, 7, s)
		if i.Op != 18 || i.A != 7 || i.S != s {
			t.Fatalf("Wide(18, 7, %d) = %+v", s, i)
		}
		if w := impl.Pack(i); w == 0 || impl.Unpack(w) != i {
			t.Fatalf("Wide(18, 7, %d) = %+v is not packed", s, i)
		}
	}
	for op := range 64 {
		for a := range 256 {
			if i := impl.Wide(op, a, 0); i != (impl.Instr{Op: op, A: a, B: 0, C: 256, S: 0}) {
				t.Fatalf("Wide(%d, %d, 0) = %+v", op, a, i)
			}
		}
	}
}

func TestWideWrongParts(t *testing.T) {
	wrong := [][3]int{
		{-1, 0, 0}, {64, 0, 0}, {math.MinInt, 0, 0}, {math.MaxInt, 0, 0},
		{1, -1, 0}, {1, 256, 0}, {1, math.MinInt, 0}, {1, math.MaxInt, 0},
		{1, 2, -131073}, {1, 2, 131072}, {1, 2, 262144}, {1, 2, -262144},
		{1, 2, 1 << 32}, {1, 2, math.MinInt}, {1, 2, math.MaxInt},
	}
	for _, x := range wrong {
		if i := impl.Wide(x[0], x[1], x[2]); i != (impl.Instr{}) {
			t.Errorf("Wide(%d, %d, %d) = %+v; want the zero Instr", x[0], x[1], x[2], i)
		}
	}
}
