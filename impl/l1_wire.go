package impl

const MaxNumber = 16777215

type Instr struct {
	Op int
	A  int
	B  int
	C  int
	S  int
}

// part names a part of a word. The list is closed: Pack and Unpack both go
// along it, so neither can know a part that the other does not.
type part int

const (
	partOp part = iota
	partA
	partB
	partC
	partCount
)

// span is where a part stands in a word: its lowest bit and its number of bits.
type span struct {
	shift int
	size  int
}

var spans = [partCount]span{
	partOp: {shift: 0, size: 6},
	partA:  {shift: 6, size: 8},
	partB:  {shift: 14, size: 9},
	partC:  {shift: 23, size: 9},
}

const (
	wideStep  = 512
	wideLeast = -131072
	wideMost  = 131071
)

const (
	wordSize = 4
	intSize  = 2 * wordSize
)

const (
	varintBits = 7
	varintMore = 1 << varintBits
	varintSize = 4
)

func PutVarint(n int) string {
	if n < 0 || n > MaxNumber {
		return ""
	}
	var out []byte
	for n >= varintMore {
		out = append(out, byte(n%varintMore+varintMore))
		n /= varintMore
	}
	return string(append(out, byte(n)))
}

func GetVarint(s string, at int) (int, int, bool) {
	if at < 0 || at > len(s) {
		return 0, 0, false
	}
	rest := s[at:]
	n := 0
	for k := range min(varintSize, len(rest)) {
		n += int(rest[k]%varintMore) << (varintBits * k)
		if rest[k] >= varintMore {
			continue
		}
		// Asking the writer bars both the longer ways and numbers above MaxNumber.
		if PutVarint(n) != rest[:k+1] {
			return 0, 0, false
		}
		return n, at + k + 1, true
	}
	return 0, 0, false
}

func PutInt(n int64) string {
	low := wordBytes(uint32(n))
	high := wordBytes(uint32(n >> 32))
	return string(low[:]) + string(high[:])
}

func GetInt(s string, at int) (int64, int, bool) {
	// The sum at + intSize could overflow, so what is left is compared instead.
	if at < 0 || at > len(s) || len(s)-at < intSize {
		return 0, 0, false
	}
	low := uint64(wordAt(s, at))
	high := uint64(wordAt(s, at+wordSize))
	return int64(high<<32 | low), at + intSize, true
}

// wordBytes gives a word as it is written, the lowest byte first.
func wordBytes(w uint32) [wordSize]byte {
	var out [wordSize]byte
	for k := range out {
		out[k] = byte(w >> (8 * k))
	}
	return out
}

// wordAt reads what wordBytes wrote; the caller has seen that it is all there.
func wordAt(s string, at int) uint32 {
	var w uint32
	for k := range wordSize {
		w |= uint32(s[at+k]) << (8 * k)
	}
	return w
}

func Pack(i Instr) uint32 {
	numbers := [partCount]int{partOp: i.Op, partA: i.A, partB: i.B, partC: i.C}
	var w uint32
	for p := range partCount {
		if !p.holds(numbers[p]) {
			return 0
		}
		w |= uint32(numbers[p]) << spans[p].shift
	}
	if i.S != wideOf(i.B, i.C) {
		return 0
	}
	return w
}

func Unpack(w uint32) Instr {
	var numbers [partCount]int
	for p := range partCount {
		numbers[p] = int(w >> spans[p].shift & (1<<spans[p].size - 1))
	}
	return Instr{
		Op: numbers[partOp],
		A:  numbers[partA],
		B:  numbers[partB],
		C:  numbers[partC],
		S:  wideOf(numbers[partB], numbers[partC]),
	}
}

func Wide(op int, a int, s int) Instr {
	if !partOp.holds(op) || !partA.holds(a) || !wideFits(s) {
		return Instr{}
	}
	n := s - wideLeast
	return Instr{Op: op, A: a, B: n % wideStep, C: n / wideStep, S: s}
}

// holds says whether the number fits into the part's bits.
func (p part) holds(n int) bool {
	return n >= 0 && n < 1<<spans[p].size
}

// wideFits says whether B and C can say the number as S.
func wideFits(s int) bool {
	return s >= wideLeast && s <= wideMost
}

// wideOf is the S that B and C say together.
func wideOf(b int, c int) int {
	return b + wideStep*c + wideLeast
}
