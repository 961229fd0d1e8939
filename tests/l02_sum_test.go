package tests

import (
	"hash/crc32"
	"math"
	"slices"
	"testing"

	"loop.example/g00824/impl"
)

// mostSummed is how many bytes a list may have that gets a sum behind it.
const mostSummed = impl.MaxBytes - 4

// noBytes are numbers that no list of bytes has; the low eight bits of some
// of them are those of a byte.
var noBytes = []int64{-1, 256, -128, -255, -256, 257, 1000, 1 << 32, 1<<32 + 5, math.MinInt64, math.MaxInt64}

// sums are written out, so that they hold whatever the program does.
var sums = []struct {
	text   string
	sum    int64
	behind []int64
}{
	{"", 0, []int64{0, 0, 0, 0}},
	{"\x00", 3523407757, []int64{210, 2, 239, 141}},
	{"\x01", 2768625435, []int64{165, 5, 223, 27}},
	{"\xff", 4278190080, []int64{255, 0, 0, 0}},
	{"a", 3904355907, []int64{232, 183, 190, 67}},
	{"abc", 891568578, []int64{53, 36, 65, 194}},
	{"\x00\x00\x00\x00", 558161692, []int64{33, 68, 223, 28}},
	{"\xff\xff\xff\xff", 4294967295, []int64{255, 255, 255, 255}},
	{"123456789", 3421780262, []int64{203, 244, 57, 38}},
	{"The quick brown fox jumps over the lazy dog", 1095738169, []int64{65, 79, 163, 57}},
}

func bytesOf(text string) []int64 {
	b := []int64{}
	for i := range len(text) {
		b = append(b, int64(text[i]))
	}
	return b
}

// sumByBits is the check sum as the document tells it, without a table.
func sumByBits(b []int64) int64 {
	sum := int64(4294967295)
	for _, x := range b {
		sum ^= x
		for range 8 {
			odd := sum%2 != 0
			sum /= 2
			if odd {
				sum ^= 3988292384
			}
		}
	}
	return sum ^ 4294967295
}

// sumByLibrary is that of Go's own library.
func sumByLibrary(b []int64) int64 {
	plain := []byte{}
	for _, x := range b {
		plain = append(plain, byte(x))
	}
	return int64(crc32.ChecksumIEEE(plain))
}

// manyBytes is a list of that many bytes that follow no short period.
func manyBytes(many int, seed int64) []int64 {
	b := make([]int64, many)
	n := seed*7919 + 12345
	for i := range b {
		n = (n*1103515245 + 12345) % 2147483648
		b[i] = n / 65536 % 256
	}
	return b
}

// someLists has lists of all small lengths, and of those about the limits.
func someLists() [][]int64 {
	list := [][]int64{}
	for many := range 70 {
		list = append(list, manyBytes(many, int64(many)), make([]int64, many), slices.Repeat([]int64{255}, many))
	}
	for _, many := range []int{255, 256, 257, 1000, mostSummed - 1, mostSummed} {
		list = append(list, manyBytes(many, 3), make([]int64, many), slices.Repeat([]int64{255}, many))
	}
	return list
}

// summed writes the sum behind the list by hand, however long it is.
func summed(b []int64) []int64 {
	sum := sumByLibrary(b)
	return slices.Concat(b, []int64{sum / 16777216, sum / 65536 % 256, sum / 256 % 256, sum % 256})
}

func expectUnsummed(t *testing.T, b, want []int64) {
	t.Helper()
	got, ok := impl.Unsummed(b)
	if !ok || !slices.Equal(got, want) {
		t.Fatalf("Unsummed(%v), of %d, = %v, %v, not %v, true", brief(b), len(b), brief(got), ok, brief(want))
	}
}

func expectNotUnsummed(t *testing.T, b []int64) {
	t.Helper()
	got, ok := impl.Unsummed(b)
	if ok || len(got) != 0 {
		t.Fatalf("Unsummed(%v), of %d, = %v, %v, not nothing, false", brief(b), len(b), brief(got), ok)
	}
}

func TestSumsWrittenOut(t *testing.T) {
	for _, c := range sums {
		b := bytesOf(c.text)
		if sum := impl.SumOf(b); sum != c.sum {
			t.Errorf("SumOf(%q) = %d, not %d", c.text, sum, c.sum)
		}
		with := slices.Concat(b, c.behind)
		if got := impl.WithSum(b); !slices.Equal(got, with) {
			t.Errorf("WithSum(%q) = %v, not %v", c.text, got, with)
		}
		expectUnsummed(t, with, b)
	}
}

func TestSumOfEachShortList(t *testing.T) {
	for x := int64(0); x <= 255; x++ {
		if b := []int64{x}; impl.SumOf(b) != sumByBits(b) || impl.SumOf(b) != sumByLibrary(b) {
			t.Fatal(b, impl.SumOf(b))
		}
		for y := int64(0); y <= 255; y++ {
			if b := []int64{x, y}; impl.SumOf(b) != sumByBits(b) {
				t.Fatal(b, impl.SumOf(b))
			}
		}
	}
}

func TestSumOfLists(t *testing.T) {
	list := append(someLists(), manyBytes(mostSummed+1, 5), manyBytes(impl.MaxBytes-1, 5), manyBytes(impl.MaxBytes, 5), make([]int64, impl.MaxBytes), slices.Repeat([]int64{255}, impl.MaxBytes))
	for _, b := range list {
		sum := impl.SumOf(b)
		if sum < 0 || sum > 4294967295 || sum != sumByBits(b) || sum != sumByLibrary(b) {
			t.Fatalf("SumOf(%v), of %d, = %d, not %d", brief(b), len(b), sum, sumByBits(b))
		}
	}
	if impl.SumOf(nil) != 0 || impl.SumOf([]int64{}) != 0 {
		t.Error("no bytes:", impl.SumOf(nil))
	}
}

func TestSumOfSaysTheSameAgain(t *testing.T) {
	b := manyBytes(100, 8)
	first := impl.SumOf(b)
	impl.SumOf([]int64{256})
	impl.WithSum(manyBytes(50, 9))
	if again := impl.SumOf(b); again != first {
		t.Fatal(first, again)
	}
}

func TestSumOfRefusesWhatIsNotRight(t *testing.T) {
	for _, x := range noBytes {
		for _, b := range [][]int64{{x}, {x, 1, 2}, {1, x, 2}, {1, 2, x}} {
			if sum := impl.SumOf(b); sum != -1 {
				t.Errorf("SumOf(%v) = %d, not -1", b, sum)
			}
		}
	}
	for _, many := range []int{impl.MaxBytes + 1, impl.MaxBytes + 2, 3 * impl.MaxBytes} {
		if sum := impl.SumOf(make([]int64, many)); sum != -1 {
			t.Errorf("SumOf of %d bytes = %d, not -1", many, sum)
		}
	}
}

func TestWithSumHasTheSumBehind(t *testing.T) {
	for _, b := range someLists() {
		with := impl.WithSum(b)
		if len(with) != len(b)+4 || !slices.Equal(with[:len(b)], b) {
			t.Fatalf("WithSum(%v), of %d, is of %d", brief(b), len(b), len(with))
		}
		behind, sum := with[len(b):], int64(0)
		for _, x := range behind {
			sum = sum*256 + x
		}
		if !impl.BytesOk(with) || sum != sumByBits(b) {
			t.Fatalf("WithSum(%v), of %d, has %v behind it", brief(b), len(b), behind)
		}
	}
}

func TestWithSumAtItsLimit(t *testing.T) {
	for _, many := range []int{mostSummed - 1, mostSummed} {
		if got := impl.WithSum(manyBytes(many, 2)); len(got) != many+4 {
			t.Errorf("WithSum of %d bytes has %d", many, len(got))
		}
	}
	for _, many := range []int{mostSummed + 1, mostSummed + 2, mostSummed + 3, impl.MaxBytes, impl.MaxBytes + 1, 3 * impl.MaxBytes} {
		for _, b := range [][]int64{make([]int64, many), manyBytes(many, 2)} {
			if got := impl.WithSum(b); len(got) != 0 {
				t.Errorf("WithSum of %d bytes has %d, not nothing", many, len(got))
			}
		}
	}
}

func TestWithSumRefusesWhatIsNotRight(t *testing.T) {
	last := make([]int64, mostSummed)
	for _, x := range noBytes {
		last[mostSummed-1] = x
		for _, b := range [][]int64{{x}, {x, 1, 2}, {1, x, 2}, {1, 2, x}, last} {
			if got := impl.WithSum(b); len(got) != 0 {
				t.Errorf("WithSum(%v) = %v, not nothing", brief(b), brief(got))
			}
		}
	}
}

func TestUnsummedIsWhatWasSummed(t *testing.T) {
	for _, b := range someLists() {
		expectUnsummed(t, impl.WithSum(b), b)
		expectUnsummed(t, summed(b), b)
	}
	expectUnsummed(t, []int64{0, 0, 0, 0}, nil)
}

func TestUnsummedTakesOffOneSum(t *testing.T) {
	b := manyBytes(20, 4)
	once := impl.WithSum(b)
	twice := impl.WithSum(once)
	expectUnsummed(t, twice, once)
	expectUnsummed(t, once, b)
	expectNotUnsummed(t, b)
}

func TestUnsummedAtItsLimit(t *testing.T) {
	for _, many := range []int{mostSummed - 1, mostSummed} {
		b := manyBytes(many, 6)
		expectUnsummed(t, summed(b), b)
	}
	for _, many := range []int{mostSummed + 1, mostSummed + 2, impl.MaxBytes - 1, impl.MaxBytes, impl.MaxBytes + 1, 3 * impl.MaxBytes} {
		expectNotUnsummed(t, summed(manyBytes(many, 6)))
		expectNotUnsummed(t, summed(make([]int64, many)))
	}
}

func TestUnsummedRefusesFewerThanFour(t *testing.T) {
	for _, b := range [][]int64{nil, {}, {0}, {0, 0}, {0, 0, 0}, {255}, {255, 255}, {255, 255, 255}, {210, 2, 239}, {-1}, {256, 0, 0}} {
		expectNotUnsummed(t, b)
		// Behind the list there is room in which the sum would be.
		expectNotUnsummed(t, append(slices.Clone(b), 0, 0, 0, 0)[:len(b)])
	}
}

func TestUnsummedFindsEachBentByte(t *testing.T) {
	for _, c := range sums {
		b := impl.WithSum(bytesOf(c.text))
		for i := range b {
			for xor := int64(1); xor <= 255; xor++ {
				b[i] ^= xor
				expectNotUnsummed(t, b)
				b[i] ^= xor
			}
		}
		expectUnsummed(t, b, bytesOf(c.text))
	}
}

func TestUnsummedFindsABentByteOfALongList(t *testing.T) {
	b := impl.WithSum(manyBytes(mostSummed, 11))
	for i := range b {
		xor := int64(1) << (i % 8)
		b[i] ^= xor
		expectNotUnsummed(t, b)
		b[i] ^= xor
	}
	expectUnsummed(t, b, manyBytes(mostSummed, 11))
}

func TestUnsummedRefusesWhatIsNoByte(t *testing.T) {
	b := impl.WithSum(bytesOf("123456789"))
	for i, was := range b {
		for _, x := range append([]int64{was + 256, was - 256, was + 1<<32, -was - 1}, noBytes...) {
			b[i] = x
			expectNotUnsummed(t, b)
		}
		b[i] = was
	}
	expectUnsummed(t, b, bytesOf("123456789"))
	// The sum as it is where bytes are not looked at, or as -1.
	for _, x := range noBytes {
		expectNotUnsummed(t, summed([]int64{1, x, 2}))
		expectNotUnsummed(t, []int64{x, 255, 255, 255, 255})
		expectNotUnsummed(t, []int64{x, -1, -1, -1, -1})
		expectNotUnsummed(t, []int64{x, -1, 255, 255, 255})
	}
}

func TestUnsummedRefusesTheSumInAnotherOrder(t *testing.T) {
	for _, text := range []string{"\x00", "\x01", "a", "abc", "123456789"} {
		b := bytesOf(text)
		s := summed(b)[len(b):]
		for i := range 256 {
			order := []int{i % 4, i / 4 % 4, i / 16 % 4, i / 64}
			behind := []int64{s[order[0]], s[order[1]], s[order[2]], s[order[3]]}
			if with := slices.Concat(b, behind); slices.Equal(behind, s) {
				expectUnsummed(t, with, b)
			} else {
				expectNotUnsummed(t, with)
			}
		}
	}
}

func TestUnsummedRefusesAByteMoreOrLess(t *testing.T) {
	for _, c := range sums {
		b := impl.WithSum(bytesOf(c.text))
		for _, x := range []int64{0, 1, 90, 255} {
			expectNotUnsummed(t, append(slices.Clone(b), x))
		}
		expectNotUnsummed(t, b[:len(b)-1])
		expectNotUnsummed(t, b[1:])
	}
}

func TestUnsummedRefusesTheSumAhead(t *testing.T) {
	for _, text := range []string{"\x00", "\x01", "a", "abc", "123456789"} {
		b := bytesOf(text)
		with := summed(b)
		expectNotUnsummed(t, slices.Concat(with[len(b):], b))
	}
}

func TestUnsummedTakesNothingElse(t *testing.T) {
	some := []int64{0, 1, 2, 65, 141, 210, 239, 255}
	b := make([]int64, 5)
	for i := range 8 * 8 * 8 * 8 * 8 {
		for j, rest := 0, i; j < 5; j++ {
			b[j] = some[rest%8]
			rest /= 8
		}
		for _, part := range [][]int64{b, b[:4]} {
			if bare := part[:len(part)-4]; slices.Equal(summed(bare), part) {
				expectUnsummed(t, part, bare)
			} else {
				expectNotUnsummed(t, part)
			}
		}
	}
}

func TestSummedListsStayAsTheyAre(t *testing.T) {
	lists := append(someLists(), nil, []int64{-1, 5}, []int64{256}, make([]int64, mostSummed+1), make([]int64, impl.MaxBytes), make([]int64, impl.MaxBytes+1))
	for _, list := range lists {
		for _, b := range [][]int64{list, summed(list)} {
			whole := slices.Concat(b, []int64{71, 72, 73, 74, 75, 76})
			before := slices.Clone(whole)
			given := whole[:len(b)]
			impl.SumOf(given)
			impl.WithSum(given)
			impl.Unsummed(given)
			if !slices.Equal(whole, before) {
				t.Errorf("written into: %v, of %d", brief(before), len(b))
			}
		}
	}
}

// expectNewMemory overwrites an answer, with the room behind it, and what it
// was answered to, and looks whether either is seen in the other.
func expectNewMemory(t *testing.T, arg []int64, call func([]int64) []int64) {
	t.Helper()
	whole := slices.Concat(arg, []int64{71, 72, 73, 74, 75, 76})
	given, before := whole[:len(arg)], slices.Clone(whole)
	first := call(given)
	want := slices.Clone(first)
	second := call(given)
	room := first[:cap(first)]
	for i := range room {
		room[i] = 99
	}
	if !slices.Equal(whole, before) || !slices.Equal(second, want) {
		t.Fatalf("an answer to %v, of %d, shares memory", brief(arg), len(arg))
	}
	for i := range whole {
		whole[i] = 98
	}
	if !slices.Equal(second, want) {
		t.Fatalf("an answer to %v, of %d, shares memory with it", brief(arg), len(arg))
	}
}

func TestSumsAreNewMemory(t *testing.T) {
	bare := func(b []int64) []int64 {
		list, _ := impl.Unsummed(b)
		return list
	}
	for _, b := range someLists() {
		expectNewMemory(t, b, impl.WithSum)
		expectNewMemory(t, summed(b), bare)
		expectNewMemory(t, b, bare)
	}
}
