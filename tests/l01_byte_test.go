package tests

import (
	"math"
	"slices"
	"testing"

	"loop.example/g00824/impl"
)

// forms are written out by hand, so that they hold whatever the program does.
var forms = []struct {
	n int64
	b []int64
}{
	{0, []int64{0}},
	{1, []int64{1}},
	{90, []int64{90}},
	{126, []int64{126}},
	{127, []int64{127}},
	{128, []int64{128, 1}},
	{129, []int64{129, 1}},
	{255, []int64{255, 1}},
	{256, []int64{128, 2}},
	{300, []int64{172, 2}},
	{4000, []int64{160, 31}},
	{16383, []int64{255, 127}},
	{16384, []int64{128, 128, 1}},
	{100000, []int64{160, 141, 6}},
	{1000000, []int64{192, 132, 61}},
	{2097151, []int64{255, 255, 127}},
	{2097152, []int64{128, 128, 128, 1}},
	{268435455, []int64{255, 255, 255, 127}},
	{268435456, []int64{128, 128, 128, 128, 1}},
	{999999999, []int64{255, 147, 235, 220, 3}},
	{impl.MaxVar, []int64{128, 148, 235, 220, 3}},
}

// someNumbers has the small numbers, those on both sides of each length, and
// some of all the others.
func someNumbers() []int64 {
	var list []int64
	for n := int64(0); n < 20000; n++ {
		list = append(list, n)
	}
	for _, mid := range []int64{1 << 21, 1 << 28, impl.MaxVar - 200} {
		for n := mid - 200; n <= mid+200; n++ {
			list = append(list, n)
		}
	}
	for n := int64(20000); n < impl.MaxVar; n += 99991 {
		list = append(list, n)
	}
	return list
}

func expectNumber(t *testing.T, b []int64, at, n, end int64) {
	t.Helper()
	gotN, gotEnd, ok := impl.ReadVar(b, at)
	if !ok || gotN != n || gotEnd != end {
		t.Fatalf("ReadVar(%v, %d) = %d, %d, %v, not %d, %d, true", brief(b), at, gotN, gotEnd, ok, n, end)
	}
}

func expectNoNumber(t *testing.T, b []int64, at int64) {
	t.Helper()
	n, end, ok := impl.ReadVar(b, at)
	if ok || n != 0 || end != 0 {
		t.Fatalf("ReadVar(%v, %d) = %d, %d, %v, not 0, 0, false", brief(b), at, n, end, ok)
	}
}

func brief(b []int64) []int64 {
	return b[:min(len(b), 12)]
}

func TestLimitsOfBytes(t *testing.T) {
	if impl.MaxBytes != 4000 || impl.MaxVar != 1000000000 {
		t.Fatal(impl.MaxBytes, impl.MaxVar)
	}
}

func TestBytesOkTakesEachByte(t *testing.T) {
	all := []int64{}
	for x := int64(0); x <= 255; x++ {
		if !impl.BytesOk([]int64{x}) {
			t.Error("refused:", x)
		}
		all = append(all, x)
	}
	if !impl.BytesOk(all) || !impl.BytesOk(nil) || !impl.BytesOk([]int64{}) {
		t.Error("refused: all bytes, nil or no bytes")
	}
}

func TestBytesOkRefusesWhatIsNoByte(t *testing.T) {
	for _, x := range []int64{-1, 256, -128, -255, -256, 257, 1000, 1 << 32, 1<<32 + 5, math.MinInt64, math.MaxInt64} {
		for _, b := range [][]int64{{x}, {x, 1, 2}, {1, x, 2}, {1, 2, x}} {
			if impl.BytesOk(b) {
				t.Error("taken:", b)
			}
		}
	}
}

func TestBytesOkAtItsLimit(t *testing.T) {
	if !impl.BytesOk(make([]int64, impl.MaxBytes)) {
		t.Error("refused: MaxBytes bytes")
	}
	if impl.BytesOk(make([]int64, impl.MaxBytes+1)) || impl.BytesOk(make([]int64, 2*impl.MaxBytes)) {
		t.Error("taken: more than MaxBytes bytes")
	}
	if !impl.BytesOk(make([]int64, 3, 2*impl.MaxBytes)) {
		t.Error("refused for its spare room")
	}
	last := make([]int64, impl.MaxBytes)
	last[impl.MaxBytes-1] = 256
	if impl.BytesOk(last) {
		t.Error("taken: 256 as the last of MaxBytes bytes")
	}
}

func TestVarOfHasTheFormsWrittenOut(t *testing.T) {
	for _, c := range forms {
		if b := impl.VarOf(c.n); !slices.Equal(b, c.b) {
			t.Errorf("VarOf(%d) = %v, not %v", c.n, b, c.b)
		}
	}
}

func TestVarOfIsShortAndSumsUp(t *testing.T) {
	for _, n := range someNumbers() {
		b := impl.VarOf(n)
		sum, unit := int64(0), int64(1)
		for i, x := range b {
			if last := i == len(b)-1; x < 0 || x > 255 || (x < 128) != last || last && x == 0 && n != 0 {
				t.Fatalf("VarOf(%d) = %v", n, b)
			}
			sum += x % 128 * unit
			unit *= 128
		}
		if len(b) == 0 || sum != n {
			t.Fatalf("VarOf(%d) = %v, which is %d", n, b, sum)
		}
	}
}

func TestVarOfRefusesWhatIsOutOfRange(t *testing.T) {
	for _, n := range []int64{-1, -127, -128, -300, impl.MaxVar + 1, impl.MaxVar + 128, 1 << 32, math.MinInt64, math.MaxInt64} {
		if b := impl.VarOf(n); len(b) != 0 {
			t.Errorf("VarOf(%d) = %v, not nothing", n, b)
		}
	}
}

func TestReadVarReadsTheFormsWrittenOut(t *testing.T) {
	for _, c := range forms {
		k := int64(len(c.b))
		expectNumber(t, c.b, 0, c.n, k)
		expectNumber(t, slices.Concat([]int64{255, 128}, c.b), 2, c.n, 2+k)
		expectNumber(t, slices.Concat([]int64{7}, c.b, []int64{0, 128, 255}), 1, c.n, 1+k)
	}
}

func TestReadVarReadsWhatVarOfWrote(t *testing.T) {
	for _, n := range someNumbers() {
		b := slices.Concat([]int64{128}, impl.VarOf(n), []int64{128})
		expectNumber(t, b, 1, n, int64(len(b))-1)
	}
}

func TestReadVarGoesAlongMany(t *testing.T) {
	numbers := []int64{}
	list := []int64{}
	for _, c := range forms {
		numbers = append(numbers, c.n)
		list = append(list, c.b...)
	}
	at, read := int64(0), []int64{}
	for at < int64(len(list)) {
		n, end, ok := impl.ReadVar(list, at)
		if !ok || end <= at {
			t.Fatal(at, n, end, ok)
		}
		read = append(read, n)
		at = end
	}
	if !slices.Equal(read, numbers) {
		t.Fatalf("read %v, not %v", read, numbers)
	}
}

// numberAt finds the number whose VarOf stands there by trying each length.
func numberAt(b []int64, at int64) (int64, int64, bool) {
	sum, unit := int64(0), int64(1)
	for end := at; end < int64(len(b)) && end < at+5; end++ {
		sum += b[end] % 128 * unit
		unit *= 128
		if slices.Equal(impl.VarOf(sum), b[at:end+1]) {
			return sum, end + 1, true
		}
	}
	return 0, 0, false
}

func expectAsWritten(t *testing.T, b []int64, at int64) {
	t.Helper()
	if n, end, ok := numberAt(b, at); ok {
		expectNumber(t, b, at, n, end)
	} else {
		expectNoNumber(t, b, at)
	}
}

func TestReadVarReadsNothingElseOfShortLists(t *testing.T) {
	for x := int64(0); x <= 255; x++ {
		expectAsWritten(t, []int64{x}, 0)
		for y := int64(0); y <= 255; y++ {
			expectAsWritten(t, []int64{x, y}, 0)
			expectAsWritten(t, []int64{x, y}, 1)
		}
	}
}

func TestReadVarReadsNothingElseOfLongerLists(t *testing.T) {
	some := []int64{0, 1, 2, 3, 4, 7, 127, 128, 129, 148, 220, 235, 255}
	b := make([]int64, 6)
	for i := range 13 * 13 * 13 * 13 * 13 {
		for j, rest := 0, i; j < 5; j++ {
			b[j] = some[rest%13]
			rest /= 13
		}
		b[5] = some[i%7]
		expectAsWritten(t, b, 0)
		expectAsWritten(t, b[:5], 1)
	}
}

func TestReadVarRefusesALongerForm(t *testing.T) {
	for _, n := range someNumbers() {
		b := impl.VarOf(n)
		b[len(b)-1] += 128
		b = append(b, 0)
		expectNoNumber(t, b, 0)
		expectNoNumber(t, append(b, 5, 6), 0)
		b[len(b)-1] = 128
		expectNoNumber(t, append(b, 0), 0)
	}
	expectNumber(t, []int64{128, 0}, 1, 0, 2)
}

func TestReadVarRefusesWhatIsCutOff(t *testing.T) {
	for _, c := range forms {
		for k := range c.b {
			// What was cut off is still there behind the list.
			expectNoNumber(t, c.b[:k], 0)
			expectNoNumber(t, slices.Concat([]int64{1, 2}, c.b[:k]), 2)
		}
	}
}

func TestReadVarRefusesMoreThanMaxVar(t *testing.T) {
	for _, b := range [][]int64{
		{129, 148, 235, 220, 3},
		{128, 149, 235, 220, 3},
		{255, 255, 255, 255, 3},
		{128, 128, 128, 128, 4},
		{255, 255, 255, 255, 127},
		{128, 128, 128, 128, 128, 1},
		{128, 148, 235, 220, 131, 0},
		{128, 148, 235, 220, 131, 1},
		{129, 128, 128, 128, 128, 128, 128, 128, 128, 1},
		{129, 128, 128, 128, 128, 128, 128, 128, 128, 2},
		{129, 128, 128, 128, 128, 128, 128, 128, 128, 128, 1},
		slices.Repeat([]int64{128}, impl.MaxBytes),
		slices.Repeat([]int64{255}, impl.MaxBytes),
		append(slices.Repeat([]int64{128}, impl.MaxBytes-1), 1),
	} {
		expectNoNumber(t, b, 0)
		expectNoNumber(t, append(b, 1), 0)
	}
}

func TestReadVarRefusesWhatIsNoPlace(t *testing.T) {
	b := []int64{5, 6, 7}
	for _, at := range []int64{-1, -2, -3, 3, 4, 1 << 32, math.MinInt64, math.MaxInt64} {
		expectNoNumber(t, b, at)
		// Behind the list there is room with more numbers in it.
		expectNoNumber(t, append(b, 8, 9)[:3], at)
	}
	expectNumber(t, b, 2, 7, 3)
	for _, at := range []int64{-1, 0, 1} {
		expectNoNumber(t, nil, at)
		expectNoNumber(t, []int64{}, at)
	}
}

func TestReadVarRefusesAListThatIsNotRight(t *testing.T) {
	for _, x := range []int64{-1, 256, -128, 300, math.MinInt64, math.MaxInt64} {
		expectNoNumber(t, []int64{x}, 0)
		expectNoNumber(t, []int64{x, 5}, 1)
		expectNoNumber(t, []int64{5, x}, 0)
		expectNoNumber(t, []int64{128, x}, 0)
		expectNoNumber(t, []int64{5, 6, 7, 8, x}, 1)
	}
}

func TestReadVarAtTheLimitOfBytes(t *testing.T) {
	full := make([]int64, impl.MaxBytes)
	copy(full[impl.MaxBytes-2:], []int64{172, 2})
	expectNumber(t, full, 0, 0, 1)
	expectNumber(t, full, impl.MaxBytes-2, 300, impl.MaxBytes)
	expectNoNumber(t, full, impl.MaxBytes)
	passed := append(full, 0)
	expectNoNumber(t, passed, 0)
	expectNoNumber(t, passed, impl.MaxBytes)
}

func TestBytesStayAsTheyAre(t *testing.T) {
	lists := [][]int64{{}, {0}, {172, 2}, {128, 0}, {128}, {-1, 5}, {256}, {128, 148, 235, 220, 3}, make([]int64, impl.MaxBytes), make([]int64, impl.MaxBytes+1)}
	for _, list := range lists {
		whole := slices.Concat(list, []int64{71, 72, 73, 74, 75, 76})
		before := slices.Clone(whole)
		given := whole[:len(list)]
		impl.BytesOk(given)
		for _, at := range []int64{-1, 0, 1, int64(len(list)), math.MaxInt64} {
			impl.ReadVar(given, at)
		}
		if !slices.Equal(whole, before) {
			t.Errorf("written into: %v", brief(before))
		}
	}
}

func TestVarOfIsNewMemory(t *testing.T) {
	for _, c := range forms {
		first := impl.VarOf(c.n)
		room := first[:cap(first)]
		for i := range room {
			room[i] = 99
		}
		second := impl.VarOf(c.n)
		if !slices.Equal(second, c.b) {
			t.Fatalf("VarOf(%d) = %v after its first answer was written into", c.n, second)
		}
		for i := range room {
			room[i] = 98
		}
		if !slices.Equal(second, c.b) {
			t.Fatalf("two answers of VarOf(%d) share memory", c.n)
		}
	}
}
