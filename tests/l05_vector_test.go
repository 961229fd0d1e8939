package tests

import (
	"math"
	"slices"
	"testing"

	"loop.example/g00824/impl"
)

// someVectors are right, whatever the program does: all of small numbers, and
// some of those about the limits.
func someVectors() [][]int64 {
	list := [][]int64{}
	for i := int64(0); i < 81; i++ {
		list = append(list, []int64{i / 27, i / 9 % 3, i / 3 % 3, i % 3})
	}
	list = append(list,
		[]int64{impl.MaxDot, impl.MaxDot, impl.MaxDot, impl.MaxDot}, []int64{impl.MaxDot, 0, 0, 0}, []int64{0, impl.MaxDot, 0, 0}, []int64{0, 0, impl.MaxDot, 0},
		[]int64{0, 0, 0, impl.MaxDot}, []int64{impl.MaxDot - 1, impl.MaxDot, 1, 0}, []int64{255, 256, 65535, 65536}, []int64{256, 255, 65536, 65535})
	for seed := range int64(20) {
		x := manyBytes(8, seed)
		list = append(list, []int64{x[0]*256 + x[1], x[2]*256 + x[3], x[4]*256 + x[5], x[6]*256 + x[7]})
	}
	return list
}

// bentVectors has the vector with one number that is not right, at each place.
func bentVectors(v []int64) [][]int64 {
	list := [][]int64{}
	for i := range v {
		for _, x := range append([]int64{-1, impl.MaxDot + 1, impl.MaxAmount}, farNumbers...) {
			bent := slices.Clone(v)
			bent[i] = x
			list = append(list, bent)
		}
	}
	return list
}

// notVectors are not right: of another length, or of a number that may not be.
func notVectors() [][]int64 {
	list := [][]int64{nil, {}, {0}, {0, 0}, {0, 0, 0}, {1, 2, 3}, {0, 0, 0, 0, 0}, {1, 2, 3, 4, 5}, make([]int64, 2*impl.MaxNodes), make([]int64, impl.MaxBytes), make([]int64, 200000)}
	// What is cut off is still there behind the list.
	for many := range impl.MaxNodes {
		list = append(list, []int64{1, 2, 3, 4, 5, 6}[:many])
	}
	for _, v := range [][]int64{{0, 0, 0, 0}, {1, 5, 0, impl.MaxDot}} {
		list = append(list, bentVectors(v)...)
	}
	return append(list, []int64{-1, -1, -1, -1}, []int64{impl.MaxDot + 1, -1, impl.MaxDot + 1, -1})
}

// laterByHand goes by what the document tells, place by place.
func laterByHand(a, b []int64) []int64 {
	list := []int64{}
	for i := range impl.MaxNodes {
		if a[i] > b[i] {
			list = append(list, a[i])
		} else {
			list = append(list, b[i])
		}
	}
	return list
}

func coversByHand(a, b []int64) bool {
	return a[0] >= b[0] && a[1] >= b[1] && a[2] >= b[2] && a[3] >= b[3]
}

func dotsByHand(book []impl.Entry) []int64 {
	list := []int64{}
	for node := range int64(impl.MaxNodes) {
		dots := []int64{0}
		for _, e := range book {
			if e.Owner == node {
				dots = append(dots, e.Dot)
			}
		}
		slices.Sort(dots)
		list = append(list, dots[len(dots)-1])
	}
	return list
}

func expectVector(t *testing.T, v []int64) {
	t.Helper()
	if !impl.VecOk(v) {
		t.Fatalf("refused: %v, of %d", brief(v), len(v))
	}
	expectLater(t, v, v, v)
	expectCovers(t, v, v, true)
}

func expectNoVector(t *testing.T, v []int64) {
	t.Helper()
	if impl.VecOk(v) {
		t.Fatalf("taken: %v, of %d", brief(v), len(v))
	}
	least, most := make([]int64, impl.MaxNodes), slices.Repeat([]int64{impl.MaxDot}, impl.MaxNodes)
	for _, other := range [][]int64{v, least, most, {1, 5, 0, 7}, nil, {-1, 0, 0, 0}, {0, 0, 0, impl.MaxDot + 1}} {
		expectNotLater(t, v, other)
		expectNotLater(t, other, v)
	}
}

func expectVecOf(t *testing.T, book []impl.Entry, want []int64) {
	t.Helper()
	got := impl.VecOf(book)
	if !slices.Equal(got, want) {
		t.Fatalf("VecOf(%v) = %v, not %v", few(book), got, want)
	}
	expectVector(t, got)
}

func expectNoVecOf(t *testing.T, book []impl.Entry) {
	t.Helper()
	if got := impl.VecOf(book); len(got) != 0 {
		t.Fatalf("VecOf(%v), of %d, = %v, not nothing", few(book), len(book), got)
	}
}

func expectLater(t *testing.T, a, b, want []int64) {
	t.Helper()
	if got := impl.Later(a, b); !slices.Equal(got, want) {
		t.Fatalf("Later(%v, %v) = %v, not %v", a, b, got, want)
	}
}

func expectCovers(t *testing.T, a, b []int64, want bool) {
	t.Helper()
	if got := impl.Covers(a, b); got != want {
		t.Fatalf("Covers(%v, %v) = %v, not %v", a, b, got, want)
	}
}

// expectNotLater is for two of which one is not right.
func expectNotLater(t *testing.T, a, b []int64) {
	t.Helper()
	if got := impl.Later(a, b); len(got) != 0 {
		t.Fatalf("Later(%v, %v) = %v, not nothing", brief(a), brief(b), got)
	}
	if impl.Covers(a, b) {
		t.Fatalf("Covers(%v, %v), of which one is not right", brief(a), brief(b))
	}
}

func TestOrdinaryVectorsAreRight(t *testing.T) {
	for _, v := range someVectors() {
		expectVector(t, v)
	}
}

func TestVectorsThatAreNotRight(t *testing.T) {
	for _, v := range notVectors() {
		expectNoVector(t, v)
	}
}

func TestAVectorAtItsLength(t *testing.T) {
	for many := range 3 * impl.MaxNodes {
		for _, dot := range []int64{0, 1, impl.MaxDot} {
			v := slices.Repeat([]int64{dot}, many)
			if many == impl.MaxNodes {
				expectVector(t, v)
			} else {
				expectNoVector(t, v)
			}
		}
	}
	expectNoVector(t, nil)
	// The room behind a vector is not of it, be it of no dots.
	long := []int64{1, 2, 3, 4, -5, 6, 7, 8}
	expectVector(t, long[:impl.MaxNodes])
	for many := range impl.MaxNodes {
		expectNoVector(t, long[:many])
	}
}

func TestAVectorAtTheLimitsOfItsNumbers(t *testing.T) {
	for _, v := range someVectors() {
		for i := range v {
			for _, dot := range []int64{0, 1, impl.MaxDot - 1, impl.MaxDot} {
				right := slices.Clone(v)
				right[i] = dot
				expectVector(t, right)
			}
			for _, dot := range []int64{-1, impl.MaxDot + 1} {
				bent := slices.Clone(v)
				bent[i] = dot
				expectNoVector(t, bent)
			}
		}
	}
}

func TestFarNumbersAreNoDotsOfAVector(t *testing.T) {
	for _, v := range [][]int64{{0, 0, 0, 0}, {3, 2, 1, 0}, {impl.MaxDot, impl.MaxDot, impl.MaxDot, impl.MaxDot}} {
		for _, bent := range bentVectors(v) {
			expectNoVector(t, bent)
		}
	}
}

func TestVecOfAnEmptyBook(t *testing.T) {
	behind := []impl.Entry{entry(1, 1, 5, 9)}
	for _, book := range [][]impl.Entry{nil, {}, behind[:0]} {
		expectVecOf(t, book, []int64{0, 0, 0, 0})
	}
}

func TestVecOfBooksWrittenOut(t *testing.T) {
	wants := [][]int64{{2, 2, 0, 0}, {0, 0, 90, 0}, {100000, 0, 0, 100000}, {2, 2, 2, 2}, {1, 1, 0, 0}, {1, 0, 0, 1}}
	for i, want := range wants {
		expectVecOf(t, ordinaryBooks[i], want)
	}
	expectVecOf(t, fullBook(), []int64{40, 35, 30, 25})
}

func TestVecOfSomeBooks(t *testing.T) {
	for _, book := range someBooks() {
		expectVecOf(t, book, dotsByHand(book))
	}
}

func TestVecOfABookOfOneEntry(t *testing.T) {
	for _, c := range ownedSlots {
		for _, dot := range []int64{1, 2, 255, 256, impl.MaxDot - 1, impl.MaxDot} {
			want := []int64{0, 0, 0, 0}
			want[c.owner] = dot
			expectVecOf(t, []impl.Entry{entry(c.owner, c.slot, impl.MaxAmount, dot)}, want)
			expectVecOf(t, []impl.Entry{entry(c.owner, c.slot, 1, dot)}, want)
		}
	}
}

func TestVecOfWhereTheGreatestDotStands(t *testing.T) {
	for owner := range int64(impl.MaxNodes) {
		// Of each part of its slots, each one has the greatest Dot once.
		for which := range 32 {
			slots := []int64{}
			for slot := range int64(5) {
				if which>>slot&1 == 1 {
					slots = append(slots, slot)
				}
			}
			for _, greatest := range slots {
				book, want := []impl.Entry{}, []int64{0, 0, 0, 0}
				for i, slot := range slots {
					book = append(book, entry(owner, slot, 900-int64(i), int64(i)+3))
					if slot == greatest {
						book[i].Dot = 77
					}
				}
				want[owner] = 77
				expectVecOf(t, book, want)
			}
		}
	}
}

func TestVecOfKeepsItsOwnersApart(t *testing.T) {
	// Each Owner in turn has no entry, one, two or five of them.
	manies := []int{0, 1, 2, 5}
	for first := range manies {
		book, want := []impl.Entry{}, []int64{0, 0, 0, 0}
		for owner := range int64(impl.MaxNodes) {
			for slot := range int64(manies[(first+int(owner))%4]) {
				dot := 1000*(4-owner) + (slot*3+owner)%5
				book = append(book, entry(owner, slot, 7, dot))
				want[owner] = max(want[owner], dot)
			}
		}
		expectVecOf(t, book, want)
	}
}

func TestVecOfABookThatIsNotRight(t *testing.T) {
	for _, book := range notBooks {
		expectNoVecOf(t, book)
	}
	for i, was := range fullBook() {
		for _, e := range bentEntries(was) {
			book := fullBook()
			book[i] = e
			expectNoVecOf(t, book)
		}
	}
	expectNoVecOf(t, append(fullBook(), entry(3, 4, 5, 900)))
	expectNoVecOf(t, slices.Repeat(fullBook(), 2))
}

func TestVecOfGrowsWithItsBook(t *testing.T) {
	for _, book := range someBooks() {
		for _, c := range ownedSlots {
			before := dotsByHand(book)
			for _, dot := range []int64{before[c.owner] + 1, before[c.owner] + 2, impl.MaxDot} {
				if dot <= before[c.owner] || dot > impl.MaxDot {
					continue
				}
				after := slices.Clone(before)
				after[c.owner] = dot
				with := put(book, entry(c.owner, c.slot, 5, dot))
				expectVecOf(t, with, after)
				expectCovers(t, impl.VecOf(with), impl.VecOf(book), true)
				expectCovers(t, impl.VecOf(book), impl.VecOf(with), false)
			}
		}
	}
}

func TestVecOfFallsWhereTheGreatestDotIsReplaced(t *testing.T) {
	book := []impl.Entry{entry(1, 0, 5, 3), entry(1, 2, 5, 9), entry(1, 4, 5, 6), entry(3, 1, 5, 8)}
	expectVecOf(t, book, []int64{0, 9, 0, 8})
	expectVecOf(t, put(book, entry(1, 2, 5, 4)), []int64{0, 6, 0, 8})
	expectVecOf(t, put(book, entry(1, 2, 5, 1)), []int64{0, 6, 0, 8})
	expectVecOf(t, put(book, entry(3, 1, 5, 1)), []int64{0, 9, 0, 1})
}

func TestLaterWhereEachOneIsGreaterAtSomePlace(t *testing.T) {
	expectLater(t, []int64{1, 5, 0, impl.MaxDot}, []int64{2, 4, 0, 7}, []int64{2, 5, 0, impl.MaxDot})
	expectLater(t, []int64{impl.MaxDot, 0, 3, 0}, []int64{0, impl.MaxDot, 0, 4}, []int64{impl.MaxDot, impl.MaxDot, 3, 4})
	a, b := []int64{10, 20, 30, 40}, []int64{11, 21, 31, 41}
	for which := range 16 {
		left, right := slices.Clone(a), slices.Clone(b)
		for i := range left {
			if which>>i&1 == 1 {
				left[i], right[i] = right[i], left[i]
			}
		}
		expectLater(t, left, right, b)
		expectCovers(t, left, right, which == 15)
		expectCovers(t, right, left, which == 0)
	}
}

func TestLaterOfTwoThatAreAlike(t *testing.T) {
	for _, v := range someVectors() {
		expectLater(t, v, v, v)
		expectLater(t, v, slices.Clone(v), v)
		expectLater(t, v, []int64{0, 0, 0, 0}, v)
		expectLater(t, []int64{0, 0, 0, 0}, v, v)
	}
}

func TestLaterAndCoversOfAllPairs(t *testing.T) {
	for _, a := range someVectors() {
		for _, b := range someVectors() {
			later := laterByHand(a, b)
			expectLater(t, a, b, later)
			expectCovers(t, a, b, coversByHand(a, b))
			expectCovers(t, later, a, true)
			expectCovers(t, later, b, true)
			// Each one covers what both have just where it covers the other one.
			expectCovers(t, a, later, coversByHand(a, b))
			expectCovers(t, b, later, coversByHand(b, a))
		}
	}
}

func TestAVectorCoversWhatIsNotLater(t *testing.T) {
	for _, a := range someVectors() {
		for _, b := range someVectors() {
			notLater := slices.Equal(impl.Later(a, b), a)
			if impl.Covers(a, b) != notLater || impl.Covers(a, b) && impl.Covers(b, a) != slices.Equal(a, b) {
				t.Fatal(a, b, impl.Covers(a, b))
			}
		}
	}
}

func TestLaterOfThreeInAllGroups(t *testing.T) {
	list := someVectors()
	for i, a := range list {
		for j, b := range list {
			c := list[(i*7+j*13+5)%len(list)]
			want := laterByHand(laterByHand(a, b), c)
			expectLater(t, impl.Later(a, b), c, want)
			expectLater(t, a, impl.Later(b, c), want)
			expectLater(t, c, impl.Later(b, a), want)
		}
	}
}

func TestCoversAtOnePlaceAlone(t *testing.T) {
	for _, v := range [][]int64{{5, 6, 7, 8}, {1, 1, 1, 1}, {impl.MaxDot, 1, impl.MaxDot, 1}, {1, impl.MaxDot, 1, impl.MaxDot}} {
		for i := range v {
			less := slices.Clone(v)
			less[i]--
			expectCovers(t, v, less, true)
			expectCovers(t, less, v, false)
			expectLater(t, v, less, v)
			expectLater(t, less, v, v)
			for j := range v {
				other := slices.Clone(v)
				other[j]--
				expectCovers(t, less, other, i == j)
			}
		}
	}
	// Less at one place is not made up for by much more at all the others.
	for i := range impl.MaxNodes {
		most := slices.Repeat([]int64{impl.MaxDot}, impl.MaxNodes)
		most[i] = 0
		one := []int64{0, 0, 0, 0}
		one[i] = 1
		expectCovers(t, most, one, false)
		expectCovers(t, one, most, false)
	}
}

func TestLaterAndCoversWhereOneIsNotRight(t *testing.T) {
	rights := [][]int64{{0, 0, 0, 0}, {1, 2, 3, 4}, {impl.MaxDot, impl.MaxDot, impl.MaxDot, impl.MaxDot}}
	for _, bad := range notVectors() {
		for _, v := range rights {
			expectNotLater(t, v, bad)
			expectNotLater(t, bad, v)
		}
	}
	bads := notVectors()
	for i, bad := range bads {
		expectNotLater(t, bad, bad)
		expectNotLater(t, bad, bads[(i*11+3)%len(bads)])
	}
	// Covered, or later, if just the numbers were held against each other.
	expectNotLater(t, []int64{5, 5, 5, 5}, []int64{-1, 0, 0, 0})
	expectNotLater(t, []int64{5, 5, 5, 5}, []int64{0, 0, 0, math.MinInt64})
	expectNotLater(t, []int64{impl.MaxDot + 1, 5, 5, 5}, []int64{5, 5, 5, 5})
	expectNotLater(t, []int64{5, 5, 5, 5}, []int64{5, 5, 5})
	expectNotLater(t, []int64{5, 5, 5, 5, 5}, []int64{5, 5, 5, 5})
}

func TestVectorsSayTheSameAgain(t *testing.T) {
	for i, v := range append(someVectors(), notVectors()...) {
		other := []int64{2, 1, 255, 256}
		firstOk, firstCovers := impl.VecOk(v), impl.Covers(v, other)
		first := impl.Later(v, other)
		impl.VecOf(fullBook())
		impl.Later([]int64{9, 9, 9, 9}, []int64{math.MaxInt64, 9, 9, 9})
		again := impl.Later(v, other)
		if impl.VecOk(v) != firstOk || impl.Covers(v, other) != firstCovers || !slices.Equal(again, first) {
			t.Fatal("not the same again:", i, brief(v))
		}
	}
}

// vectorWithRoom has the list and a room behind it, all of it; and just the
// list, in the same memory.
func vectorWithRoom(v []int64) ([]int64, []int64) {
	whole := slices.Concat(v, []int64{71, 72, 73, 74, 75, 76})
	return whole, whole[:len(v)]
}

func TestVectorsStayAsTheyAre(t *testing.T) {
	list := append(someVectors(), notVectors()...)
	for i, v := range list {
		whole, given := vectorWithRoom(v)
		otherWhole, other := vectorWithRoom(list[(i*5+1)%len(list)])
		before, otherBefore := slices.Clone(whole), slices.Clone(otherWhole)
		impl.VecOk(given)
		impl.Later(given, other)
		impl.Later(other, given)
		impl.Later(given, given)
		impl.Covers(given, other)
		impl.Covers(other, given)
		impl.Covers(given, given)
		if !slices.Equal(whole, before) || !slices.Equal(otherWhole, otherBefore) {
			t.Fatalf("written into: %v or %v", brief(before), brief(otherBefore))
		}
	}
	for _, book := range append(someBooks(), notBooks...) {
		whole, given := withRoom(book)
		before := slices.Clone(whole)
		impl.VecOf(given)
		if !slices.Equal(whole, before) {
			t.Fatalf("written into: %v", before)
		}
	}
}

func TestLaterIsNewMemory(t *testing.T) {
	others := [][]int64{{0, 0, 0, 0}, {2, 1, 255, 256}, {impl.MaxDot, impl.MaxDot, impl.MaxDot, impl.MaxDot}}
	for _, v := range someVectors() {
		for _, other := range append(others, v) {
			// Be the one like the answer, or the other, or both.
			expectNewMemory(t, v, func(given []int64) []int64 { return impl.Later(given, other) })
			expectNewMemory(t, v, func(given []int64) []int64 { return impl.Later(other, given) })
		}
		expectNewMemory(t, v, func(given []int64) []int64 { return impl.Later(given, given) })
	}
}

// expectNumbersOfABook overwrites the numbers that are answered to a book, with
// the room behind them, and the book, and looks whether either is seen in the
// other.
func expectNumbersOfABook(t *testing.T, book []impl.Entry, want []int64, call func([]impl.Entry) []int64) {
	t.Helper()
	whole, given := withRoom(book)
	before := slices.Clone(whole)
	first, second := call(given), call(given)
	room := first[:cap(first)]
	for i := range room {
		room[i] = 99
	}
	if !slices.Equal(whole, before) || !slices.Equal(second, want) {
		t.Fatalf("an answer to %v shares memory", before)
	}
	overwrite(whole)
	if !slices.Equal(second, want) || !slices.Equal(call(book), want) {
		t.Fatalf("an answer to %v shares memory with the book", before)
	}
}

func TestVecOfIsNewMemory(t *testing.T) {
	for _, book := range someBooks() {
		expectNumbersOfABook(t, book, dotsByHand(book), impl.VecOf)
	}
}
