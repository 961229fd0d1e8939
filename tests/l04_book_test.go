package tests

import (
	"math"
	"slices"
	"testing"

	"loop.example/g00824/impl"
)

// ordinaryBooks are right, whatever the program does.
var ordinaryBooks = [][]impl.Entry{
	{entry(0, 0, 50, 1), entry(0, 1, 20, 2), entry(1, 1, 5, 1), entry(1, 4, 7, 2)},
	// Dots that fall by key, with gaps between them.
	{entry(2, 0, 1, 90), entry(2, 1, 1, 80), entry(2, 2, 1, 7), entry(2, 4, 1, 2)},
	// More is given and spent than was made: that is no matter of a book.
	{entry(0, 1, impl.MaxAmount, impl.MaxDot), entry(0, 4, impl.MaxAmount, 1), entry(3, 0, impl.MaxAmount, impl.MaxDot)},
	// Each Owner has the Dots 1 and 2.
	{entry(0, 3, 9, 1), entry(0, 4, 9, 2), entry(1, 0, 9, 2), entry(1, 3, 9, 1), entry(2, 0, 9, 1), entry(2, 2, 9, 2), entry(3, 0, 9, 2), entry(3, 4, 9, 1)},
	{entry(0, 4, 1, 1), entry(1, 0, 1, 1)},
	{entry(0, 0, 1, 1), entry(3, 4, 1, 1)},
}

// fullBook has an entry of each key, no two alike in Amount or in Dot.
func fullBook() []impl.Entry {
	book := []impl.Entry{}
	for _, c := range ownedSlots {
		book = append(book, entry(c.owner, c.slot, 100+c.key, 40-c.key))
	}
	return book
}

// someBooks has right books of all sizes: every key of the full one is left
// out here and there.
func someBooks() [][]impl.Entry {
	list := append([][]impl.Entry{nil, {}, fullBook()}, ordinaryBooks...)
	for _, e := range fullBook() {
		list = append(list, []impl.Entry{e})
	}
	for seed := range int64(60) {
		book := []impl.Entry{}
		for i, x := range manyBytes(20, seed) {
			if x%60 > seed {
				book = append(book, fullBook()[i])
			}
		}
		list = append(list, book)
	}
	return list
}

// notBooks are not right, each for one reason.
var notBooks = [][]impl.Entry{
	{{}},
	{entry(0, 0, 0, 1)},
	{entry(4, 4, 1, 1)},
	{entry(0, 0, 5, 1), entry(0, 0, 5, 2)},
	{entry(0, 0, 5, 1), entry(0, 0, 5, 1)},
	{entry(0, 1, 5, 1), entry(0, 0, 5, 2)},
	{entry(1, 0, 5, 1), entry(0, 4, 5, 1)},
	{entry(0, 0, 5, 1), entry(0, 1, 5, 1)},
	{entry(0, 0, 5, 1), entry(0, 1, 5, 2), entry(0, 4, 5, 1)},
	{entry(0, 0, 5, 1), entry(0, 1, 5, 2), entry(1, 1, 5, impl.MaxDot+1)},
	{entry(0, 0, 5, 1), entry(0, 5, 5, 2), entry(1, 1, 5, 1)},
	{entry(-1, 4, 5, 1), entry(0, 0, 5, 1)},
}

func inRange(n, least, most int64) bool {
	return n >= least && n <= most
}

// isBook asks what a book is by maps, apart from how the program does it.
func isBook(book []impl.Entry) bool {
	dots, last := map[[2]int64]bool{}, int64(-1)
	for _, e := range book {
		right := inRange(e.Owner, 0, 3) && inRange(e.Slot, 0, 4) && inRange(e.Amount, 1, 1000000) && inRange(e.Dot, 1, 100000)
		dot := [2]int64{e.Owner, e.Dot}
		if !right || 5*e.Owner+e.Slot <= last || dots[dot] {
			return false
		}
		dots[dot], last = true, 5*e.Owner+e.Slot
	}
	return true
}

// put writes the entry into a table of all keys, and the table out in order.
func put(book []impl.Entry, e impl.Entry) []impl.Entry {
	table := map[int64]impl.Entry{}
	for _, was := range book {
		table[5*was.Owner+was.Slot] = was
	}
	table[5*e.Owner+e.Slot] = e
	list := []impl.Entry{}
	for key := range int64(20) {
		if is, ok := table[key]; ok {
			list = append(list, is)
		}
	}
	return list
}

func amountByHand(book []impl.Entry, owner, slot int64) int64 {
	for _, e := range book {
		if e.Owner == owner && e.Slot == slot {
			return e.Amount
		}
	}
	return 0
}

func expectAmount(t *testing.T, book []impl.Entry, owner, slot, want int64) {
	t.Helper()
	if got := impl.AmountAt(book, owner, slot); got != want {
		t.Fatalf("AmountAt(%v, %d, %d) = %d, not %d", few(book), owner, slot, got, want)
	}
}

func few(book []impl.Entry) []impl.Entry {
	return book[:min(len(book), 20)]
}

func expectBook(t *testing.T, book []impl.Entry) {
	t.Helper()
	if !impl.BookOk(book) {
		t.Fatalf("refused: %v, of %d", few(book), len(book))
	}
	for _, c := range ownedSlots {
		expectAmount(t, book, c.owner, c.slot, amountByHand(book, c.owner, c.slot))
	}
}

func expectNoBook(t *testing.T, book []impl.Entry) {
	t.Helper()
	if impl.BookOk(book) {
		t.Fatalf("taken: %v, of %d", few(book), len(book))
	}
	for _, c := range ownedSlots {
		expectAmount(t, book, c.owner, c.slot, -1)
	}
	// One that another entry of the book may be, and one that none is.
	for _, e := range []impl.Entry{entry(0, 0, 5, 1), entry(3, 3, 5, 77777)} {
		expectNotWith(t, book, e)
	}
}

func expectWith(t *testing.T, book []impl.Entry, e impl.Entry, want []impl.Entry) {
	t.Helper()
	got, ok := impl.With(book, e)
	if !ok || !slices.Equal(got, want) {
		t.Fatalf("With(%v, %v) = %v, %v, not %v, true", few(book), e, got, ok, want)
	}
	expectBook(t, got)
}

func expectNotWith(t *testing.T, book []impl.Entry, e impl.Entry) {
	t.Helper()
	if got, ok := impl.With(book, e); ok || len(got) != 0 {
		t.Fatalf("With(%v, %v) = %v, %v, not nothing, false", few(book), e, few(got), ok)
	}
}

func TestOrdinaryBooksAreRight(t *testing.T) {
	for _, book := range someBooks() {
		expectBook(t, book)
	}
}

func TestBooksThatAreNotRight(t *testing.T) {
	for _, book := range notBooks {
		expectNoBook(t, book)
	}
}

func TestAnEmptyBook(t *testing.T) {
	// The room behind it is not of it.
	behind := []impl.Entry{entry(1, 1, 5, 1), entry(0, 0, 5, 1)}
	for _, book := range [][]impl.Entry{nil, {}, behind[:0]} {
		expectBook(t, book)
		for _, c := range ownedSlots {
			expectAmount(t, book, c.owner, c.slot, 0)
			e := entry(c.owner, c.slot, 3, 4)
			expectWith(t, book, e, []impl.Entry{e})
		}
		expectNotWith(t, book, impl.Entry{})
	}
}

func TestABookOfOneEntry(t *testing.T) {
	for _, c := range ownedSlots {
		for _, amount := range []int64{1, 2, impl.MaxAmount} {
			for _, dot := range []int64{1, 2, impl.MaxDot} {
				book := []impl.Entry{entry(c.owner, c.slot, amount, dot)}
				expectBook(t, book)
				expectAmount(t, book, c.owner, c.slot, amount)
				expectAmount(t, book, c.owner, (c.slot+1)%5, 0)
				expectAmount(t, book, (c.owner+1)%4, c.slot, 0)
			}
		}
		for _, e := range bentEntries(entry(c.owner, c.slot, 5, 6)) {
			expectNoBook(t, []impl.Entry{e})
		}
	}
}

// bentEntries has the entry with one field that is not right.
func bentEntries(e impl.Entry) []impl.Entry {
	list := []impl.Entry{{}}
	for _, x := range append([]int64{-1, impl.MaxAmount + 1}, farNumbers...) {
		list = append(list, entry(x, e.Slot, e.Amount, e.Dot), entry(e.Owner, x, e.Amount, e.Dot), entry(e.Owner, e.Slot, x, e.Dot), entry(e.Owner, e.Slot, e.Amount, x))
	}
	return append(list,
		entry(impl.MaxNodes, e.Slot, e.Amount, e.Dot), entry(e.Owner, impl.SlSpent+1, e.Amount, e.Dot),
		entry(e.Owner, e.Slot, 0, e.Dot), entry(e.Owner, e.Slot, e.Amount, 0), entry(e.Owner, e.Slot, e.Amount, impl.MaxDot+1))
}

func TestABookOfTwoRises(t *testing.T) {
	for _, a := range fullBook() {
		for _, b := range fullBook() {
			b.Dot += 100
			book := []impl.Entry{a, b}
			if 5*a.Owner+a.Slot < 5*b.Owner+b.Slot {
				expectBook(t, book)
			} else {
				expectNoBook(t, book)
			}
		}
	}
}

func TestABookOfThreeRisesAllTheWay(t *testing.T) {
	for a := range 20 {
		for b := range 20 {
			for c := range 20 {
				book := []impl.Entry{fullBook()[a], fullBook()[b], fullBook()[c]}
				book[1].Dot += 100
				book[2].Dot += 200
				if rises := a < b && b < c; impl.BookOk(book) != rises {
					t.Fatal(book, "is right:", !rises)
				}
			}
		}
	}
}

func TestAFullBookRisesAtEachPlace(t *testing.T) {
	for i := range 19 {
		swapped := fullBook()
		swapped[i], swapped[i+1] = swapped[i+1], swapped[i]
		expectNoBook(t, swapped)
		still := fullBook()
		still[i+1].Owner, still[i+1].Slot = still[i].Owner, still[i].Slot
		expectNoBook(t, still)
	}
	backward := fullBook()
	slices.Reverse(backward)
	expectNoBook(t, backward)
}

func TestNoTwoDotsOfOneOwnerAreAlike(t *testing.T) {
	for i := range 20 {
		for j := range i {
			full := fullBook()
			full[i].Dot = full[j].Dot
			pair := []impl.Entry{full[j], full[i]}
			if full[i].Owner != full[j].Owner {
				expectBook(t, full)
				expectBook(t, pair)
				continue
			}
			expectNoBook(t, full)
			expectNoBook(t, pair)
		}
	}
}

func TestOneDotOfEachOwner(t *testing.T) {
	for _, dot := range []int64{1, 2, 50000, impl.MaxDot} {
		for slot := int64(0); slot <= impl.SlSpent; slot++ {
			book := []impl.Entry{}
			for owner := int64(0); owner < impl.MaxNodes; owner++ {
				book = append(book, entry(owner, slot, 5, dot))
			}
			expectBook(t, book)
		}
	}
}

func TestAnEntryThatIsNotRightAtEachPlace(t *testing.T) {
	for i, was := range fullBook() {
		for _, e := range bentEntries(was) {
			book := fullBook()
			book[i] = e
			expectNoBook(t, book)
		}
	}
	for _, e := range []impl.Entry{{}, entry(0, -1, 5, 9), entry(4, 0, 5, 9)} {
		right := ordinaryBooks[0]
		for i := range len(right) + 1 {
			expectNoBook(t, slices.Insert(slices.Clone(right), i, e))
		}
	}
}

func TestABookOfMoreEntriesThanKeys(t *testing.T) {
	for _, c := range ownedSlots {
		expectNoBook(t, append(fullBook(), entry(c.owner, c.slot, 5, 900)))
	}
	expectNoBook(t, append(fullBook(), entry(impl.MaxNodes, 0, 5, 900)))
	expectNoBook(t, slices.Repeat(fullBook(), 2))
	long := slices.Repeat([]impl.Entry{entry(0, 0, 5, 1)}, 200000)
	for i := range long {
		long[i].Dot = int64(i)%impl.MaxDot + 1
	}
	expectNoBook(t, long)
}

func TestBookOkOfAllShortLists(t *testing.T) {
	pool := []impl.Entry{
		entry(0, 0, 5, 1), entry(0, 0, 6, 2), entry(0, 1, 5, 1), entry(0, 1, 5, 2), entry(0, 4, 5, 3),
		entry(1, 0, 5, 1), entry(1, 1, 5, 3), entry(1, 4, 5, 1), entry(3, 4, 5, 2),
		entry(0, 2, 0, 4), entry(0, 5, 5, 5), entry(4, 0, 5, 1), {},
	}
	for _, a := range pool {
		for _, b := range pool {
			for _, c := range pool {
				for _, d := range pool {
					book := []impl.Entry{a, b, c, d}
					for many := range 5 {
						if part := book[:many]; impl.BookOk(part) != isBook(part) {
							t.Fatal(part, "is right:", !isBook(part))
						}
					}
				}
			}
		}
	}
}

func TestAmountAtEachOwnerAndSlot(t *testing.T) {
	for _, book := range someBooks() {
		for owner := int64(-12); owner <= 12; owner++ {
			for slot := int64(-12); slot <= 30; slot++ {
				want := int64(-1)
				if inRange(owner, 0, 3) && inRange(slot, 0, 4) {
					want = amountByHand(book, owner, slot)
				}
				expectAmount(t, book, owner, slot, want)
			}
		}
	}
}

func TestAmountAtWhatIsNot(t *testing.T) {
	book := fullBook()
	for n := int64(0); n <= impl.SlSpent; n++ {
		for _, x := range append([]int64{-1, impl.SlSpent + 1}, farNumbers...) {
			expectAmount(t, book, x, n, -1)
			expectAmount(t, book, n, x, -1)
			expectAmount(t, book, x, x, -1)
			expectAmount(t, nil, x, n, -1)
			expectAmount(t, nil, n, x, -1)
		}
		expectAmount(t, book, impl.MaxNodes, n, -1)
		expectAmount(t, nil, impl.MaxNodes, n, -1)
	}
	// Five times it, and the Slot, is a key, be it by wrapping around.
	for _, owner := range append([]int64{-1, impl.MaxNodes}, farNumbers...) {
		for key := range int64(20) {
			expectAmount(t, book, owner, key-5*owner, -1)
		}
	}
}

func TestAmountAtOfABookThatIsNotRight(t *testing.T) {
	for _, book := range notBooks {
		for owner := int64(-2); owner <= 5; owner++ {
			for slot := int64(-2); slot <= 6; slot++ {
				expectAmount(t, book, owner, slot, -1)
			}
		}
	}
}

func TestAmountAtTheLimits(t *testing.T) {
	book := []impl.Entry{entry(0, 0, 1, impl.MaxDot), entry(0, 4, impl.MaxAmount, 1), entry(3, 0, impl.MaxAmount, impl.MaxDot), entry(3, 4, 1, 1)}
	expectAmount(t, book, 0, 0, 1)
	expectAmount(t, book, 0, 4, 1000000)
	expectAmount(t, book, 3, 0, 1000000)
	expectAmount(t, book, 3, 4, 1)
	expectAmount(t, book, 0, 3, 0)
	expectAmount(t, book, 3, 3, 0)
}

func TestWithANewKeyAtEachPlace(t *testing.T) {
	for i, e := range fullBook() {
		expectWith(t, slices.Delete(fullBook(), i, i+1), e, fullBook())
	}
	a, b, c := entry(0, 2, 5, 1), entry(1, 3, 6, 2), entry(3, 0, 7, 3)
	expectWith(t, []impl.Entry{b, c}, a, []impl.Entry{a, b, c})
	expectWith(t, []impl.Entry{a, c}, b, []impl.Entry{a, b, c})
	expectWith(t, []impl.Entry{a, b}, c, []impl.Entry{a, b, c})
}

func TestWithInThePlaceOfItsKey(t *testing.T) {
	for i, was := range fullBook() {
		for _, n := range []int64{1, 2, was.Amount - 1, was.Amount + 1, impl.MaxAmount} {
			for _, dot := range []int64{1, was.Dot, was.Dot + 100, impl.MaxDot} {
				want := fullBook()
				want[i] = entry(was.Owner, was.Slot, n, dot)
				expectWith(t, fullBook(), want[i], want)
			}
		}
		expectWith(t, fullBook(), was, fullBook())
		e := entry(was.Owner, was.Slot, 7, 8)
		expectWith(t, []impl.Entry{was}, e, []impl.Entry{e})
	}
}

func TestWithAtADotOfAnotherEntry(t *testing.T) {
	for i, e := range fullBook() {
		less := slices.Delete(fullBook(), i, i+1)
		for j, other := range fullBook() {
			if i == j {
				continue
			}
			e.Dot = other.Dot
			if e.Owner == other.Owner {
				expectNotWith(t, less, e)
				expectNotWith(t, fullBook(), e)
			} else {
				expectWith(t, less, e, put(less, e))
				expectWith(t, fullBook(), e, put(less, e))
			}
		}
	}
}

func TestWithAtTheDotOfTheReplacedEntry(t *testing.T) {
	for _, book := range someBooks() {
		for _, e := range book {
			e.Amount = impl.MaxAmount + 1 - e.Amount
			expectWith(t, book, e, put(book, e))
		}
	}
}

func TestWithAnEntryThatIsNotRight(t *testing.T) {
	for _, book := range someBooks() {
		for _, e := range bentEntries(entry(1, 2, 5, 6)) {
			expectNotWith(t, book, e)
		}
	}
	for _, was := range fullBook() {
		for _, e := range bentEntries(was) {
			expectNotWith(t, fullBook(), e)
			expectNotWith(t, notBooks[3], e)
		}
	}
}

func TestWithDoesNotMendABook(t *testing.T) {
	bad := fullBook()
	bad[7].Amount = 0
	expectNotWith(t, bad, fullBook()[7])
	bad = fullBook()
	bad[8].Dot = bad[9].Dot
	expectNotWith(t, bad, fullBook()[8])
	expectNotWith(t, bad, entry(1, 4, 5, 99))
	twice := []impl.Entry{entry(0, 0, 5, 1), entry(0, 0, 5, 2)}
	expectNotWith(t, twice, entry(0, 0, 5, 3))
	expectNotWith(t, []impl.Entry{{}}, entry(0, 0, 5, 1))
	expectNotWith(t, []impl.Entry{entry(0, 0, 5, impl.MaxDot+1)}, entry(0, 0, 5, 1))
}

func TestWithOfABookThatIsNotRight(t *testing.T) {
	for _, book := range notBooks {
		for _, c := range ownedSlots {
			expectNotWith(t, book, entry(c.owner, c.slot, 5, 500))
		}
		expectNotWith(t, book, impl.Entry{})
	}
}

func TestWithPutsInTheEntryAndLeavesTheRest(t *testing.T) {
	for _, book := range someBooks() {
		for _, c := range ownedSlots {
			for dot := int64(1); dot <= 45; dot += 4 {
				e := entry(c.owner, c.slot, 1000+dot, dot)
				if want := put(book, e); isBook(want) {
					expectWith(t, book, e, want)
				} else {
					expectNotWith(t, book, e)
				}
			}
		}
	}
}

func TestABookGrowsEntryByEntry(t *testing.T) {
	book, full := []impl.Entry{}, 0
	for seed := range int64(4000) {
		x := manyBytes(4, seed)
		e := entry(x[0]%4, x[1]%5, x[2]+1, x[3]%40+1)
		want := put(book, e)
		if !isBook(want) {
			expectNotWith(t, book, e)
			continue
		}
		expectWith(t, book, e, want)
		book, _ = impl.With(book, e)
		full = max(full, len(book))
	}
	if full != 20 {
		t.Error("entries at the most:", full)
	}
}

func TestEachOrderOfWithMakesOneBook(t *testing.T) {
	for step := 1; step < 20; step += 2 {
		if step%5 == 0 {
			continue
		}
		book := []impl.Entry{}
		for i := range 20 {
			book, _ = impl.With(book, fullBook()[i*step%20])
		}
		if !slices.Equal(book, fullBook()) {
			t.Errorf("by steps of %d: %v", step, book)
		}
	}
}

func TestBooksSayTheSameAgain(t *testing.T) {
	for _, book := range append(someBooks(), notBooks...) {
		e := entry(2, 3, 9, 99)
		firstOk, firstAmount := impl.BookOk(book), impl.AmountAt(book, 2, 3)
		first, firstIs := impl.With(book, e)
		impl.With(fullBook(), entry(2, 3, 8, 98))
		impl.AmountAt(nil, math.MaxInt64, math.MinInt64)
		again, againIs := impl.With(book, e)
		if impl.BookOk(book) != firstOk || impl.AmountAt(book, 2, 3) != firstAmount || againIs != firstIs || !slices.Equal(again, first) {
			t.Fatal("not the same again:", book)
		}
	}
}

// entriesToPut has those that With takes, be it ahead, between, in place or
// behind, and those that it does not.
func entriesToPut() []impl.Entry {
	list := []impl.Entry{{}, entry(0, 0, 5, 1), entry(0, 1, 5, 1), entry(4, 0, 5, 1)}
	for _, c := range ownedSlots {
		list = append(list, entry(c.owner, c.slot, 5, 500))
	}
	return list
}

// withRoom has the book and a room behind it, all of it; and just the book, in
// the same memory.
func withRoom(book []impl.Entry) ([]impl.Entry, []impl.Entry) {
	whole := slices.Concat(book, []impl.Entry{entry(71, 72, 73, 74), {}, entry(3, 4, 5, 6), entry(75, 76, 77, 78)})
	return whole, whole[:len(book)]
}

func TestBooksStayAsTheyAre(t *testing.T) {
	for _, book := range append(someBooks(), notBooks...) {
		whole, given := withRoom(book)
		before := slices.Clone(whole)
		impl.BookOk(given)
		for _, c := range ownedSlots {
			impl.AmountAt(given, c.owner, c.slot)
		}
		impl.AmountAt(given, -1, 5)
		for _, e := range entriesToPut() {
			impl.With(given, e)
		}
		if !slices.Equal(whole, before) {
			t.Fatalf("written into: %v", before)
		}
	}
}

func TestBooksAreNewMemory(t *testing.T) {
	for _, book := range someBooks() {
		// What is there already is put as it is, too: the answer is like the book.
		for _, e := range append(entriesToPut(), book...) {
			whole, given := withRoom(book)
			before := slices.Clone(whole)
			first, _ := impl.With(given, e)
			want := slices.Clone(first)
			second, _ := impl.With(given, e)
			overwrite(first)
			if !slices.Equal(whole, before) || !slices.Equal(second, want) {
				t.Fatalf("an answer of With(%v, %v) shares memory", book, e)
			}
			overwrite(whole)
			if !slices.Equal(second, want) {
				t.Fatalf("an answer of With(%v, %v) shares memory with the book", book, e)
			}
		}
	}
}

// overwrite writes into the whole list, and into the room behind it.
func overwrite(list []impl.Entry) {
	room := list[:cap(list)]
	for i := range room {
		room[i] = entry(99, 98, 97, 96)
	}
}
