package tests

import (
	"math"
	"slices"
	"testing"

	"loop.example/g00824/impl"
)

// rights is what a book tells: what each node holds, and all that was made and
// spent.
type rights struct {
	held        [impl.MaxNodes]int64
	made, spent int64
}

// rightsByHand goes by a table of Amounts, row by row and column by column.
func rightsByHand(book []impl.Entry) rights {
	var table [4][5]int64
	for _, e := range book {
		table[e.Owner][e.Slot] = e.Amount
	}
	var r rights
	for node := range 4 {
		made, spent := table[node][node], table[node][4]
		gave := table[node][0] + table[node][1] + table[node][2] + table[node][3] - made
		given := table[0][node] + table[1][node] + table[2][node] + table[3][node] - made
		r.held[node] = made + given - gave - spent
		r.made += made
		r.spent += spent
	}
	return r
}

// drawnBook has each key or not, of Amounts up to the greatest one.
func drawnBook(seed int64) []impl.Entry {
	x := manyBytes(60, seed)
	book := []impl.Entry{}
	for i, c := range ownedSlots {
		if x[3*i]%8 > seed%8 {
			continue
		}
		amount := (x[3*i+1]*256 + x[3*i+2]) * 16
		book = append(book, entry(c.owner, c.slot, min(amount+1, impl.MaxAmount), c.key+1))
	}
	return book
}

func manyBooks() [][]impl.Entry {
	list := someBooks()
	for seed := range int64(2000) {
		list = append(list, drawnBook(seed))
	}
	return list
}

// rightParts has parts of a full book, spread over all choices of its keys.
func rightParts() [][]impl.Entry {
	list := [][]impl.Entry{}
	for which := 0; which < 1<<20; which += 211 {
		part := []impl.Entry{}
		for i, e := range fullBook() {
			if which>>i&1 == 1 {
				part = append(part, e)
			}
		}
		list = append(list, part)
	}
	return list
}

// noNodes are those that are no node; the low bits of some are those of one.
func noNodes() []int64 {
	return append([]int64{-1, impl.MaxNodes, impl.MaxNodes + 1, 1 << 8, 1<<8 + 1, 1<<16 + 2, -1 << 16}, farNumbers...)
}

func expectHeld(t *testing.T, book []impl.Entry, node, want int64) {
	t.Helper()
	if got := impl.HeldBy(book, node); got != want {
		t.Fatalf("HeldBy(%v, %d) = %d, not %d", few(book), node, got, want)
	}
}

func expectMadeSpent(t *testing.T, book []impl.Entry, made, spent int64) {
	t.Helper()
	if got := impl.MadeIn(book); got != made {
		t.Fatalf("MadeIn(%v) = %d, not %d", few(book), got, made)
	}
	if got := impl.SpentIn(book); got != spent {
		t.Fatalf("SpentIn(%v) = %d, not %d", few(book), got, spent)
	}
}

func expectRights(t *testing.T, book []impl.Entry, want rights) {
	t.Helper()
	for node, held := range want.held {
		expectHeld(t, book, int64(node), held)
	}
	expectHeld(t, book, -1, 0)
	expectHeld(t, book, impl.MaxNodes, 0)
	expectMadeSpent(t, book, want.made, want.spent)
}

// expectNoRights is for a book that is not right.
func expectNoRights(t *testing.T, book []impl.Entry) {
	t.Helper()
	expectRights(t, book, rights{made: -1, spent: -1})
}

func TestRightsOfBooksWrittenOut(t *testing.T) {
	const most = impl.MaxAmount
	wants := []rights{
		{held: [4]int64{30, 18, 0, 0}, made: 55, spent: 7},
		{held: [4]int64{1, 1, -2, 0}, made: 1, spent: 1},
		{held: [4]int64{-most, most, 0, -most}, made: 0, spent: most},
		{held: [4]int64{9, -18, 0, 0}, made: 9, spent: 18},
		{held: [4]int64{0, -1, 0, 0}, made: 0, spent: 1},
		{held: [4]int64{1, 0, 0, -1}, made: 1, spent: 1},
	}
	for i, want := range wants {
		expectRights(t, ordinaryBooks[i], want)
	}
	// Each Amount is its key and 100: node 0 made 100, was given 330, gave 306
	// and spent 104.
	expectRights(t, fullBook(), rights{held: [4]int64{20, 5, -10, -25}, made: 436, spent: 446})
}

func TestRightsOfAnEmptyBook(t *testing.T) {
	// What is cut off is still there behind the list.
	behind := []impl.Entry{entry(1, 1, 50, 9), entry(1, 2, 20, 10), entry(1, 4, 5, 11)}
	for _, book := range [][]impl.Entry{nil, {}, behind[:0]} {
		expectRights(t, book, rights{})
		for _, node := range noNodes() {
			expectHeld(t, book, node, 0)
		}
	}
	expectRights(t, behind[:1], rights{held: [4]int64{0, 50, 0, 0}, made: 50})
	expectRights(t, behind[:2], rights{held: [4]int64{0, 30, 20, 0}, made: 50})
}

func TestRightsOfABookOfOneEntry(t *testing.T) {
	for _, c := range ownedSlots {
		for _, n := range []int64{1, 2, 255, 256, impl.MaxAmount - 1, impl.MaxAmount} {
			var want rights
			switch c.slot {
			case c.owner:
				want.held[c.owner], want.made = n, n
			case 4:
				want.held[c.owner], want.spent = -n, n
			default:
				want.held[c.owner], want.held[c.slot] = -n, n
			}
			// By which Dot it was done is no matter.
			expectRights(t, []impl.Entry{entry(c.owner, c.slot, n, 1)}, want)
			expectRights(t, []impl.Entry{entry(c.owner, c.slot, n, impl.MaxDot)}, want)
		}
	}
}

func TestNodesThatOnlyMade(t *testing.T) {
	book := []impl.Entry{entry(0, 0, 7, 1), entry(1, 1, impl.MaxAmount, 1), entry(2, 2, 1, 1), entry(3, 3, 40, 1)}
	expectRights(t, book, rights{held: [4]int64{7, impl.MaxAmount, 1, 40}, made: impl.MaxAmount + 48})
	expectRights(t, book[3:], rights{held: [4]int64{0, 0, 0, 40}, made: 40})
	expectRights(t, book[:1], rights{held: [4]int64{7, 0, 0, 0}, made: 7})
}

func TestNodesThatOnlyGaveOrWereGiven(t *testing.T) {
	// The nodes 0 and 3 only gave, the nodes 1 and 2 only were given something.
	book := []impl.Entry{entry(0, 1, 10, 1), entry(0, 2, 20, 2), entry(3, 1, 300, 1), entry(3, 2, 4000, 2)}
	expectRights(t, book, rights{held: [4]int64{-30, 310, 4020, -4300}})
	// Around in a ring: each one gave what it was given.
	ring := []impl.Entry{entry(0, 1, 9, 1), entry(1, 2, 9, 1), entry(2, 3, 9, 1), entry(3, 0, 9, 1)}
	expectRights(t, ring, rights{})
	// To and fro: what is given back is another entry.
	expectRights(t, []impl.Entry{entry(0, 3, 9, 1), entry(3, 0, 5, 1)}, rights{held: [4]int64{-4, 0, 0, 4}})
}

func TestNodesThatOnlySpent(t *testing.T) {
	book := []impl.Entry{entry(0, impl.SlSpent, 7, 1), entry(1, impl.SlSpent, impl.MaxAmount, 1), entry(2, impl.SlSpent, 1, 1), entry(3, impl.SlSpent, 40, 1)}
	expectRights(t, book, rights{held: [4]int64{-7, -impl.MaxAmount, -1, -40}, spent: impl.MaxAmount + 48})
	// SlSpent is MaxNodes: no node holds what was spent.
	expectHeld(t, book, impl.SlSpent, 0)
	expectRights(t, book[3:], rights{held: [4]int64{0, 0, 0, -40}, spent: 40})
	expectRights(t, book[:1], rights{held: [4]int64{-7, 0, 0, 0}, spent: 7})
}

func TestAPartHoldsLessThanNothing(t *testing.T) {
	// Node 1 gives and spends what nodes 0 and 2 gave it: it holds just nothing.
	book := []impl.Entry{
		entry(0, 0, 100, 1), entry(0, 1, 60, 2), entry(1, 1, 5, 1), entry(1, 3, 70, 2),
		entry(1, 4, 25, 3), entry(2, 1, 30, 2), entry(2, 2, 30, 1),
	}
	expectRights(t, book, rights{held: [4]int64{40, 0, 0, 70}, made: 135, spent: 25})
	// Without what it was given, or made, it holds less than nothing.
	expectRights(t, book[2:], rights{held: [4]int64{0, -60, 0, 70}, made: 35, spent: 25})
	expectRights(t, book[2:5], rights{held: [4]int64{0, -90, 0, 70}, made: 5, spent: 25})
	expectRights(t, book[3:5], rights{held: [4]int64{0, -95, 0, 70}, spent: 25})
	expectRights(t, book[3:4], rights{held: [4]int64{0, -70, 0, 70}})
	expectRights(t, book[4:5], rights{held: [4]int64{0, -25, 0, 0}, spent: 25})
}

func TestANodeOfWhichTheBookSaysNothing(t *testing.T) {
	for node := range int64(impl.MaxNodes) {
		book := slices.DeleteFunc(fullBook(), func(e impl.Entry) bool { return e.Owner == node || e.Slot == node })
		expectHeld(t, book, node, 0)
		expectRights(t, book, rightsByHand(book))
	}
}

func TestWhatIsNoNodeHoldsNothing(t *testing.T) {
	for _, book := range someBooks() {
		for _, node := range noNodes() {
			expectHeld(t, book, node, 0)
		}
	}
	for node := int64(-300); node <= 300; node++ {
		if !inRange(node, 0, 3) {
			expectHeld(t, fullBook(), node, 0)
		}
	}
	for _, book := range notBooks {
		for _, node := range noNodes() {
			expectHeld(t, book, node, 0)
		}
	}
}

func TestWhatWasMadeIsNotGiven(t *testing.T) {
	for node := range int64(impl.MaxNodes) {
		want := rights{made: 70}
		want.held[node] = 70
		expectRights(t, []impl.Entry{entry(node, node, 70, 1)}, want)
		// Made once, and given to each other one: it is not given to itself, too.
		book := []impl.Entry{}
		for slot := range int64(5) {
			book = append(book, entry(node, slot, 100, slot+1))
			if slot < 4 {
				want.held[slot] = 100
			}
		}
		want.held[node], want.made, want.spent = -300, 100, 100
		expectRights(t, book, want)
	}
}

func TestRightsAtTheGreatestAmounts(t *testing.T) {
	full := fullBook()
	for i := range full {
		full[i].Amount, full[i].Dot = impl.MaxAmount, impl.MaxDot-int64(i)
	}
	expectRights(t, full, rights{made: 4000000, spent: 4000000})
	for node := range int64(impl.MaxNodes) {
		gone := slices.DeleteFunc(slices.Clone(full), func(e impl.Entry) bool { return e.Owner == node && e.Slot != node })
		expectHeld(t, gone, node, 4000000)
		expectMadeSpent(t, gone, 4000000, 3000000)
		came := slices.DeleteFunc(slices.Clone(full), func(e impl.Entry) bool { return e.Slot == node })
		expectHeld(t, came, node, -4000000)
		expectMadeSpent(t, came, 3000000, 4000000)
	}
	for i := range full {
		full[i].Amount = 1
	}
	expectRights(t, full, rights{made: 4, spent: 4})
}

func TestRightsOfManyBooks(t *testing.T) {
	for _, book := range manyBooks() {
		expectRights(t, book, rightsByHand(book))
	}
	for _, part := range rightParts() {
		expectRights(t, part, rightsByHand(part))
	}
}

func TestWhatAllHoldIsWhatWasMadeLessWhatWasSpent(t *testing.T) {
	for _, book := range append(manyBooks(), rightParts()...) {
		all := int64(0)
		for node := range int64(impl.MaxNodes) {
			all += impl.HeldBy(book, node)
		}
		if made, spent := impl.MadeIn(book), impl.SpentIn(book); made < 0 || spent < 0 || all != made-spent {
			t.Fatalf("of %v: all hold %d, made %d, spent %d", book, all, made, spent)
		}
	}
}

// TestOneMoreOfEachEntry asks that each entry is counted once, and nowhere else.
func TestOneMoreOfEachEntry(t *testing.T) {
	for _, book := range manyBooks() {
		for i, e := range book {
			if e.Amount == impl.MaxAmount {
				continue
			}
			want := rightsByHand(book)
			switch {
			case e.Slot == e.Owner:
				want.made++
				want.held[e.Owner]++
			case e.Slot == impl.SlSpent:
				want.spent++
				want.held[e.Owner]--
			default:
				want.held[e.Owner]--
				want.held[e.Slot]++
			}
			more := slices.Clone(book)
			more[i].Amount++
			expectRights(t, more, want)
		}
	}
}

func TestRightsOfABookThatIsNotRight(t *testing.T) {
	for _, book := range notBooks {
		expectNoRights(t, book)
	}
	for i, was := range fullBook() {
		for _, e := range bentEntries(was) {
			book := fullBook()
			book[i] = e
			expectNoRights(t, book)
		}
	}
}

func TestRightsWhereOneEntryIsNotRightAtEachPlace(t *testing.T) {
	bads := []impl.Entry{{}, entry(2, 2, 0, 9), entry(2, 2, impl.MaxAmount+1, 9), entry(2, 2, 5, 0), entry(2, 2, 5, impl.MaxDot+1), entry(-1, 2, 5, 9), entry(4, 4, 5, 9), entry(2, 5, 5, 9)}
	for _, right := range ordinaryBooks {
		// First, in the middle and last; in the place of another one, and beside it.
		for i := range len(right) + 1 {
			for _, e := range bads {
				expectNoRights(t, slices.Insert(slices.Clone(right), i, e))
				if i < len(right) {
					expectNoRights(t, slices.Replace(slices.Clone(right), i, i+1, e))
				}
			}
		}
	}
}

func TestRightsOfRightEntriesThatAreNoBook(t *testing.T) {
	for i := range 19 {
		swapped := fullBook()
		swapped[i], swapped[i+1] = swapped[i+1], swapped[i]
		expectNoRights(t, swapped)
		expectNoRights(t, slices.Insert(fullBook(), i, fullBook()[i]))
	}
	for i, e := range fullBook() {
		for j, other := range fullBook() {
			if i != j && e.Owner == other.Owner {
				alike := fullBook()
				alike[i].Dot = other.Dot
				expectNoRights(t, alike)
			}
		}
	}
	expectNoRights(t, append(fullBook(), entry(3, 4, 5, 900)))
	expectNoRights(t, slices.Repeat([]impl.Entry{entry(0, 0, impl.MaxAmount, 1)}, 200000))
	backward := fullBook()
	slices.Reverse(backward)
	expectNoRights(t, backward)
}

func TestRightsOfFarNumbers(t *testing.T) {
	for _, x := range farNumbers {
		expectNoRights(t, []impl.Entry{entry(x, x, x, x)})
		expectNoRights(t, []impl.Entry{entry(x, x, 5, 1)})
		expectNoRights(t, []impl.Entry{entry(0, 0, x, 1), entry(0, 1, x, 2), entry(0, 4, x, 3)})
		expectHeld(t, []impl.Entry{entry(x, x, 5, 1)}, x, 0)
	}
}

func TestRightsSayTheSameAgain(t *testing.T) {
	for _, book := range append(someBooks(), notBooks...) {
		var first rights
		for node := range first.held {
			first.held[node] = impl.HeldBy(book, int64(node))
		}
		first.made, first.spent = impl.MadeIn(book), impl.SpentIn(book)
		impl.HeldBy(fullBook(), 2)
		impl.HeldBy(notBooks[0], math.MinInt64)
		impl.MadeIn(fullBook())
		impl.SpentIn(fullBook())
		expectRights(t, book, first)
	}
}

func TestBooksOfRightsStayAsTheyAre(t *testing.T) {
	for _, book := range append(someBooks(), notBooks...) {
		whole, given := withRoom(book)
		before := slices.Clone(whole)
		for node := int64(-1); node <= impl.MaxNodes; node++ {
			impl.HeldBy(given, node)
		}
		impl.MadeIn(given)
		impl.SpentIn(given)
		if !slices.Equal(whole, before) {
			t.Fatalf("written into: %v", before)
		}
	}
}
