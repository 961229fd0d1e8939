package tests

import (
	"slices"
	"testing"

	"loop.example/g00824/impl"
)

// soundByHand goes by maps and a table of Amounts, apart from how the program
// does it.
func soundByHand(book []impl.Entry) bool {
	if !isBook(book) {
		return false
	}
	held := rightsByHand(book).held
	return slices.Min(held[:]) >= 0
}

func expectSound(t *testing.T, book []impl.Entry) {
	t.Helper()
	if !impl.Sound(book) {
		t.Fatalf("not sound: %v, of %d", few(book), len(book))
	}
}

func expectNotSound(t *testing.T, book []impl.Entry) {
	t.Helper()
	if impl.Sound(book) {
		t.Fatalf("sound: %v, of %d", few(book), len(book))
	}
}

func expectSoundAsByHand(t *testing.T, book []impl.Entry) {
	t.Helper()
	if got := impl.Sound(book); got == soundByHand(book) {
		return
	}
	t.Fatalf("Sound(%v), of %d, is not %v", few(book), len(book), soundByHand(book))
}

// expectBelow is for a right book in which a node is below nothing.
func expectBelow(t *testing.T, book []impl.Entry) {
	t.Helper()
	if !impl.BookOk(book) {
		t.Fatalf("not right: %v", few(book))
	}
	expectNotSound(t, book)
}

// withMore has the book's Amount of that key changed by so many.
func withMore(book []impl.Entry, owner, slot, many int64) []impl.Entry {
	list := slices.Clone(book)
	for i, e := range list {
		if e.Owner == owner && e.Slot == slot {
			list[i].Amount += many
		}
	}
	return list
}

func TestSoundBooksWrittenOut(t *testing.T) {
	// Of the first of these alone, nobody is below nothing.
	expectSound(t, ordinaryBooks[0])
	for _, book := range ordinaryBooks[1:] {
		expectBelow(t, book)
	}
	expectBelow(t, fullBook())
	expectSound(t, richBook())
}

func TestAnEmptyBookIsSound(t *testing.T) {
	// What is cut off is still there behind the list.
	spent, bad := []impl.Entry{entry(1, 4, 5, 1), entry(1, 4, 5, 1)}, []impl.Entry{{}, {}}
	for _, empty := range [][]impl.Entry{nil, {}, spent[:0], bad[:0]} {
		expectSound(t, empty)
	}
	made := []impl.Entry{entry(1, 1, 5, 1), entry(1, 4, 6, 2), {}}
	expectSound(t, made[:1])
	expectBelow(t, made[:2])
	expectNotSound(t, made)
}

func TestABookOfOneEntryIsSoundWhereItWasMade(t *testing.T) {
	for _, c := range ownedSlots {
		for _, amount := range []int64{1, 2, 255, 256, impl.MaxAmount} {
			for _, dot := range []int64{1, impl.MaxDot} {
				book := []impl.Entry{entry(c.owner, c.slot, amount, dot)}
				if c.slot == c.owner {
					expectSound(t, book)
				} else {
					expectBelow(t, book)
				}
			}
		}
	}
}

func TestEachNodeJustAboutNothing(t *testing.T) {
	for node := range int64(impl.MaxNodes) {
		for _, held := range []int64{0, 1, 2, 255, 256, impl.MaxAmount - 40} {
			expectHeld(t, holding(node, held), node, held)
			expectSound(t, holding(node, held))
		}
		for _, held := range []int64{-1, -2, -39} {
			expectHeld(t, holding(node, held), node, held)
			expectBelow(t, holding(node, held))
		}
	}
}

// TestEachNodeAlone has no other node in the book but the one that is given
// something, or none at all.
func TestEachNodeAlone(t *testing.T) {
	for node := range int64(impl.MaxNodes) {
		for slot := range int64(impl.SlSpent + 1) {
			if slot == node {
				continue
			}
			for _, many := range []int64{2, 500, impl.MaxAmount - 1} {
				book := put([]impl.Entry{entry(node, node, many, 1)}, entry(node, slot, many, 2))
				expectHeld(t, book, node, 0)
				expectSound(t, book)
				expectSound(t, withMore(book, node, slot, -1))
				expectSound(t, withMore(book, node, node, 1))
				expectBelow(t, withMore(book, node, slot, 1))
				expectBelow(t, withMore(book, node, node, -1))
			}
		}
	}
}

func TestSpendingWhatOneWasGiven(t *testing.T) {
	for giver := range int64(impl.MaxNodes) {
		for taker := range int64(impl.MaxNodes) {
			if giver == taker {
				continue
			}
			// The taker made nothing: all it spends was given to it.
			book := put(put([]impl.Entry{entry(giver, giver, 100, 1)}, entry(giver, taker, 60, 2)), entry(taker, 4, 60, 1))
			expectSound(t, book)
			expectSound(t, withMore(book, taker, 4, -1))
			expectBelow(t, withMore(book, taker, 4, 1))
			expectBelow(t, withMore(book, giver, taker, -1))
			expectSound(t, withMore(withMore(book, taker, 4, 40), giver, taker, 40))
			expectBelow(t, withMore(withMore(book, taker, 4, 41), giver, taker, 41))
			// Given on, or given back, instead of spent.
			for to := range int64(impl.MaxNodes) {
				if to != taker {
					on := put(nil, entry(giver, giver, 100, 1))
					on = put(put(on, entry(giver, taker, 60, 2)), entry(taker, to, 60, 1))
					expectSound(t, on)
					expectBelow(t, withMore(on, taker, to, 1))
				}
			}
		}
	}
}

func TestSpendingWhatAnotherOneWasGiven(t *testing.T) {
	for giver := range int64(impl.MaxNodes) {
		for taker := range int64(impl.MaxNodes) {
			for spender := range int64(impl.MaxNodes) {
				if giver == taker || spender == taker {
					continue
				}
				book := put(put([]impl.Entry{entry(giver, giver, 60, 1)}, entry(giver, taker, 60, 2)), entry(spender, 4, 1, 3))
				expectBelow(t, book)
				expectBelow(t, withMore(book, spender, 4, 59))
				// What it made itself it may spend.
				if spender != giver {
					expectSound(t, put(book, entry(spender, spender, 1, 1)))
					expectBelow(t, withMore(put(book, entry(spender, spender, 1, 1)), spender, 4, 1))
				} else {
					expectSound(t, withMore(book, spender, spender, 1))
				}
			}
		}
	}
}

func TestANodeWithoutAnEntryOfItsOwn(t *testing.T) {
	for node := range int64(impl.MaxNodes) {
		// Neither an entry of its own, nor one of what it was given.
		none := slices.DeleteFunc(richBook(), func(e impl.Entry) bool { return e.Owner == node || e.Slot == node })
		expectHeld(t, none, node, 0)
		expectSound(t, none)
		given := slices.DeleteFunc(richBook(), func(e impl.Entry) bool { return e.Owner == node })
		expectHeld(t, given, node, 300)
		expectSound(t, given)
		// The others go by what they hold, be it nothing of this node's.
		other := (node + 1) % impl.MaxNodes
		expectBelow(t, put(slices.DeleteFunc(none, func(e impl.Entry) bool { return e.Owner == other && e.Slot == other }), entry(other, 4, 2000, 700)))
	}
	for node := range int64(impl.MaxNodes) {
		expectSound(t, []impl.Entry{entry(node, node, 9, 1)})
	}
}

// TestWhatOthersHoldMakesUpForNothing asks each node of its own: all together
// hold more than nothing.
func TestWhatOthersHoldMakesUpForNothing(t *testing.T) {
	for below := range int64(impl.MaxNodes) {
		for rich := range int64(impl.MaxNodes) {
			if below == rich {
				continue
			}
			made := put([]impl.Entry{entry(below, below, 10, 1)}, entry(rich, rich, impl.MaxAmount, 1))
			gave := put(made, entry(below, rich, 11, 2))
			expectHeld(t, gave, below, -1)
			expectHeld(t, gave, rich, impl.MaxAmount+11)
			expectBelow(t, gave)
			expectSound(t, withMore(gave, below, rich, -1))
			expectBelow(t, put(made, entry(below, 4, 11, 2)))
			expectBelow(t, put(made, entry(below, 4, impl.MaxAmount, 2)))
			// What the rich one gives it does make up for it.
			expectSound(t, put(gave, entry(rich, below, 1, 2)))
			expectBelow(t, withMore(put(gave, entry(rich, below, 1, 2)), below, below, -1))
		}
	}
	// Each one beside three others that are below nothing, or are not.
	for which := range 16 {
		book := []impl.Entry{}
		for node := range int64(impl.MaxNodes) {
			spent := 50 + int64(which>>node&1)
			book = append(put(book, entry(node, node, 50, 1)), entry(node, 4, spent, 2))
		}
		if which == 0 {
			expectSound(t, book)
		} else {
			expectBelow(t, book)
		}
	}
}

func TestABookOfAllKeysIsSoundOrNot(t *testing.T) {
	for node := range int64(impl.MaxNodes) {
		// So that no Amount is beyond its limit where one more is spent.
		book := withMore(richBook(), node, node, -500)
		left := impl.MaxAmount - 604 - node
		expectHeld(t, book, node, left)
		expectSound(t, withMore(book, node, 4, left))
		expectBelow(t, withMore(book, node, 4, left+1))
		expectSound(t, withMore(book, node, node, -left))
		expectBelow(t, withMore(book, node, node, -left-1))
		for to := range int64(impl.MaxNodes) {
			if to != node {
				expectSound(t, withMore(book, node, to, left))
				expectBelow(t, withMore(book, node, to, left+1))
			}
		}
	}
	// Everybody holds just nothing, of everything the greatest Amount.
	most := richBook()
	for i := range most {
		most[i].Amount = impl.MaxAmount
	}
	expectSound(t, most)
	for i := range most {
		less := slices.Clone(most)
		less[i].Amount--
		if most[i].Slot == impl.SlSpent {
			expectSound(t, less)
		} else {
			expectBelow(t, less)
		}
	}
}

func TestWhatIsNoBookIsNotSound(t *testing.T) {
	for _, book := range notBooks {
		expectNotSound(t, book)
	}
	for _, book := range [][]impl.Entry{richBook(), {entry(0, 0, 50, 1)}, {entry(0, 0, 50, 1), entry(2, 2, 50, 1), entry(2, 4, 10, 2)}} {
		expectSound(t, book)
		for i, was := range book {
			for _, e := range bentEntries(was) {
				bent := slices.Clone(book)
				bent[i] = e
				expectNotSound(t, bent)
			}
		}
	}
}

func TestAnEntryThatIsNotRightBesideASoundBook(t *testing.T) {
	bads := []impl.Entry{{}, entry(2, 2, 0, 900), entry(2, 2, -5, 900), entry(2, 2, impl.MaxAmount+1, 900), entry(2, 2, 5, 0), entry(2, 2, 5, impl.MaxDot+1), entry(-1, 2, 5, 900), entry(4, 4, 5, 900), entry(2, 5, 5, 900), entry(2, -1, 5, 900)}
	for _, right := range [][]impl.Entry{nil, ordinaryBooks[0], richBook(), {entry(0, 0, 50, 1), entry(3, 3, 50, 1)}} {
		expectSound(t, right)
		for i := range len(right) + 1 {
			for _, e := range bads {
				expectNotSound(t, slices.Insert(slices.Clone(right), i, e))
			}
		}
	}
}

// TestEntriesOfARichBookThatAreNoBook has books in which everybody would hold
// more than nothing if just the entries were counted.
func TestEntriesOfARichBookThatAreNoBook(t *testing.T) {
	for i := range 19 {
		swapped := richBook()
		swapped[i], swapped[i+1] = swapped[i+1], swapped[i]
		expectNotSound(t, swapped)
	}
	for i, e := range richBook() {
		expectNotSound(t, slices.Insert(richBook(), i, e))
		other := e
		other.Dot += 500
		expectNotSound(t, slices.Insert(richBook(), i, other))
		for j := range richBook() {
			alike := richBook()
			alike[i].Dot = alike[j].Dot
			if i != j && alike[i].Owner == alike[j].Owner {
				expectNotSound(t, alike)
			} else {
				expectSound(t, alike)
			}
		}
	}
	backward := richBook()
	slices.Reverse(backward)
	expectNotSound(t, backward)
	for _, c := range ownedSlots {
		expectNotSound(t, append(richBook(), entry(c.owner, c.slot, 5, 900)))
	}
	expectNotSound(t, append(richBook(), entry(impl.MaxNodes, 4, 5, 900)))
	expectNotSound(t, slices.Repeat(richBook(), 2))
	expectNotSound(t, slices.Repeat([]impl.Entry{entry(0, 0, impl.MaxAmount, 1)}, 200000))
}

func TestFarNumbersAreNotSound(t *testing.T) {
	for _, x := range farNumbers {
		expectNotSound(t, []impl.Entry{entry(x, x, x, x)})
		expectNotSound(t, []impl.Entry{entry(x, x, 5, 1)})
		expectNotSound(t, []impl.Entry{entry(0, 0, x, 1), entry(0, 4, x, 2)})
		expectNotSound(t, []impl.Entry{entry(0, 0, 50, 1), entry(0, 4, x, 2)})
		expectNotSound(t, []impl.Entry{entry(0, 0, 50, x)})
	}
}

func TestSoundnessOfManyBooks(t *testing.T) {
	sound, below := 0, 0
	for _, drawn := range slices.Concat(manyBooks(), rightParts()) {
		made := slices.Clone(drawn)
		for i, e := range made {
			// Where much was made, and little spent, more books are sound.
			if e.Slot != e.Owner {
				made[i].Amount = e.Amount%300 + 1
			}
		}
		for _, book := range [][]impl.Entry{drawn, made} {
			expectSoundAsByHand(t, book)
			if soundByHand(book) {
				sound++
			} else {
				below++
			}
		}
	}
	if sound < 900 || below < 900 {
		t.Error("sound:", sound, "below:", below)
	}
}

func TestOneMoreOrLessOfASoundBook(t *testing.T) {
	for node := range int64(impl.MaxNodes) {
		for held := int64(-2); held <= 2; held++ {
			book := holding(node, held)
			for i := range book {
				for _, many := range []int64{-2, -1, 1, 2} {
					changed := slices.Clone(book)
					changed[i].Amount += many
					expectSoundAsByHand(t, changed)
				}
				expectSoundAsByHand(t, slices.Delete(slices.Clone(book), i, i+1))
			}
		}
	}
}

// aboutHeld is a deed of just what the node holds, or about it, so that some
// are short and some are not.
func aboutHeld(book []impl.Entry, x []int64) impl.Deed {
	kind, node := x[0]%3+1, x[1]%4
	held := impl.HeldBy(book, node)
	many := []int64{1, held / 2, held - 1, held, held + 1, x[2] * 40, impl.MaxAmount - x[2], x[2]}[x[3]%8]
	switch kind {
	case impl.DdMake:
		return makes(node, x[2]*x[4]*12+1)
	case impl.DdGive:
		return gives(node, (node+x[4]%3+1)%4, many)
	}
	return spends(node, many)
}

func TestWhatIsSoundStaysSoByDeeds(t *testing.T) {
	begins := [][]impl.Entry{nil, ordinaryBooks[0], richBook(), {entry(1, 1, 500, impl.MaxDot-40)}, holding(2, 0)}
	all := [4]int{}
	for seed := range int64(100) {
		book := begins[seed%int64(len(begins))]
		expectSound(t, book)
		x := manyBytes(200*5, seed)
		for i := range 200 {
			d := aboutHeld(book, x[5*i:])
			done, code := impl.Done(book, d)
			all[code]++
			if !impl.Sound(done) {
				t.Fatalf("Done(%v, %+v) = %v, %d, which is not sound", book, d, done, code)
			}
			if code == impl.CdBad {
				continue
			}
			expectSoundAsByHand(t, done)
			book = done
		}
	}
	if slices.Min(all[:]) < 200 {
		t.Error("of each code:", all)
	}
}

func TestEachDeedOfASoundBookLeavesItSound(t *testing.T) {
	seen := [4]int{}
	books := [][]impl.Entry{nil, ordinaryBooks[0], richBook()}
	for node := range int64(impl.MaxNodes) {
		books = append(books, holding(node, 0), holding(node, 1), holding(node, 21), []impl.Entry{entry(node, node, 50, impl.MaxDot)})
	}
	for _, book := range books {
		expectSound(t, book)
		for _, d := range append(someDeeds(), notDeeds...) {
			done, code := impl.Done(book, d)
			expectSound(t, done)
			seen[code]++
		}
	}
	if slices.Min(seen[:]) < 50 {
		t.Error("of each code:", seen)
	}
}

func TestWhatIsNotSoundMayBeMendedByMaking(t *testing.T) {
	for node := range int64(impl.MaxNodes) {
		below := holding(node, -39)
		less, _ := impl.Done(below, makes(node, 38))
		expectBelow(t, less)
		just, _ := impl.Done(below, makes(node, 39))
		expectSound(t, just)
		// What another one makes does not mend it, but for what that one gives.
		other := (node + 2) % impl.MaxNodes
		made, _ := impl.Done(below, makes(other, 500))
		expectBelow(t, made)
		given, _ := impl.Done(made, gives(other, node, 39))
		expectSound(t, given)
	}
}

func TestSoundSaysTheSameAgain(t *testing.T) {
	for _, book := range slices.Concat(someBooks(), notBooks, [][]impl.Entry{richBook(), holding(1, -1), holding(1, 0)}) {
		first := impl.Sound(book)
		impl.Sound(richBook())
		impl.Sound(fullBook())
		impl.Sound(notBooks[0])
		if impl.Sound(book) != first {
			t.Fatalf("not the same again: %v", book)
		}
	}
}

func TestSoundBooksStayAsTheyAre(t *testing.T) {
	for _, book := range slices.Concat(someBooks(), notBooks, [][]impl.Entry{richBook(), holding(1, -1), holding(1, 0)}) {
		whole, given := withRoom(book)
		before := slices.Clone(whole)
		impl.Sound(given)
		if !slices.Equal(whole, before) {
			t.Fatalf("written into: %v", before)
		}
	}
}
