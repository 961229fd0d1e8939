package tests

import (
	"slices"
	"testing"

	"loop.example/g00824/impl"
)

// A pairOfBooks is two right books, and both joined.
type pairOfBooks struct {
	a, b, joined []impl.Entry
}

// pairsWrittenOut hold whatever the program does.
var pairsWrittenOut = []pairOfBooks{
	// One key of the left is newer at the right, one key of the right is new.
	{
		[]impl.Entry{entry(0, 0, 50, 1), entry(0, 1, 20, 2), entry(1, 1, 5, 1), entry(1, 4, 7, 2)},
		[]impl.Entry{entry(0, 1, 25, 3), entry(2, 2, 9, 1)},
		[]impl.Entry{entry(0, 0, 50, 1), entry(0, 1, 25, 3), entry(1, 1, 5, 1), entry(1, 4, 7, 2), entry(2, 2, 9, 1)},
	},
	// Each side is newer once: the Dot tells it, be the Amount less or more.
	{
		[]impl.Entry{entry(2, 0, 90, 8), entry(2, 3, 90, 3)},
		[]impl.Entry{entry(2, 0, 10, 7), entry(2, 3, 10, 4)},
		[]impl.Entry{entry(2, 0, 90, 8), entry(2, 3, 10, 4)},
	},
	{
		[]impl.Entry{entry(3, 4, 1, impl.MaxDot)},
		[]impl.Entry{entry(3, 4, impl.MaxAmount, impl.MaxDot-1)},
		[]impl.Entry{entry(3, 4, 1, impl.MaxDot)},
	},
	// One Dot is of two keys, but not where the newer ones are put together.
	{
		[]impl.Entry{entry(0, 0, 5, 1), entry(0, 1, 6, 2)},
		[]impl.Entry{entry(0, 0, 7, 2), entry(0, 1, 8, 3)},
		[]impl.Entry{entry(0, 0, 7, 2), entry(0, 1, 8, 3)},
	},
	{
		[]impl.Entry{entry(1, 2, 5, 4), entry(1, 3, 6, 9)},
		[]impl.Entry{entry(1, 0, 7, 8), entry(1, 2, 8, 10), entry(1, 4, 9, 4)},
		[]impl.Entry{entry(1, 0, 7, 8), entry(1, 2, 8, 10), entry(1, 3, 6, 9), entry(1, 4, 9, 4)},
	},
	// One Dot is of two Owners.
	{
		[]impl.Entry{entry(0, 4, 5, 1), entry(2, 4, 5, 1)},
		[]impl.Entry{entry(1, 4, 5, 1), entry(3, 4, 5, 1)},
		[]impl.Entry{entry(0, 4, 5, 1), entry(1, 4, 5, 1), entry(2, 4, 5, 1), entry(3, 4, 5, 1)},
	},
}

// inOrder has the entries that the table has, which is by key.
func inOrder(table [20]impl.Entry) []impl.Entry {
	return slices.DeleteFunc(slices.Clone(table[:]), func(e impl.Entry) bool { return e == impl.Entry{} })
}

// joinedByHand goes by a table of all keys.
func joinedByHand(a, b []impl.Entry) ([]impl.Entry, bool) {
	if !isBook(a) || !isBook(b) {
		return nil, false
	}
	var table [20]impl.Entry
	for _, e := range b {
		table[5*e.Owner+e.Slot] = e
	}
	for _, e := range a {
		if table[5*e.Owner+e.Slot].Dot <= e.Dot {
			table[5*e.Owner+e.Slot] = e
		}
	}
	if !isBook(inOrder(table)) {
		return nil, false
	}
	return inOrder(table), true
}

func withinByHand(a, b []impl.Entry) bool {
	within := isBook(a) && isBook(b)
	for _, e := range a {
		within = within && slices.ContainsFunc(b, func(other impl.Entry) bool {
			return other.Owner == e.Owner && other.Slot == e.Slot && other.Dot >= e.Dot && other.Amount >= e.Amount
		})
	}
	return within
}

func expectJoined(t *testing.T, a, b, want []impl.Entry) {
	t.Helper()
	got, ok := impl.Joined(a, b)
	if !ok || !slices.Equal(got, want) {
		t.Fatalf("Joined(%v, %v) = %v, %v, not %v, true", few(a), few(b), few(got), ok, want)
	}
	if !impl.BookOk(got) {
		t.Fatalf("Joined(%v, %v) = %v, which is not right", few(a), few(b), got)
	}
}

func expectNotJoined(t *testing.T, a, b []impl.Entry) {
	t.Helper()
	if got, ok := impl.Joined(a, b); ok || len(got) != 0 {
		t.Fatalf("Joined(%v, %v) = %v, %v, not nothing, false", few(a), few(b), few(got), ok)
	}
}

func expectJoinedBothWays(t *testing.T, a, b, want []impl.Entry) {
	t.Helper()
	expectJoined(t, a, b, want)
	expectJoined(t, b, a, want)
}

func expectNotJoinedBothWays(t *testing.T, a, b []impl.Entry) {
	t.Helper()
	expectNotJoined(t, a, b)
	expectNotJoined(t, b, a)
}

func expectWithin(t *testing.T, a, b []impl.Entry, want bool) {
	t.Helper()
	if got := impl.Within(a, b); got != want {
		t.Fatalf("Within(%v, %v) = %v, not %v", few(a), few(b), got, want)
	}
}

// expectAsByHand asks for both ways of joining, and of being within.
func expectAsByHand(t *testing.T, a, b []impl.Entry) {
	t.Helper()
	for _, p := range [][2][]impl.Entry{{a, b}, {b, a}} {
		if want, ok := joinedByHand(p[0], p[1]); ok {
			expectJoined(t, p[0], p[1], want)
		} else {
			expectNotJoined(t, p[0], p[1])
		}
		expectWithin(t, p[0], p[1], withinByHand(p[0], p[1]))
	}
}

// expectNoneOfBoth is for two books of which one is not right.
func expectNoneOfBoth(t *testing.T, a, b []impl.Entry) {
	t.Helper()
	expectNotJoinedBothWays(t, a, b)
	expectWithin(t, a, b, false)
	expectWithin(t, b, a, false)
}

func TestJoiningBooksWrittenOut(t *testing.T) {
	for _, p := range pairsWrittenOut {
		expectJoinedBothWays(t, p.a, p.b, p.joined)
		expectJoinedBothWays(t, p.a, p.joined, p.joined)
		expectJoinedBothWays(t, p.b, p.joined, p.joined)
		expectAsByHand(t, p.a, p.b)
	}
}

func TestWithinBooksWrittenOut(t *testing.T) {
	wants := []struct{ ab, ba, a, b bool }{
		{false, false, true, true}, {false, false, false, true}, {false, false, true, false},
		{true, false, true, true}, {false, false, true, true}, {false, false, true, true},
	}
	for i, p := range pairsWrittenOut {
		expectWithin(t, p.a, p.b, wants[i].ab)
		expectWithin(t, p.b, p.a, wants[i].ba)
		expectWithin(t, p.a, p.joined, wants[i].a)
		expectWithin(t, p.b, p.joined, wants[i].b)
	}
}

func TestJoiningEmptyBooks(t *testing.T) {
	// What is cut off is still there behind the list.
	behind := []impl.Entry{entry(1, 1, 50, 9), entry(1, 2, 20, 10)}
	empties := [][]impl.Entry{nil, {}, behind[:0]}
	for _, empty := range empties {
		for _, other := range empties {
			expectJoined(t, empty, other, nil)
			expectWithin(t, empty, other, true)
		}
		for _, book := range someBooks() {
			expectJoinedBothWays(t, empty, book, book)
			expectWithin(t, empty, book, true)
			expectWithin(t, book, empty, len(book) == 0)
		}
		for _, book := range notBooks {
			expectNoneOfBoth(t, empty, book)
		}
	}
	expectJoinedBothWays(t, behind[:1], behind[1:], behind)
}

func TestJoiningBooksOfWhichOneStandsAhead(t *testing.T) {
	for many := range 21 {
		ahead, behind := fullBook()[:many], fullBook()[many:]
		expectJoinedBothWays(t, ahead, behind, fullBook())
		expectWithin(t, ahead, behind, many == 0)
		expectWithin(t, behind, ahead, many == 20)
		if many > 0 {
			// There is a gap between them.
			expectJoinedBothWays(t, ahead[:many-1], behind, slices.Delete(fullBook(), many-1, many))
		}
	}
}

func TestJoiningBooksOfWhichOneStandsAmongTheOther(t *testing.T) {
	for from := range 21 {
		for to := from; to <= 20; to++ {
			around := slices.Delete(fullBook(), from, to)
			expectJoinedBothWays(t, around, fullBook()[from:to], fullBook())
			expectWithin(t, around, fullBook()[from:to], len(around) == 0)
			expectWithin(t, fullBook()[from:to], around, from == to)
		}
	}
	odd, even := []impl.Entry{}, []impl.Entry{}
	for i, e := range fullBook() {
		if i%2 == 1 {
			odd = append(odd, e)
		} else {
			even = append(even, e)
		}
	}
	expectJoinedBothWays(t, odd, even, fullBook())
	expectJoinedBothWays(t, odd[3:6], even[5:], slices.Concat([]impl.Entry{odd[3], odd[4]}, even[5:6], odd[5:6], even[6:]))
}

func TestJoiningAllPartsOfAFullBook(t *testing.T) {
	parts := rightParts()
	for i, part := range parts {
		rest := slices.DeleteFunc(fullBook(), func(e impl.Entry) bool { return slices.Contains(part, e) })
		expectJoinedBothWays(t, part, rest, fullBook())
		expectJoinedBothWays(t, part, fullBook(), fullBook())
		expectWithin(t, part, fullBook(), true)
		expectWithin(t, fullBook(), part, len(part) == 20)
		// Two parts that share some keys, and each have others.
		expectAsByHand(t, part, parts[(i*31+7)%len(parts)])
	}
}

// newerBook has each key of the full book with a greater Dot; some of its
// Amounts are greater and some are less.
func newerBook() []impl.Entry {
	book := fullBook()
	for i := range book {
		book[i].Dot += 100
		book[i].Amount += int64(i%3)*7 - 7
	}
	return book
}

func TestJoiningBooksThatShareEachKey(t *testing.T) {
	expectJoinedBothWays(t, fullBook(), newerBook(), newerBook())
	for which := 0; which < 1<<20; which += 211 {
		left, right := newerBook(), fullBook()
		for i := range left {
			if which>>i&1 == 1 {
				left[i], right[i] = right[i], left[i]
			}
		}
		expectJoinedBothWays(t, left, right, newerBook())
	}
}

func TestJoiningAtOneKeyOfAFullBook(t *testing.T) {
	for i, was := range fullBook() {
		for _, amount := range []int64{1, was.Amount - 1, was.Amount, was.Amount + 1, impl.MaxAmount} {
			for _, dot := range []int64{was.Dot + 50, impl.MaxDot} {
				newer := fullBook()
				newer[i].Amount, newer[i].Dot = amount, dot
				expectJoinedBothWays(t, fullBook(), newer, newer)
				expectJoinedBothWays(t, fullBook(), newer[i:i+1], newer)
				expectJoinedBothWays(t, fullBook()[i:i+1], newer, newer)
			}
		}
	}
}

func TestJoiningAtOneKeyAlone(t *testing.T) {
	dots := [][2]int64{{1, 2}, {2, 3}, {255, 256}, {256, 511}, {1, impl.MaxDot}, {impl.MaxDot - 1, impl.MaxDot}}
	amounts := []int64{1, 2, 255, 256, impl.MaxAmount - 1, impl.MaxAmount}
	for _, c := range ownedSlots {
		for _, dot := range dots {
			for _, n := range amounts {
				for _, m := range amounts {
					older := []impl.Entry{entry(c.owner, c.slot, n, dot[0])}
					newer := []impl.Entry{entry(c.owner, c.slot, m, dot[1])}
					expectJoinedBothWays(t, older, newer, newer)
					expectWithin(t, older, newer, n <= m)
					expectWithin(t, newer, older, false)
				}
			}
		}
	}
}

func TestJoiningWhereDotsAreAlike(t *testing.T) {
	for i, was := range fullBook() {
		for _, amount := range []int64{1, was.Amount - 1, was.Amount, was.Amount + 1, impl.MaxAmount} {
			other := fullBook()
			other[i].Amount = amount
			expectJoined(t, fullBook(), other, fullBook())
			expectJoined(t, other, fullBook(), other)
			expectJoined(t, other[i:i+1], fullBook(), other)
			expectJoined(t, fullBook(), other[i:i+1], fullBook())
			expectWithin(t, fullBook(), other, was.Amount <= amount)
			expectWithin(t, other, fullBook(), amount <= was.Amount)
		}
	}
	// At all keys at once: it is a's wherever they are alike, and just there.
	for which := 0; which < 1<<20; which += 911 {
		left, right := fullBook(), newerBook()
		for i := range left {
			if which>>i&1 == 1 {
				left[i].Dot = right[i].Dot
			}
		}
		expectAsByHand(t, left, right)
	}
}

func TestJoiningWhereAnOwnerHasOneDotTwice(t *testing.T) {
	for i, e := range fullBook() {
		for j, other := range fullBook() {
			if i == j {
				continue
			}
			e.Dot = other.Dot
			less := slices.Delete(fullBook(), i, i+1)
			if e.Owner == other.Owner {
				expectNotJoinedBothWays(t, []impl.Entry{e}, []impl.Entry{other})
				expectNotJoinedBothWays(t, []impl.Entry{e}, less)
			} else {
				expectJoinedBothWays(t, []impl.Entry{e}, less, put(less, e))
			}
			expectWithin(t, []impl.Entry{e}, less, false)
		}
	}
}

func TestJoiningWhereTheNewerOneHasADotOfAnother(t *testing.T) {
	book := []impl.Entry{entry(1, 0, 5, 3), entry(1, 2, 6, 9), entry(1, 4, 7, 6)}
	// The Dot of the entry that stays: not so where it has the place of it.
	expectNotJoinedBothWays(t, book, []impl.Entry{entry(1, 0, 8, 9)})
	expectNotJoinedBothWays(t, book, []impl.Entry{entry(1, 0, 8, 6)})
	expectNotJoinedBothWays(t, book, []impl.Entry{entry(1, 4, 8, 9)})
	expectJoinedBothWays(t, book, []impl.Entry{entry(2, 0, 8, 9)}, append(slices.Clone(book), entry(2, 0, 8, 9)))
	// What is older is not joined, be its Dot that of another one.
	expectJoinedBothWays(t, book, []impl.Entry{entry(1, 2, 8, 6)}, book)
	expectJoinedBothWays(t, book, []impl.Entry{entry(1, 2, 8, 3), entry(1, 4, 8, 2)}, book)
	// What had that Dot is newer, too.
	moved := []impl.Entry{entry(1, 0, 8, 9), entry(1, 2, 8, 10)}
	expectJoinedBothWays(t, book, moved, append(moved, entry(1, 4, 7, 6)))
	// Dots go around.
	around := []impl.Entry{entry(1, 0, 8, 6), entry(1, 2, 8, 3), entry(1, 4, 8, 9)}
	expectNotJoinedBothWays(t, book, around)
}

func TestJoiningWhereOneIsNotRight(t *testing.T) {
	for _, bad := range notBooks {
		for _, book := range someBooks() {
			expectNoneOfBoth(t, bad, book)
		}
		for _, other := range notBooks {
			expectNoneOfBoth(t, bad, other)
		}
	}
	for i, was := range fullBook() {
		for _, e := range bentEntries(was) {
			bad := fullBook()
			bad[i] = e
			expectNoneOfBoth(t, bad, newerBook())
			expectNoneOfBoth(t, bad, ordinaryBooks[0])
			expectNoneOfBoth(t, bad[i:i+1], fullBook())
			expectNoneOfBoth(t, bad, bad)
		}
	}
}

func TestJoiningMendsNoBook(t *testing.T) {
	for i := range 19 {
		// All would be right if just the newer ones were put together.
		swapped, twice, still := fullBook(), fullBook(), fullBook()
		swapped[i], swapped[i+1] = swapped[i+1], swapped[i]
		twice = slices.Insert(twice, i, twice[i])
		expectNoneOfBoth(t, swapped, newerBook())
		expectNoneOfBoth(t, twice, newerBook())
		if still[i].Owner == still[i+1].Owner {
			still[i].Dot = still[i+1].Dot
			expectNoneOfBoth(t, still, newerBook())
		}
	}
	backward := newerBook()
	slices.Reverse(backward)
	expectNoneOfBoth(t, backward, fullBook())
	expectNoneOfBoth(t, append(fullBook(), entry(3, 4, 5, 900)), newerBook())
	expectNoneOfBoth(t, append(fullBook(), impl.Entry{}), newerBook())
}

func TestJoiningFarNumbersAndLongLists(t *testing.T) {
	long := slices.Repeat([]impl.Entry{entry(0, 0, impl.MaxAmount, 1)}, 200000)
	expectNoneOfBoth(t, long, long)
	expectNoneOfBoth(t, long, fullBook())
	expectNoneOfBoth(t, long, nil)
	for _, x := range farNumbers {
		bad := []impl.Entry{entry(x, x, x, x)}
		expectNoneOfBoth(t, bad, bad)
		expectNoneOfBoth(t, bad, fullBook())
		// Newer, and more, if it were right.
		expectNoneOfBoth(t, []impl.Entry{entry(0, 0, 5, x)}, []impl.Entry{entry(0, 0, 5, 1)})
		expectNoneOfBoth(t, []impl.Entry{entry(0, 0, x, 2)}, []impl.Entry{entry(0, 0, 5, 1)})
	}
}

func TestWithinByDotAndAmountAtEachEntry(t *testing.T) {
	for _, base := range someBooks() {
		a := slices.Clone(base)
		for i := range a {
			// So far from the limits, and from each other, that one more and one
			// less may be.
			a[i].Amount, a[i].Dot = 1000+int64(i), 3*int64(20-i)
		}
		for i := range a {
			for n := int64(-1); n <= 1; n++ {
				for dot := int64(-1); dot <= 1; dot++ {
					b := slices.Clone(a)
					b[i].Amount += n
					b[i].Dot += dot
					expectWithin(t, a, b, n >= 0 && dot >= 0)
					expectWithin(t, b, a, n <= 0 && dot <= 0)
				}
			}
		}
	}
}

func TestWithinIsNotMadeUpForElsewhere(t *testing.T) {
	for i := range 20 {
		b := fullBook()
		for j := range b {
			b[j].Amount, b[j].Dot = impl.MaxAmount, impl.MaxDot-int64(j)
		}
		expectWithin(t, fullBook(), b, true)
		less := slices.Clone(b)
		less[i].Amount = fullBook()[i].Amount - 1
		expectWithin(t, fullBook(), less, false)
		older := slices.Clone(b)
		older[i].Dot = fullBook()[i].Dot - 1
		expectWithin(t, fullBook(), older, false)
		expectWithin(t, fullBook(), slices.Delete(slices.Clone(b), i, i+1), false)
		// Many more in Dot do not make up for one less in Amount of the same one.
		expectWithin(t, fullBook()[i:i+1], less[i:i+1], false)
		expectWithin(t, fullBook()[i:i+1], older[i:i+1], false)
	}
}

func TestWithinWhereABookLacksAKey(t *testing.T) {
	for _, book := range someBooks() {
		for i := range book {
			lacks := slices.Delete(slices.Clone(book), i, i+1)
			expectWithin(t, book, lacks, false)
			expectWithin(t, lacks, book, true)
			// Instead it has another key, which is newer and more.
			for _, c := range ownedSlots {
				if !slices.ContainsFunc(book, func(e impl.Entry) bool { return e.Owner == c.owner && e.Slot == c.slot }) {
					other := put(lacks, entry(c.owner, c.slot, impl.MaxAmount, impl.MaxDot))
					expectAsByHand(t, book, other)
				}
			}
		}
	}
}

func TestWithinAtTheLimits(t *testing.T) {
	for _, c := range ownedSlots {
		least, most := []impl.Entry{entry(c.owner, c.slot, 1, 1)}, []impl.Entry{entry(c.owner, c.slot, impl.MaxAmount, impl.MaxDot)}
		expectWithin(t, least, most, true)
		expectWithin(t, most, most, true)
		expectWithin(t, least, least, true)
		expectWithin(t, most, least, false)
		for _, d := range ownedSlots {
			expectWithin(t, least, []impl.Entry{entry(d.owner, d.slot, impl.MaxAmount, impl.MaxDot)}, c == d)
		}
	}
}

func TestABookJoinedWithItselfIsTheBook(t *testing.T) {
	for _, book := range manyBooks() {
		expectJoined(t, book, book, book)
		expectJoined(t, book, slices.Clone(book), book)
		expectWithin(t, book, book, true)
		expectWithin(t, slices.Clone(book), book, true)
	}
}

// drawnLog has what each node did, entry by entry as it was written: the Dot of
// what it did first is 1, and the Amount of a key grows.
func drawnLog(seed int64) []impl.Entry {
	var amounts [20]int64
	log, x := []impl.Entry{}, manyBytes(4*24*2, seed)
	for i := range int64(4 * 24) {
		owner, slot := i/24, x[2*i]%5
		amounts[5*owner+slot] += x[2*i+1] + 1
		log = append(log, entry(owner, slot, amounts[5*owner+slot], i%24+1))
	}
	return log
}

// toldOf is the book of one who knows each node's log up to some Dot, but for
// some keys.
func toldOf(log []impl.Entry, seed int64) []impl.Entry {
	var table [20]impl.Entry
	x := manyBytes(24, seed)
	for _, e := range log {
		key := 5*e.Owner + e.Slot
		if e.Dot <= x[e.Owner]%25 && x[4+key]%5 > 0 {
			table[key] = e
		}
	}
	return inOrder(table)
}

func TestJoiningBothWaysAndInAllGroupsOfOneLog(t *testing.T) {
	for seed := range int64(3000) {
		log := drawnLog(seed)
		a, b, c := toldOf(log, seed+1), toldOf(log, 3*seed+2), toldOf(log, 7*seed+3)
		ab, _ := joinedByHand(a, b)
		bc, _ := joinedByHand(b, c)
		ac, _ := joinedByHand(a, c)
		all, _ := joinedByHand(ab, c)
		expectJoinedBothWays(t, a, b, ab)
		expectJoinedBothWays(t, b, c, bc)
		expectJoinedBothWays(t, a, c, ac)
		expectJoinedBothWays(t, ab, c, all)
		expectJoinedBothWays(t, a, bc, all)
		expectJoinedBothWays(t, ac, b, all)
		expectJoinedBothWays(t, ab, bc, all)
	}
}

func TestWhoIsJoinedIsWithin(t *testing.T) {
	for seed := range int64(3000) {
		log := drawnLog(seed)
		a, b, other := toldOf(log, seed+1), toldOf(log, 3*seed+2), toldOf(log, 7*seed+3)
		joined, ok := impl.Joined(a, b)
		if !ok || !impl.Within(a, joined) || !impl.Within(b, joined) {
			t.Fatalf("%v or %v is not within %v, %v", a, b, joined, ok)
		}
		// What has both within has both joined within.
		expectWithin(t, joined, other, impl.Within(a, other) && impl.Within(b, other))
		expectWithin(t, joined, a, impl.Within(b, a))
		expectAsByHand(t, a, b)
	}
}

// looseBook is right; of one key and Dot it always has one Amount, which does
// not grow with the Dot; and two keys of one Owner may have one Dot in two of
// such books.
func looseBook(seed int64) []impl.Entry {
	book, x := []impl.Entry{}, manyBytes(40, seed)
	for key := range int64(20) {
		dot := x[2*key]%12 + 1
		taken := slices.ContainsFunc(book, func(e impl.Entry) bool { return e.Owner == key/5 && e.Dot == dot })
		if x[2*key+1]%3 == 0 && !taken {
			book = append(book, entry(key/5, key%5, (key*7919+dot*104729)%impl.MaxAmount+1, dot))
		}
	}
	return book
}

func TestJoiningLooseBooksBothWaysAndInAllGroups(t *testing.T) {
	joins, clashes := 0, 0
	for seed := range int64(3000) {
		a, b, c := looseBook(seed), looseBook(seed+5000), looseBook(seed+9000)
		expectAsByHand(t, a, b)
		ab, abOk := impl.Joined(a, b)
		ba, baOk := impl.Joined(b, a)
		bc, bcOk := impl.Joined(b, c)
		if abOk != baOk || !slices.Equal(ab, ba) {
			t.Fatalf("%v and %v: %v, %v, but the other way %v, %v", a, b, ab, abOk, ba, baOk)
		}
		if !abOk || !bcOk {
			clashes++
			continue
		}
		left, leftOk := impl.Joined(ab, c)
		right, rightOk := impl.Joined(a, bc)
		if leftOk != rightOk || !slices.Equal(left, right) {
			t.Fatalf("%v, %v and %v: %v, %v, but in the other group %v, %v", a, b, c, left, leftOk, right, rightOk)
		}
		joins++
	}
	if joins < 300 || clashes < 300 {
		t.Error("joined, and not joined:", joins, clashes)
	}
}

// TestOneDotTwiceIsNotPassedOver holds the one case in which the groups differ:
// what can't be joined is nothing and false, be there a third one that is newer.
func TestOneDotTwiceIsNotPassedOver(t *testing.T) {
	a, b, c := []impl.Entry{entry(0, 0, 5, 7)}, []impl.Entry{entry(0, 1, 5, 7)}, []impl.Entry{entry(0, 1, 6, 8)}
	expectNotJoinedBothWays(t, a, b)
	expectJoinedBothWays(t, b, c, c)
	expectJoinedBothWays(t, a, c, []impl.Entry{a[0], c[0]})
}

func TestJoiningSaysTheSameAgain(t *testing.T) {
	list := append(someBooks(), notBooks...)
	for i, a := range list {
		b := list[(i*17+3)%len(list)]
		first, firstOk := impl.Joined(a, b)
		firstWithin := impl.Within(a, b)
		impl.Joined(newerBook(), fullBook())
		impl.Within(notBooks[0], fullBook())
		again, againOk := impl.Joined(a, b)
		if againOk != firstOk || !slices.Equal(again, first) || impl.Within(a, b) != firstWithin {
			t.Fatalf("not the same again: %v, %v", a, b)
		}
	}
}

// joinable has pairs of books of which one is empty, all of the answer, a part
// of it or nothing of it; and some that are not joined.
func joinable() [][2][]impl.Entry {
	list := [][2][]impl.Entry{{nil, nil}, {fullBook(), fullBook()}, {fullBook(), newerBook()}, {newerBook(), fullBook()}}
	for _, p := range pairsWrittenOut {
		list = append(list, [2][]impl.Entry{p.a, p.b}, [2][]impl.Entry{p.b, p.a}, [2][]impl.Entry{p.a, p.joined})
	}
	for _, book := range someBooks() {
		list = append(list, [2][]impl.Entry{book, nil}, [2][]impl.Entry{nil, book}, [2][]impl.Entry{book, fullBook()}, [2][]impl.Entry{fullBook(), book}, [2][]impl.Entry{book, notBooks[7]})
	}
	return append(list, [2][]impl.Entry{notBooks[0], fullBook()}, [2][]impl.Entry{{entry(0, 0, 5, 1)}, {entry(0, 1, 5, 1)}})
}

func TestBooksThatAreJoinedStayAsTheyAre(t *testing.T) {
	for _, p := range joinable() {
		whole, a := withRoom(p[0])
		otherWhole, b := withRoom(p[1])
		before, otherBefore := slices.Clone(whole), slices.Clone(otherWhole)
		impl.Joined(a, b)
		impl.Joined(b, a)
		impl.Joined(a, a)
		impl.Within(a, b)
		impl.Within(b, a)
		impl.Within(a, a)
		if !slices.Equal(whole, before) || !slices.Equal(otherWhole, otherBefore) {
			t.Fatalf("written into: %v or %v", before, otherBefore)
		}
	}
}

func TestJoinedIsNewMemory(t *testing.T) {
	for _, p := range joinable() {
		whole, a := withRoom(p[0])
		otherWhole, b := withRoom(p[1])
		before, otherBefore := slices.Clone(whole), slices.Clone(otherWhole)
		first, _ := impl.Joined(a, b)
		want := slices.Clone(first)
		second, _ := impl.Joined(a, b)
		overwrite(first)
		if !slices.Equal(whole, before) || !slices.Equal(otherWhole, otherBefore) || !slices.Equal(second, want) {
			t.Fatalf("an answer of Joined(%v, %v) shares memory", p[0], p[1])
		}
		overwrite(whole)
		overwrite(otherWhole)
		if !slices.Equal(second, want) {
			t.Fatalf("an answer of Joined(%v, %v) shares memory with a book", p[0], p[1])
		}
	}
}

func TestJoiningBooksOfOneMemory(t *testing.T) {
	whole := fullBook()
	for from := range 20 {
		for to := from; to <= 20; to++ {
			// The rest of the one is the room behind the other, and both overlap.
			first, second := whole[:to], whole[from:]
			joined, ok := impl.Joined(first, second)
			if !ok || !slices.Equal(joined, fullBook()) || !impl.Within(first, joined) || !impl.Within(second, joined) {
				t.Fatal(from, to, joined, ok)
			}
			overwrite(joined)
			if !slices.Equal(whole, fullBook()) {
				t.Fatalf("written into: %v", whole)
			}
		}
	}
	expectJoined(t, whole[:5], whole[:5], fullBook()[:5])
}
