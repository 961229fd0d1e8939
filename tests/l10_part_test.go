package tests

import (
	"slices"
	"testing"

	"loop.example/g00824/impl"
)

// partByHand goes by each Owner's list of Dots that are not known, apart from
// how the program does it.
func partByHand(book []impl.Entry, known []int64) []impl.Entry {
	part := slices.Clone(book)
	for owner := range int64(impl.MaxNodes) {
		part = slices.DeleteFunc(part, func(e impl.Entry) bool { return e.Owner == owner && e.Dot-known[owner] < 1 })
	}
	return part
}

// restByHand is what the book has beside the part.
func restByHand(book []impl.Entry, part []impl.Entry) []impl.Entry {
	return slices.DeleteFunc(slices.Clone(book), func(e impl.Entry) bool { return slices.Contains(part, e) })
}

func expectPart(t *testing.T, book []impl.Entry, known []int64, want []impl.Entry) {
	t.Helper()
	got := impl.PartFor(book, known)
	if !slices.Equal(got, want) {
		t.Fatalf("PartFor(%v, %v) = %v, not %v", few(book), known, few(got), want)
	}
	if !impl.BookOk(got) {
		t.Fatalf("PartFor(%v, %v) = %v, which is not right", few(book), known, got)
	}
}

// expectPartByHand asks, too, that what is known already and the part, joined,
// are the book.
func expectPartByHand(t *testing.T, book []impl.Entry, known []int64) {
	t.Helper()
	part := partByHand(book, known)
	expectPart(t, book, known, part)
	expectJoinedBothWays(t, restByHand(book, part), impl.PartFor(book, known), book)
}

// expectNoPart is for a book and a vector of which one is not right.
func expectNoPart(t *testing.T, book []impl.Entry, known []int64) {
	t.Helper()
	if got := impl.PartFor(book, known); len(got) != 0 {
		t.Fatalf("PartFor(%v, %v), of %d and %d, = %v, not nothing", few(book), brief(known), len(book), len(known), few(got))
	}
}

// nothingKnown and mostKnown are new lists at each call, for those that change
// them.
func nothingKnown() []int64 {
	return []int64{0, 0, 0, 0}
}

func mostKnown() []int64 {
	return []int64{impl.MaxDot, impl.MaxDot, impl.MaxDot, impl.MaxDot}
}

func changedAt(v []int64, node int, dot int64) []int64 {
	changed := slices.Clone(v)
	changed[node] = dot
	return changed
}

func TestPartsWrittenOut(t *testing.T) {
	b := ordinaryBooks[0]
	for _, c := range []struct {
		known []int64
		want  []impl.Entry
	}{
		{[]int64{1, 1, 0, 0}, []impl.Entry{b[1], b[3]}},
		{[]int64{0, 0, 0, 0}, b},
		{[]int64{0, 2, 0, 0}, b[:2]},
		{[]int64{2, 0, 0, 0}, b[2:]},
		{[]int64{1, 2, 0, 0}, b[1:2]},
		{[]int64{2, 2, 0, 0}, nil},
		{[]int64{2, 1, impl.MaxDot, impl.MaxDot}, b[3:]},
		// What is known of others says nothing of these.
		{[]int64{0, 0, impl.MaxDot, impl.MaxDot}, b},
	} {
		expectPart(t, b, c.known, c.want)
	}
	// Dots that fall by key.
	b = ordinaryBooks[1]
	expectPart(t, b, []int64{0, 0, 2, 0}, b[:3])
	expectPart(t, b, []int64{0, 0, 7, 0}, b[:2])
	expectPart(t, b, []int64{0, 0, 80, 0}, b[:1])
	expectPart(t, b, []int64{0, 0, 90, 0}, nil)
	expectPart(t, b, []int64{9, 9, 1, 9}, b)
	// Dots at the limits.
	b = ordinaryBooks[2]
	expectPart(t, b, []int64{impl.MaxDot - 1, 0, 0, impl.MaxDot - 1}, []impl.Entry{b[0], b[2]})
	expectPart(t, b, []int64{impl.MaxDot, 0, 0, 0}, b[2:])
	expectPart(t, b, []int64{0, 0, 0, impl.MaxDot}, b[:2])
	expectPart(t, b, mostKnown(), nil)
}

func TestPartOfAnEmptyBook(t *testing.T) {
	// What is cut off is still there behind the list.
	behind := []impl.Entry{entry(1, 1, 5, 9), entry(1, 2, 5, 10)}
	for _, book := range [][]impl.Entry{nil, {}, behind[:0], []impl.Entry{{}}[:0]} {
		for _, v := range someVectors() {
			expectPart(t, book, v, nil)
		}
		for _, v := range notVectors() {
			expectNoPart(t, book, v)
		}
	}
	expectPart(t, behind[:1], nothingKnown(), behind[:1])
	expectPart(t, behind[1:], nothingKnown(), behind[1:])
}

func TestPartWhereNothingIsKnownIsTheBook(t *testing.T) {
	for _, book := range manyBooks() {
		expectPart(t, book, nothingKnown(), book)
	}
}

func TestPartWhereAllIsKnownIsNothing(t *testing.T) {
	for _, book := range manyBooks() {
		known := dotsByHand(book)
		expectPart(t, book, known, nil)
		expectPart(t, book, impl.VecOf(book), nil)
		expectPart(t, book, mostKnown(), nil)
		// More than the book has, of each one and of all.
		all := slices.Clone(known)
		for node, dot := range known {
			expectPart(t, book, changedAt(known, node, min(dot+1, impl.MaxDot)), nil)
			expectPart(t, book, changedAt(known, node, impl.MaxDot), nil)
			all[node] = min(dot+700, impl.MaxDot)
		}
		expectPart(t, book, all, nil)
	}
}

func TestPartWhereOneLessIsKnown(t *testing.T) {
	for _, book := range manyBooks() {
		known := dotsByHand(book)
		for node, dot := range known {
			if dot == 0 {
				continue
			}
			last := slices.DeleteFunc(slices.Clone(book), func(e impl.Entry) bool { return e.Owner != int64(node) || e.Dot != dot })
			if len(last) != 1 {
				t.Fatal(book, node, dot)
			}
			expectPart(t, book, changedAt(known, node, dot-1), last)
			// One less of this one, and one more of all others.
			more := []int64{}
			for _, other := range known {
				more = append(more, min(other+1, impl.MaxDot))
			}
			expectPart(t, book, changedAt(more, node, dot-1), last)
			expectPart(t, book, changedAt(mostKnown(), node, dot-1), last)
		}
	}
}

func TestPartOfEachOwnerInTurn(t *testing.T) {
	for _, book := range append(manyBooks(), richBook()) {
		known := dotsByHand(book)
		for node := range impl.MaxNodes {
			own := slices.DeleteFunc(slices.Clone(book), func(e impl.Entry) bool { return e.Owner != int64(node) })
			others := restByHand(book, own)
			// Of all of them but one, all is known; or of just that one.
			expectPart(t, book, changedAt(known, node, 0), own)
			expectPart(t, book, changedAt(mostKnown(), node, 0), own)
			expectPart(t, book, changedAt(nothingKnown(), node, known[node]), others)
			expectPart(t, book, changedAt(nothingKnown(), node, impl.MaxDot), others)
		}
	}
}

func TestPartOfABookOfOneEntry(t *testing.T) {
	for _, c := range ownedSlots {
		for _, dot := range []int64{1, 2, 255, 256, impl.MaxDot - 1, impl.MaxDot} {
			book := []impl.Entry{entry(c.owner, c.slot, impl.MaxAmount, dot)}
			owner := int(c.owner)
			for _, known := range [][]int64{nothingKnown(), mostKnown(), {3, 200, 255, 70000}} {
				expectPart(t, book, changedAt(known, owner, 0), book)
				expectPart(t, book, changedAt(known, owner, dot-1), book)
				expectPart(t, book, changedAt(known, owner, dot), nil)
				expectPart(t, book, changedAt(known, owner, min(dot+1, impl.MaxDot)), nil)
			}
			// It goes by the Dot, and not by the Amount.
			small := []impl.Entry{entry(c.owner, c.slot, 1, dot)}
			expectPart(t, small, changedAt(mostKnown(), owner, dot-1), small)
			expectPart(t, small, changedAt(nothingKnown(), owner, dot), nil)
		}
	}
}

func TestPartOfTheOwnerAndNotOfTheSlot(t *testing.T) {
	for owner := range impl.MaxNodes {
		for slot := range impl.MaxNodes {
			if slot == owner {
				continue
			}
			book := []impl.Entry{entry(int64(owner), int64(slot), 20, 5)}
			expectPart(t, book, changedAt(changedAt(nothingKnown(), owner, 5), slot, 4), nil)
			expectPart(t, book, changedAt(changedAt(nothingKnown(), owner, 4), slot, 5), book)
		}
	}
}

// orderedBook has an entry of each key; of each Owner the slots have their Dots
// in the order that is given, the first one the greatest.
func orderedBook(slots []int64) []impl.Entry {
	book := []impl.Entry{}
	for _, c := range ownedSlots {
		book = append(book, entry(c.owner, c.slot, 500-c.key, 10*int64(5-slices.Index(slots, c.slot))))
	}
	return book
}

func TestEachSingleEntryOfAllKeysIsPicked(t *testing.T) {
	for i, c := range ownedSlots {
		slots := []int64{c.slot, (c.slot + 1) % 5, (c.slot + 2) % 5, (c.slot + 3) % 5, (c.slot + 4) % 5}
		book := orderedBook(slots)
		for _, known := range [][]int64{mostKnown(), dotsByHand(book)} {
			for _, dot := range []int64{40, 41, 49} {
				expectPart(t, book, changedAt(known, int(c.owner), dot), book[i:i+1])
			}
			expectPart(t, book, changedAt(known, int(c.owner), 50), nil)
			expectPart(t, book, known, nil)
		}
		// All but that one are picked where it is the oldest of its Owner.
		slices.Reverse(slots)
		book = orderedBook(slots)
		rest := slices.Delete(slices.Clone(book), i, i+1)
		expectPart(t, book, changedAt(nothingKnown(), int(c.owner), 10), rest)
		expectPart(t, book, changedAt(nothingKnown(), int(c.owner), 9), book)
		expectPart(t, book, nothingKnown(), book)
	}
}

// TestPartsAtTheFrontInTheMiddleAndAtTheEnd picks, of each Owner, each choice of
// its slots, so that what is picked stands ahead of what is not, and behind it.
func TestPartsAtTheFrontInTheMiddleAndAtTheEnd(t *testing.T) {
	for which := range 32 {
		slots, many := []int64{}, int64(0)
		for slot := range int64(5) {
			if which>>slot&1 == 1 {
				slots, many = slices.Insert(slots, 0, slot), many+1
			} else {
				slots = append(slots, slot)
			}
		}
		book, upTo := orderedBook(slots), 50-10*many
		isPicked := func(e impl.Entry) bool { return which>>e.Slot&1 == 1 }
		for node := range impl.MaxNodes {
			want := slices.DeleteFunc(slices.Clone(book), func(e impl.Entry) bool { return e.Owner != int64(node) || !isPicked(e) })
			expectPart(t, book, changedAt(mostKnown(), node, upTo), want)
		}
		want := slices.DeleteFunc(slices.Clone(book), func(e impl.Entry) bool { return !isPicked(e) })
		expectPart(t, book, []int64{upTo, upTo, upTo, upTo}, want)
		expectPartByHand(t, book, []int64{upTo, upTo + 9, upTo, upTo + 9})
	}
}

func TestPartsOfSomeBooksAndVectors(t *testing.T) {
	for _, book := range append(someBooks(), richBook(), newerBook()) {
		for _, v := range someVectors() {
			expectPartByHand(t, book, v)
		}
		for node := range impl.MaxNodes {
			for dot := range int64(45) {
				expectPartByHand(t, book, changedAt(nothingKnown(), node, dot))
				expectPartByHand(t, book, changedAt(mostKnown(), node, dot))
				expectPartByHand(t, book, changedAt([]int64{38, 33, 28, 23}, node, dot))
			}
		}
	}
}

func TestPartsOfManyBooks(t *testing.T) {
	none, some, all := 0, 0, 0
	for seed, book := range manyBooks() {
		x := manyBytes(8, int64(seed))
		for _, known := range [][]int64{{x[0] % 8, x[1] % 13, x[2] % 18, x[3] % 23}, {x[4] % 45, x[5] % 45, x[6] % 45, x[7] % 45}} {
			expectPartByHand(t, book, known)
			switch len(impl.PartFor(book, known)) {
			case 0:
				none++
			case len(book):
				all++
			default:
				some++
			}
		}
	}
	if none < 100 || some < 1000 || all < 100 {
		t.Error("nothing, some, all:", none, some, all)
	}
}

func TestPartOfAPart(t *testing.T) {
	vectors := someVectors()
	for i, book := range manyBooks() {
		a, b := vectors[i*7%len(vectors)], vectors[(i*13+5)%len(vectors)]
		part := impl.PartFor(book, a)
		// What is new to both is new to one who knows what both know.
		expectPart(t, part, b, partByHand(book, laterByHand(a, b)))
		expectPart(t, part, a, part)
		if covers := coversByHand(a, b); covers && !impl.Within(part, impl.PartFor(book, b)) {
			t.Fatalf("%v knows more than %v, and is told more of %v", a, b, book)
		}
	}
}

func TestPartWhereTheVectorIsNotRight(t *testing.T) {
	books := [][]impl.Entry{nil, ordinaryBooks[0], ordinaryBooks[2], fullBook(), richBook()}
	for _, book := range books {
		for _, bad := range notVectors() {
			expectNoPart(t, book, bad)
		}
		// All would be picked, or known, if just the numbers were held against
		// the Dots.
		for node := range impl.MaxNodes {
			for _, x := range append([]int64{-1, impl.MaxDot + 1}, farNumbers...) {
				expectNoPart(t, book, changedAt(nothingKnown(), node, x))
				expectNoPart(t, book, changedAt(mostKnown(), node, x))
				expectNoPart(t, book, changedAt(dotsByHand(book), node, x))
			}
		}
		for _, known := range [][]int64{nothingKnown(), mostKnown(), dotsByHand(book)} {
			expectNoPart(t, book, append(known, 0))
			expectNoPart(t, book, known[:3])
			expectNoPart(t, book, known[:0])
			expectPartByHand(t, book, known)
		}
	}
}

// TestPartWhereTheNodeOfABadNumberHasNoEntry has vectors that are not right at
// a place that no entry of the book asks for.
func TestPartWhereTheNodeOfABadNumberHasNoEntry(t *testing.T) {
	for node := range impl.MaxNodes {
		book := []impl.Entry{entry(int64(node), 4, 5, 6)}
		for other := range impl.MaxNodes {
			for _, x := range append([]int64{-1, impl.MaxDot + 1}, farNumbers...) {
				expectNoPart(t, book, changedAt(nothingKnown(), other, x))
			}
		}
		expectNoPart(t, book, nothingKnown()[:node])
		expectNoPart(t, book[:0], nil)
	}
	expectNoPart(t, []impl.Entry{entry(0, 0, 5, 6)}, []int64{0})
}

func TestPartWhereTheBookIsNotRight(t *testing.T) {
	vectors := [][]int64{nothingKnown(), mostKnown(), {1, 2, 3, 4}}
	for _, v := range vectors {
		for _, bad := range notBooks {
			expectNoPart(t, bad, v)
		}
		for _, book := range [][]impl.Entry{fullBook(), {entry(0, 0, 5, 9)}, {entry(0, 0, 5, 9), entry(2, 4, 5, 9)}} {
			for i, was := range book {
				for _, e := range bentEntries(was) {
					bad := slices.Clone(book)
					bad[i] = e
					expectNoPart(t, bad, v)
				}
			}
		}
	}
}

func TestPartMendsNoBook(t *testing.T) {
	for i, e := range fullBook() {
		// What is picked would be right, or nothing, if just it were asked.
		twice := slices.Insert(fullBook(), i, e)
		bent := fullBook()
		bent[i].Amount = 0
		for _, known := range [][]int64{mostKnown(), nothingKnown(), dotsByHand(fullBook()), changedAt(nothingKnown(), int(e.Owner), impl.MaxDot), changedAt(mostKnown(), int(e.Owner), 0)} {
			expectNoPart(t, twice, known)
			expectNoPart(t, bent, known)
			for j, other := range fullBook() {
				alike, swapped := fullBook(), fullBook()
				alike[i].Dot = other.Dot
				swapped[i], swapped[j] = swapped[j], swapped[i]
				if i != j {
					expectNoPart(t, swapped, known)
				}
				if i != j && e.Owner == other.Owner {
					expectNoPart(t, alike, known)
				} else {
					expectPart(t, alike, known, partByHand(alike, known))
				}
			}
		}
	}
}

func TestPartOfMoreEntriesThanThereAreKeys(t *testing.T) {
	for _, known := range [][]int64{nothingKnown(), mostKnown(), {20, 20, 20, 20}} {
		for _, c := range ownedSlots {
			expectNoPart(t, append(fullBook(), entry(c.owner, c.slot, 5, 900)), known)
		}
		expectNoPart(t, append(fullBook(), entry(4, 0, 5, 900)), known)
		expectNoPart(t, append(fullBook(), impl.Entry{}), known)
		expectNoPart(t, slices.Repeat(fullBook(), 2), known)
		expectNoPart(t, slices.Repeat([]impl.Entry{entry(0, 0, impl.MaxAmount, 1)}, 200000), known)
	}
}

func TestPartWhereNeitherIsRight(t *testing.T) {
	vectors := notVectors()
	for i, v := range vectors {
		for _, bad := range notBooks {
			expectNoPart(t, bad, v)
		}
		expectNoPart(t, slices.Repeat(fullBook(), 2), v)
		expectNoPart(t, []impl.Entry{entry(farNumbers[i%len(farNumbers)], 0, 5, 1)}, v)
	}
}

// statesOf has the book, and what it was behind each of so many deeds of all
// nodes, of which some can't be done.
func statesOf(book []impl.Entry, many int, seed int64) [][]impl.Entry {
	states, x := [][]impl.Entry{book}, manyBytes(many*5, seed)
	for i := range many {
		after, code := impl.Done(book, aboutHeld(book, x[5*i:]))
		if code == impl.CdOk {
			book = after
			states = append(states, book)
		}
	}
	return states
}

// TestWhatIsKnownAndAPartAreTheBook holds promise 10: each state that a book had
// is known to one who is told the rest in one part.
func TestWhatIsKnownAndAPartAreTheBook(t *testing.T) {
	begins := [][]impl.Entry{nil, richBook(), holding(2, 0), {entry(1, 1, 500, impl.MaxDot-40)}}
	many := 0
	for seed := range int64(60) {
		states := statesOf(begins[seed%int64(len(begins))], 120, seed)
		book := states[len(states)-1]
		many += len(states)
		for _, state := range states {
			expectPart(t, book, impl.VecOf(state), partByHand(book, dotsByHand(state)))
			expectJoinedBothWays(t, state, impl.PartFor(book, impl.VecOf(state)), book)
			// Who knows the later one is told nothing of the earlier one.
			expectPart(t, state, impl.VecOf(book), nil)
		}
	}
	if many < 3000 {
		t.Error("states:", many)
	}
}

// TestPartsOneBehindTheOther tells the parts from state to state: in order, each
// one twice, and the last one first, all the same.
func TestPartsOneBehindTheOther(t *testing.T) {
	for seed := range int64(40) {
		states := statesOf(nil, 30, seed+300)
		last := states[len(states)-1]
		told, back := []impl.Entry(nil), []impl.Entry(nil)
		for i, state := range states[1:] {
			part := impl.PartFor(state, impl.VecOf(states[i]))
			if len(part) != 1 {
				t.Fatalf("a deed changed %v", part)
			}
			expectJoinedBothWays(t, told, part, state)
			expectJoinedBothWays(t, state, part, state)
			expectJoinedBothWays(t, last, part, last)
			told = state
		}
		for i := len(states) - 1; i > 0; i-- {
			back, _ = impl.Joined(back, impl.PartFor(states[i], impl.VecOf(states[i-1])))
			expectWithin(t, back, last, true)
		}
		if !slices.Equal(back, last) {
			t.Fatalf("told %v of %v", back, last)
		}
	}
}

// TestAPartForLessThanIsKnown is for one who knows more by now than the other
// one knows that he knows.
func TestAPartForLessThanIsKnown(t *testing.T) {
	for seed := range int64(40) {
		states := statesOf(nil, 40, seed+700)
		book := states[len(states)-1]
		for i, earlier := range states {
			known := impl.VecOf(earlier)
			part := impl.PartFor(book, known)
			for _, state := range states[i:] {
				expectJoinedBothWays(t, state, part, book)
			}
			for node, dot := range known {
				expectJoinedBothWays(t, earlier, impl.PartFor(book, changedAt(known, node, dot/2)), book)
			}
		}
	}
}

func TestPartsSayTheSameAgain(t *testing.T) {
	for _, book := range append(someBooks(), notBooks...) {
		for _, v := range append(someVectors(), nil, []int64{-1, 0, 0, 0}) {
			first := impl.PartFor(book, v)
			impl.PartFor(richBook(), nothingKnown())
			impl.PartFor(fullBook(), []int64{38, 33, 28, 23})
			impl.PartFor(notBooks[0], nil)
			if !slices.Equal(impl.PartFor(book, v), first) {
				t.Fatalf("not the same again: %v, %v", book, v)
			}
		}
	}
}

// someKnown picks all of a book, nothing, or some; and some are not right.
func someKnown() [][]int64 {
	return [][]int64{nothingKnown(), mostKnown(), {38, 33, 28, 23}, {1, 1, 1, 1}, {0, impl.MaxDot, 0, impl.MaxDot}, {impl.MaxDot, 0, 17, 0}, {-1, 0, 0, 0}, {0, 0, 0}, nil}
}

func TestPartsLeaveTheirArgumentsAsTheyAre(t *testing.T) {
	for _, book := range slices.Concat(someBooks(), notBooks, [][]impl.Entry{richBook()}) {
		for _, v := range someKnown() {
			whole, given := withRoom(book)
			knownWhole, known := vectorWithRoom(v)
			before, knownBefore := slices.Clone(whole), slices.Clone(knownWhole)
			impl.PartFor(given, known)
			if !slices.Equal(whole, before) || !slices.Equal(knownWhole, knownBefore) {
				t.Fatalf("written into: %v or %v", before, knownBefore)
			}
		}
	}
}

func TestPartsAreNewMemory(t *testing.T) {
	for _, book := range append(someBooks(), richBook(), notBooks[3]) {
		for _, v := range someKnown() {
			whole, given := withRoom(book)
			before := slices.Clone(whole)
			first := impl.PartFor(given, v)
			want := slices.Clone(first)
			second := impl.PartFor(given, v)
			// An answer that is longer by now is not seen in the other one.
			first = append(first, entry(3, 2, 1, 0))
			overwrite(first)
			if !slices.Equal(whole, before) || !slices.Equal(second, want) {
				t.Fatalf("an answer of PartFor(%v, %v) shares memory", book, v)
			}
			overwrite(whole)
			if !slices.Equal(second, want) {
				t.Fatalf("an answer of PartFor(%v, %v) shares memory with the book", book, v)
			}
		}
	}
}

func TestAPartOfAPartIsNewMemory(t *testing.T) {
	for _, book := range append(someBooks(), richBook()) {
		part := impl.PartFor(slices.Clone(book), nothingKnown())
		again := impl.PartFor(part, nothingKnown())
		overwrite(part)
		if !slices.Equal(again, book) {
			t.Fatalf("a part of a part of %v shares memory with it", book)
		}
	}
}
