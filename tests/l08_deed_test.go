package tests

import (
	"math"
	"slices"
	"testing"

	"loop.example/g00824/impl"
)

func deed(kind, node, to, many int64) impl.Deed {
	return impl.Deed{Kind: kind, Node: node, To: to, Many: many}
}

func makes(node, many int64) impl.Deed {
	return deed(impl.DdMake, node, 0, many)
}

func gives(node, to, many int64) impl.Deed {
	return deed(impl.DdGive, node, to, many)
}

func spends(node, many int64) impl.Deed {
	return deed(impl.DdSpend, node, 0, many)
}

// changedSlots has each right deed's Kind, Node and To, with the Slot of the
// entry that it changes, written out.
var changedSlots = []struct{ kind, node, to, slot int64 }{
	{1, 0, 0, 0}, {1, 1, 0, 1}, {1, 2, 0, 2}, {1, 3, 0, 3},
	{2, 0, 1, 1}, {2, 0, 2, 2}, {2, 0, 3, 3}, {2, 1, 0, 0}, {2, 1, 2, 2}, {2, 1, 3, 3},
	{2, 2, 0, 0}, {2, 2, 1, 1}, {2, 2, 3, 3}, {2, 3, 0, 0}, {2, 3, 1, 1}, {2, 3, 2, 2},
	{3, 0, 0, 4}, {3, 1, 0, 4}, {3, 2, 0, 4}, {3, 3, 0, 4},
}

// slotByHand is the Slot that a right deed changes, and -1 of one that is not.
func slotByHand(d impl.Deed) int64 {
	for _, c := range changedSlots {
		if c.kind == d.Kind && c.node == d.Node && c.to == d.To && inRange(d.Many, 1, 1000000) {
			return c.slot
		}
	}
	return -1
}

// doneByHand goes by the table of right deeds and by tables of all keys.
func doneByHand(book []impl.Entry, d impl.Deed) ([]impl.Entry, int64) {
	slot := slotByHand(d)
	if slot < 0 || !isBook(book) {
		return nil, 3
	}
	if d.Kind != 1 && d.Many > rightsByHand(book).held[d.Node] {
		return book, 1
	}
	e := entry(d.Node, slot, amountByHand(book, d.Node, slot)+d.Many, dotsByHand(book)[d.Node]+1)
	if e.Amount > 1000000 || e.Dot > 100000 {
		return book, 2
	}
	return put(book, e), 0
}

func expectCode(t *testing.T, book []impl.Entry, d impl.Deed, want []impl.Entry, code int64) {
	t.Helper()
	got, is := impl.Done(book, d)
	if is != code || !slices.Equal(got, want) {
		t.Fatalf("Done(%v, %+v) = %v, %d, not %v, %d", few(book), d, few(got), is, few(want), code)
	}
}

// expectDone asks that the entry is as it is given here, and all else as it was.
func expectDone(t *testing.T, book []impl.Entry, d impl.Deed, e impl.Entry) {
	t.Helper()
	want := put(book, e)
	expectCode(t, book, d, want, 0)
	if !impl.BookOk(want) || !impl.DeedOk(d) {
		t.Fatalf("Done(%v, %+v): %v is not right, or the deed is not", few(book), d, want)
	}
}

func expectShort(t *testing.T, book []impl.Entry, d impl.Deed) {
	t.Helper()
	expectCode(t, book, d, book, 1)
}

func expectLimit(t *testing.T, book []impl.Entry, d impl.Deed) {
	t.Helper()
	expectCode(t, book, d, book, 2)
}

func expectBad(t *testing.T, book []impl.Entry, d impl.Deed) {
	t.Helper()
	expectCode(t, book, d, nil, 3)
}

func expectDoneAsByHand(t *testing.T, book []impl.Entry, d impl.Deed) {
	t.Helper()
	want, code := doneByHand(book, d)
	expectCode(t, book, d, want, code)
}

// expectDeed is for a deed that is right, be there a book that it can be done in
// or not.
func expectDeed(t *testing.T, d impl.Deed) {
	t.Helper()
	if !impl.DeedOk(d) {
		t.Fatalf("refused: %+v", d)
	}
	for _, book := range [][]impl.Entry{nil, fullBook(), richBook()} {
		expectDoneAsByHand(t, book, d)
	}
	expectBad(t, notBooks[0], d)
}

func expectNoDeed(t *testing.T, d impl.Deed) {
	t.Helper()
	if impl.DeedOk(d) {
		t.Fatalf("taken: %+v", d)
	}
	for _, book := range [][]impl.Entry{nil, fullBook(), richBook(), notBooks[0]} {
		expectBad(t, book, d)
	}
}

// richBook has an entry of each key, and each node holds the greatest Amount,
// less 104 and its number.
func richBook() []impl.Entry {
	book := []impl.Entry{}
	for _, c := range ownedSlots {
		switch c.slot {
		case c.owner:
			book = append(book, entry(c.owner, c.slot, impl.MaxAmount, 20-c.key))
		case 4:
			book = append(book, entry(c.owner, c.slot, 104+c.owner, 20-c.key))
		default:
			book = append(book, entry(c.owner, c.slot, 100, 20-c.key))
		}
	}
	return book
}

// someDeeds has right deeds of all kinds and nodes, of few and of many.
func someDeeds() []impl.Deed {
	list := []impl.Deed{}
	for _, c := range changedSlots {
		for _, many := range []int64{1, 2, 5, 6, 20, 21, 300, impl.MaxAmount - 1, impl.MaxAmount} {
			list = append(list, deed(c.kind, c.node, c.to, many))
		}
	}
	return list
}

// notDeeds are not right, each for one reason.
var notDeeds = []impl.Deed{
	{}, deed(0, 1, 0, 1), deed(4, 1, 0, 1), deed(-1, 1, 0, 1),
	deed(1, -1, 0, 1), deed(1, 4, 0, 1), deed(2, 4, 1, 1), deed(2, -1, 1, 1), deed(3, 4, 0, 1), deed(3, -1, 0, 1),
	deed(1, 1, 1, 1), deed(1, 0, 1, 1), deed(1, 1, -1, 1), deed(3, 1, 1, 1), deed(3, 0, 4, 1), deed(3, 1, -1, 1),
	deed(2, 0, 0, 1), deed(2, 3, 3, 1), deed(2, 1, 4, 1), deed(2, 1, -1, 1),
	deed(1, 1, 0, 0), deed(2, 1, 0, 0), deed(3, 1, 0, 0), deed(1, 1, 0, -1), deed(2, 1, 0, -1), deed(3, 1, 0, -1),
	deed(1, 1, 0, impl.MaxAmount+1), deed(2, 1, 0, impl.MaxAmount+1), deed(3, 1, 0, impl.MaxAmount+1),
}

func TestKindsAndCodesOfDeeds(t *testing.T) {
	if impl.DdMake != 1 || impl.DdGive != 2 || impl.DdSpend != 3 {
		t.Error("kinds:", impl.DdMake, impl.DdGive, impl.DdSpend)
	}
	if impl.CdOk != 0 || impl.CdShort != 1 || impl.CdLimit != 2 || impl.CdBad != 3 {
		t.Error("codes:", impl.CdOk, impl.CdShort, impl.CdLimit, impl.CdBad)
	}
}

func TestRightDeeds(t *testing.T) {
	for _, c := range changedSlots {
		for _, many := range []int64{1, 2, 255, 256, impl.MaxAmount - 1, impl.MaxAmount} {
			expectDeed(t, deed(c.kind, c.node, c.to, many))
		}
	}
}

func TestDeedsThatAreNotRight(t *testing.T) {
	for _, d := range notDeeds {
		expectNoDeed(t, d)
	}
}

func TestManyAtItsLimits(t *testing.T) {
	for _, c := range changedSlots {
		expectDeed(t, deed(c.kind, c.node, c.to, 1))
		expectDeed(t, deed(c.kind, c.node, c.to, impl.MaxAmount))
		for _, many := range append([]int64{-impl.MaxAmount, -1, 0, impl.MaxAmount + 1}, farNumbers...) {
			expectNoDeed(t, deed(c.kind, c.node, c.to, many))
		}
	}
}

func TestKindNodeAndToAboutTheirLimits(t *testing.T) {
	taken := 0
	for kind := int64(-3); kind <= 6; kind++ {
		for node := int64(-3); node <= 6; node++ {
			for to := int64(-3); to <= 6; to++ {
				d := deed(kind, node, to, 1)
				if slotByHand(d) < 0 {
					expectNoDeed(t, d)
					continue
				}
				expectDeed(t, d)
				taken++
			}
		}
	}
	if taken != len(changedSlots) {
		t.Error("taken:", taken)
	}
}

func TestFarNumbersInEachFieldOfADeed(t *testing.T) {
	for _, x := range farNumbers {
		expectNoDeed(t, deed(x, x, x, x))
		expectNoDeed(t, gives(x, x, 1))
		for _, c := range changedSlots {
			expectNoDeed(t, deed(c.kind, x, c.to, 1))
			expectNoDeed(t, deed(c.kind, c.node, x, 1))
			expectNoDeed(t, deed(c.kind, c.node, c.to, x))
			if x < -3 || x > 3 {
				expectNoDeed(t, deed(x, c.node, c.to, 1))
				expectNoDeed(t, deed(c.kind+x, c.node, c.to, 1))
			}
		}
	}
}

func TestDeedsWrittenOut(t *testing.T) {
	// Node 0 made 50 and gave 20 of them to node 1, which made 5 and spent 7.
	book := ordinaryBooks[0]
	a, b, c, d := entry(0, 0, 50, 1), entry(0, 1, 20, 2), entry(1, 1, 5, 1), entry(1, 4, 7, 2)
	for _, want := range []struct {
		d    impl.Deed
		book []impl.Entry
		code int64
	}{
		{makes(0, 7), []impl.Entry{entry(0, 0, 57, 3), b, c, d}, 0},
		{makes(1, 7), []impl.Entry{a, b, entry(1, 1, 12, 3), d}, 0},
		{makes(2, 7), []impl.Entry{a, b, c, d, entry(2, 2, 7, 1)}, 0},
		{makes(3, 7), []impl.Entry{a, b, c, d, entry(3, 3, 7, 1)}, 0},
		{gives(0, 1, 30), []impl.Entry{a, entry(0, 1, 50, 3), c, d}, 0},
		{gives(0, 2, 30), []impl.Entry{a, b, entry(0, 2, 30, 3), c, d}, 0},
		{gives(0, 3, 1), []impl.Entry{a, b, entry(0, 3, 1, 3), c, d}, 0},
		{gives(1, 0, 18), []impl.Entry{a, b, entry(1, 0, 18, 3), c, d}, 0},
		{gives(1, 2, 18), []impl.Entry{a, b, c, entry(1, 2, 18, 3), d}, 0},
		{spends(0, 30), []impl.Entry{a, b, entry(0, 4, 30, 3), c, d}, 0},
		{spends(1, 18), []impl.Entry{a, b, c, entry(1, 4, 25, 3)}, 0},
		{gives(0, 1, 31), book, 1},
		{gives(1, 0, 19), book, 1},
		{gives(2, 0, 1), book, 1},
		{spends(0, 31), book, 1},
		{spends(1, 19), book, 1},
		{spends(2, 1), book, 1},
		{spends(3, impl.MaxAmount), book, 1},
		{makes(0, impl.MaxAmount-50), []impl.Entry{entry(0, 0, impl.MaxAmount, 3), b, c, d}, 0},
		{makes(0, impl.MaxAmount-49), book, 2},
		{makes(1, impl.MaxAmount), book, 2},
		{gives(0, 0, 1), nil, 3},
		{spends(4, 1), nil, 3},
		{makes(0, 0), nil, 3},
	} {
		expectCode(t, book, want.d, want.book, want.code)
		expectDoneAsByHand(t, book, want.d)
	}
}

func TestDeedsInAnEmptyBook(t *testing.T) {
	// What is cut off is still there behind the list.
	behind := []impl.Entry{entry(0, 0, 500, 9), entry(1, 1, 500, 9), entry(2, 2, 500, 9), entry(3, 3, 500, 9)}
	for _, empty := range [][]impl.Entry{nil, {}, behind[:0]} {
		for _, d := range someDeeds() {
			if d.Kind == impl.DdMake {
				expectDone(t, empty, d, entry(d.Node, d.Node, d.Many, 1))
			} else {
				expectShort(t, empty, d)
			}
		}
		for _, d := range notDeeds {
			expectBad(t, empty, d)
		}
	}
	if !slices.Equal(behind, []impl.Entry{entry(0, 0, 500, 9), entry(1, 1, 500, 9), entry(2, 2, 500, 9), entry(3, 3, 500, 9)}) {
		t.Fatal("written into:", behind)
	}
}

// holding is a book in which the node holds just that many, and in which the
// others hold something, too.
func holding(node, many int64) []impl.Entry {
	book := []impl.Entry{}
	for other := range int64(impl.MaxNodes) {
		made := 70 + other
		if other == node {
			made = many + 40
		}
		book = put(book, entry(other, other, made, 1))
		// Around in a ring: what is given is given on.
		book = put(book, entry(other, (other+1)%4, 30, 2))
	}
	return put(book, entry(node, impl.SlSpent, 40, 3))
}

func TestGivingAndSpendingWhatIsHeldAndOneMore(t *testing.T) {
	for _, c := range changedSlots {
		for _, held := range []int64{1, 2, 255, 256, 1000, impl.MaxAmount - 40} {
			if c.kind == impl.DdMake {
				continue
			}
			book := holding(c.node, held)
			was := amountByHand(book, c.node, c.slot)
			expectShort(t, book, deed(c.kind, c.node, c.to, held+1))
			expectShort(t, book, deed(c.kind, c.node, c.to, impl.MaxAmount))
			expectDone(t, book, deed(c.kind, c.node, c.to, held), entry(c.node, c.slot, was+held, 4))
			if held > 1 {
				expectDone(t, book, deed(c.kind, c.node, c.to, held-1), entry(c.node, c.slot, was+held-1, 4))
			}
		}
	}
}

func TestGivingAndSpendingWhereNothingIsHeld(t *testing.T) {
	for _, c := range changedSlots {
		if c.kind == impl.DdMake {
			continue
		}
		// Just nothing; something, but not of this node; and less than nothing.
		for _, book := range [][]impl.Entry{nil, holding(c.node, 0), holding(c.node, -1), holding(c.node, -39)} {
			for _, many := range []int64{1, 2, 39, 70, impl.MaxAmount} {
				expectShort(t, book, deed(c.kind, c.node, c.to, many))
			}
		}
		others := slices.DeleteFunc(fullBook(), func(e impl.Entry) bool { return e.Owner == c.node || e.Slot == c.node })
		expectShort(t, others, deed(c.kind, c.node, c.to, 1))
		least := []impl.Entry{entry(c.node, (c.node+1)%4, impl.MaxAmount, 1), entry(c.node, impl.SlSpent, impl.MaxAmount, 2)}
		expectShort(t, least, deed(c.kind, c.node, c.to, 1))
		expectShort(t, least, deed(c.kind, c.node, c.to, impl.MaxAmount))
	}
}

func TestMakingNeedsNothingHeld(t *testing.T) {
	for node := range int64(impl.MaxNodes) {
		for _, held := range []int64{-39, -1, 0, 1} {
			book := holding(node, held)
			for _, many := range []int64{1, 2, 100, impl.MaxAmount - 40 - held} {
				expectDone(t, book, makes(node, many), entry(node, node, 40+held+many, 4))
			}
		}
		gone := []impl.Entry{entry(node, impl.SlSpent, impl.MaxAmount, 5)}
		expectDone(t, gone, makes(node, 1), entry(node, node, 1, 6))
		// Made, but still below nothing: it can't be spent.
		less, _ := impl.Done(gone, makes(node, impl.MaxAmount))
		expectShort(t, less, spends(node, 1))
	}
}

func TestWhatOthersHoldIsNoMatter(t *testing.T) {
	// Node 1 gave node 0 all that it had: it is node 0's to spend, whoever gave it.
	book := []impl.Entry{entry(1, 0, 60, 2), entry(1, 1, 60, 1)}
	expectDone(t, book, spends(0, 60), entry(0, 4, 60, 1))
	expectDone(t, book, gives(0, 1, 60), entry(0, 1, 60, 1))
	expectDone(t, book, gives(0, 3, 60), entry(0, 3, 60, 1))
	expectShort(t, book, spends(0, 61))
	expectShort(t, book, spends(1, 1))
	expectShort(t, book, gives(1, 0, 1))
	// Node 2 is below nothing; that is no matter to the others either.
	below := append(slices.Clone(book), entry(2, 3, 500, 9), entry(2, 4, 500, 8))
	expectDone(t, below, spends(3, 500), entry(3, 4, 500, 1))
	expectDone(t, below, gives(0, 2, 60), entry(0, 2, 60, 1))
	expectShort(t, below, spends(2, 1))
}

func TestEachEntryOfAFullBook(t *testing.T) {
	book := richBook()
	for node := range impl.MaxNodes {
		// So that each node may make something, too.
		book[6*node].Amount -= 500
	}
	for _, c := range changedSlots {
		was, dot := amountByHand(book, c.node, c.slot), dotsByHand(book)[c.node]+1
		for _, many := range []int64{1, 2, 499, 500} {
			expectDone(t, book, deed(c.kind, c.node, c.to, many), entry(c.node, c.slot, was+many, dot))
		}
	}
}

func TestAnEntryThatIsNewAtEachPlace(t *testing.T) {
	for _, c := range changedSlots {
		book := slices.DeleteFunc(richBook(), func(e impl.Entry) bool { return e.Owner == c.node && e.Slot == c.slot })
		dot := dotsByHand(book)[c.node] + 1
		expectDone(t, book, deed(c.kind, c.node, c.to, 500), entry(c.node, c.slot, 500, dot))
		if c.kind != impl.DdMake {
			// Ahead of, or behind, the one entry that there is.
			made := []impl.Entry{entry(c.node, c.node, 900, 7)}
			expectDone(t, made, deed(c.kind, c.node, c.to, 500), entry(c.node, c.slot, 500, 8))
			expectDone(t, made, deed(c.kind, c.node, c.to, 900), entry(c.node, c.slot, 900, 8))
		}
	}
	// As the first one of all, as one between two Owners, and as the last one.
	expectDone(t, ordinaryBooks[1], makes(0, 3), entry(0, 0, 3, 1))
	expectDone(t, ordinaryBooks[5], makes(1, 3), entry(1, 1, 3, 1))
	expectDone(t, ordinaryBooks[5], makes(2, 3), entry(2, 2, 3, 1))
	expectDone(t, ordinaryBooks[0], makes(3, 3), entry(3, 3, 3, 1))
}

func TestAnAmountAtItsLimit(t *testing.T) {
	for _, c := range changedSlots {
		for _, was := range []int64{1, 2, 500, impl.MaxAmount - 104, impl.MaxAmount - 1, impl.MaxAmount} {
			book := richBook()
			for i := range book {
				if book[i].Owner == c.node && book[i].Slot == c.slot {
					book[i].Amount = was
				} else if book[i].Slot == c.node {
					// So much is held that the limit alone can refuse it.
					book[i].Amount = impl.MaxAmount
				}
			}
			left, dot := impl.MaxAmount-was, dotsByHand(book)[c.node]+1
			if left > 0 {
				expectDone(t, book, deed(c.kind, c.node, c.to, left), entry(c.node, c.slot, impl.MaxAmount, dot))
			}
			expectLimit(t, book, deed(c.kind, c.node, c.to, left+1))
			expectLimit(t, book, deed(c.kind, c.node, c.to, impl.MaxAmount))
		}
	}
}

func TestADotAtItsLimit(t *testing.T) {
	for _, c := range changedSlots {
		for i := range int64(5) {
			book, at := richBook(), 5*c.node+i
			// So that the node may make something, too.
			book[6*c.node].Amount -= 10
			// Whichever entry of the node has the Dot; the other ones are older.
			book[at].Dot = impl.MaxDot
			expectLimit(t, book, deed(c.kind, c.node, c.to, 1))
			expectLimit(t, book, deed(c.kind, c.node, c.to, 10))
			was := amountByHand(book, c.node, c.slot)
			book[at].Dot = impl.MaxDot - 1
			expectDone(t, book, deed(c.kind, c.node, c.to, 1), entry(c.node, c.slot, was+1, impl.MaxDot))
			book[at].Dot = impl.MaxDot - 2
			expectDone(t, book, deed(c.kind, c.node, c.to, 1), entry(c.node, c.slot, was+1, impl.MaxDot-1))
			// Of another node it is no matter.
			book[at].Dot = 90
			book[(at+5)%20].Dot = impl.MaxDot
			expectDone(t, book, deed(c.kind, c.node, c.to, 1), entry(c.node, c.slot, was+1, 91))
		}
	}
	// At the limit no more is done, be the entry new.
	expectLimit(t, []impl.Entry{entry(0, 4, 1, impl.MaxDot)}, makes(0, 1))
	expectDone(t, []impl.Entry{entry(0, 4, 1, impl.MaxDot)}, makes(1, 1), entry(1, 1, 1, 1))
}

func TestADotIsOneMoreThanAllOfItsOwner(t *testing.T) {
	// The entry itself has an older Dot, or none; there are gaps between them.
	book := []impl.Entry{entry(1, 0, 10, 40), entry(1, 1, 90, 3), entry(1, 2, 10, 77), entry(2, 1, 9, 500), entry(2, 2, 9, 501)}
	expectDone(t, book, makes(1, 1), entry(1, 1, 91, 78))
	expectDone(t, book, gives(1, 0, 1), entry(1, 0, 11, 78))
	expectDone(t, book, gives(1, 2, 1), entry(1, 2, 11, 78))
	expectDone(t, book, gives(1, 3, 1), entry(1, 3, 1, 78))
	expectDone(t, book, spends(1, 1), entry(1, 4, 1, 78))
	expectDone(t, book, makes(2, 1), entry(2, 2, 10, 502))
	expectDone(t, book, makes(0, 1), entry(0, 0, 1, 1))
	expectDone(t, book, makes(3, 1), entry(3, 3, 1, 1))
	// What was given to node 0 is of node 1's Dots: node 0's first one is 1.
	expectDone(t, book, spends(0, 10), entry(0, 4, 10, 1))
	for _, book := range someBooks() {
		for _, d := range someDeeds() {
			done, code := impl.Done(book, d)
			if dot := impl.VecOf(book)[d.Node] + 1; code == impl.CdOk && impl.VecOf(done)[d.Node] != dot {
				t.Fatalf("Done(%v, %+v) = %v: the Dot is not %d", book, d, done, dot)
			}
		}
	}
}

func TestOfTwoCodesItIsTheOneThatIsAsked(t *testing.T) {
	// Short, and the Amount or the Dot or both would be beyond their limits.
	both := []impl.Entry{entry(0, 0, 50, 1), entry(0, 1, impl.MaxAmount, impl.MaxDot), entry(0, 4, impl.MaxAmount, 3)}
	expectShort(t, both, gives(0, 1, 1))
	expectShort(t, both, gives(0, 2, 1))
	expectShort(t, both, spends(0, 1))
	expectLimit(t, both, makes(0, 1))
	amount := []impl.Entry{entry(0, 0, 50, 1), entry(0, 1, impl.MaxAmount, 2)}
	expectShort(t, amount, gives(0, 1, 1))
	expectShort(t, amount, gives(0, 1, impl.MaxAmount))
	expectDone(t, amount, makes(0, 1), entry(0, 0, 51, 3))
	dot := []impl.Entry{entry(0, 0, 50, 1), entry(0, 1, 50, impl.MaxDot)}
	expectShort(t, dot, gives(0, 2, 1))
	expectShort(t, dot, spends(0, 1))
	expectLimit(t, dot, makes(0, 1))
	held := []impl.Entry{entry(0, 0, 50, 1), entry(0, 4, 20, impl.MaxDot)}
	expectLimit(t, held, spends(0, 30))
	expectShort(t, held, spends(0, 31))
	expectLimit(t, held, makes(0, impl.MaxAmount))
}

func TestWhatIsNotRightGoesAhead(t *testing.T) {
	for _, bad := range notBooks {
		for _, d := range someDeeds() {
			expectBad(t, bad, d)
		}
		for _, d := range notDeeds {
			expectBad(t, bad, d)
		}
	}
	for _, book := range someBooks() {
		for _, d := range notDeeds {
			expectBad(t, book, d)
		}
	}
	// Short or beyond a limit as well, if all were right.
	expectBad(t, []impl.Entry{entry(0, 4, 5, 1), entry(0, 4, 5, 2)}, spends(0, impl.MaxAmount))
	expectBad(t, []impl.Entry{entry(0, 0, impl.MaxAmount+1, 1)}, makes(0, impl.MaxAmount))
	expectBad(t, []impl.Entry{entry(0, 0, 5, impl.MaxDot+1)}, makes(0, 1))
	expectBad(t, []impl.Entry{entry(0, 0, impl.MaxAmount, impl.MaxDot)}, makes(0, impl.MaxAmount+1))
	expectBad(t, nil, spends(0, impl.MaxAmount+1))
	expectBad(t, nil, gives(1, 1, 5))
}

func TestABookThatIsNotRightAtEachPlace(t *testing.T) {
	for i, was := range richBook() {
		for _, e := range bentEntries(was) {
			bad := richBook()
			bad[i] = e
			for _, c := range changedSlots {
				expectBad(t, bad, deed(c.kind, c.node, c.to, 1))
			}
		}
	}
	for i := range 19 {
		swapped := richBook()
		swapped[i], swapped[i+1] = swapped[i+1], swapped[i]
		twice := slices.Insert(richBook(), i, richBook()[i])
		for _, c := range changedSlots {
			expectBad(t, swapped, deed(c.kind, c.node, c.to, 1))
			expectBad(t, twice, deed(c.kind, c.node, c.to, 1))
		}
	}
	long := slices.Repeat([]impl.Entry{entry(0, 0, impl.MaxAmount, 1)}, 200000)
	expectBad(t, long, makes(1, 1))
	expectBad(t, long, makes(1, math.MinInt64))
}

func TestADeedMendsNoBook(t *testing.T) {
	// Each would be right if the entry were just put in.
	expectBad(t, []impl.Entry{entry(0, 0, 0, 1)}, makes(0, 5))
	expectBad(t, []impl.Entry{entry(0, 0, 5, 0)}, makes(0, 5))
	expectBad(t, []impl.Entry{entry(0, 0, -5, 1)}, makes(0, 10))
	expectBad(t, []impl.Entry{entry(0, 0, 50, 2), entry(0, 1, 20, 2)}, makes(0, 5))
	expectBad(t, []impl.Entry{entry(0, 0, 50, 2), entry(0, 1, 20, 2)}, gives(0, 1, 5))
	expectBad(t, []impl.Entry{entry(0, 4, 5, 1), entry(0, 0, 50, 2)}, spends(0, 5))
}

func TestDeedsOfManyBooks(t *testing.T) {
	deeds := someDeeds()
	seen := [4]int{}
	for i, book := range slices.Concat(manyBooks(), rightParts()[:500]) {
		for j := range 12 {
			d := deeds[(i*31+j*17)%len(deeds)]
			want, code := doneByHand(book, d)
			expectCode(t, book, d, want, code)
			seen[code]++
		}
	}
	for _, book := range append(someBooks(), richBook()) {
		for _, d := range append(deeds, notDeeds...) {
			want, code := doneByHand(book, d)
			expectCode(t, book, d, want, code)
			seen[code]++
		}
	}
	if slices.Min(seen[:]) < 100 {
		t.Error("of each code:", seen)
	}
}

// expectHeldMoved asks that what the deed moved is moved, and nothing else.
func expectHeldMoved(t *testing.T, book, done []impl.Entry, d impl.Deed) {
	t.Helper()
	want, made, spent := [4]int64{}, impl.MadeIn(book), impl.SpentIn(book)
	for node := range want {
		want[node] = impl.HeldBy(book, int64(node))
	}
	switch d.Kind {
	case impl.DdMake:
		want[d.Node] += d.Many
		made += d.Many
	case impl.DdGive:
		want[d.Node] -= d.Many
		want[d.To] += d.Many
	case impl.DdSpend:
		want[d.Node] -= d.Many
		spent += d.Many
	}
	expectRights(t, done, rights{held: want, made: made, spent: spent})
}

func TestNobodySpendsMoreThanHeHolds(t *testing.T) {
	deeds := someDeeds()
	for i, book := range manyBooks() {
		for j := range 8 {
			d := deeds[(i*29+j*23)%len(deeds)]
			done, code := impl.Done(book, d)
			held := impl.HeldBy(book, d.Node)
			if code == impl.CdOk && d.Kind != impl.DdMake && d.Many > held {
				t.Fatalf("Done(%v, %+v): it holds just %d", book, d, held)
			}
			if code == impl.CdShort && (d.Kind == impl.DdMake || d.Many <= held) {
				t.Fatalf("Done(%v, %+v) is short, though it holds %d", book, d, held)
			}
			if code == impl.CdOk {
				expectHeldMoved(t, book, done, d)
			}
		}
	}
}

// drawnDeed is a deed of any kind, of which some are short, and few not right.
func drawnDeed(x []int64) impl.Deed {
	kind, node, to := x[0]%3+1, x[1]%4, x[2]%4
	if kind != impl.DdGive && x[3]%16 > 0 {
		to = 0
	}
	return deed(kind, node, to, x[4]*x[5]%300)
}

func TestDeedsOneBehindTheOther(t *testing.T) {
	for seed := range int64(60) {
		book, dots, seen := []impl.Entry(nil), [4]int64{}, [4]int{}
		x := manyBytes(300*6, seed)
		for i := range 300 {
			d := drawnDeed(x[6*i:])
			want, code := doneByHand(book, d)
			expectCode(t, book, d, want, code)
			seen[code]++
			if code != impl.CdOk {
				continue
			}
			done, _ := impl.Done(book, d)
			expectHeldMoved(t, book, done, d)
			dots[d.Node]++
			expectVecOf(t, done, dots[:])
			book = done
		}
		for node := range int64(impl.MaxNodes) {
			if impl.HeldBy(book, node) < 0 {
				t.Fatalf("node %d is below nothing: %v", node, book)
			}
		}
		if seen[0] < 50 || seen[1] < 10 || seen[3] < 10 {
			t.Error("of each code:", seen)
		}
	}
}

func TestANodeSpendsJustWhatItHasAndNoMore(t *testing.T) {
	for node := range int64(impl.MaxNodes) {
		book, code := impl.Done(nil, makes(node, 10))
		for i := range int64(10) {
			was := book
			book, code = impl.Done(book, spends(node, 1))
			if code != impl.CdOk || impl.AmountAt(book, node, impl.SlSpent) != i+1 || impl.HeldBy(book, node) != 9-i {
				t.Fatalf("Done(%v, ..) = %v, %d", was, book, code)
			}
		}
		expectShort(t, book, spends(node, 1))
		expectShort(t, book, gives(node, (node+1)%4, 1))
		if impl.SpentIn(book) != 10 || impl.MadeIn(book) != 10 {
			t.Fatal("not all is spent:", book)
		}
	}
}

func TestDeedsSayTheSameAgain(t *testing.T) {
	for _, book := range append(someBooks(), notBooks...) {
		for _, d := range append(someDeeds(), notDeeds...) {
			first, code := impl.Done(book, d)
			ok := impl.DeedOk(d)
			impl.Done(richBook(), spends(2, 1))
			impl.Done(notBooks[0], makes(0, 1))
			impl.DeedOk(impl.Deed{})
			again, codeAgain := impl.Done(book, d)
			if codeAgain != code || !slices.Equal(again, first) || impl.DeedOk(d) != ok {
				t.Fatalf("not the same again: %v, %+v", book, d)
			}
		}
	}
}

func TestBooksOfDeedsStayAsTheyAre(t *testing.T) {
	for _, book := range append(someBooks(), append(notBooks, richBook())...) {
		whole, given := withRoom(book)
		before := slices.Clone(whole)
		for _, d := range append(someDeeds(), notDeeds...) {
			impl.Done(given, d)
		}
		if !slices.Equal(whole, before) {
			t.Fatalf("written into: %v", before)
		}
	}
}

func TestDoneIsNewMemory(t *testing.T) {
	seen := [4]int{}
	for _, book := range append(someBooks(), richBook(), notBooks[3]) {
		for _, d := range append(someDeeds(), notDeeds[0]) {
			whole, given := withRoom(book)
			before := slices.Clone(whole)
			first, code := impl.Done(given, d)
			want := slices.Clone(first)
			second, _ := impl.Done(given, d)
			overwrite(first)
			if !slices.Equal(whole, before) || !slices.Equal(second, want) {
				t.Fatalf("an answer of Done(%v, %+v) shares memory", book, d)
			}
			overwrite(whole)
			if !slices.Equal(second, want) {
				t.Fatalf("an answer of Done(%v, %+v) shares memory with the book", book, d)
			}
			seen[code]++
		}
	}
	if slices.Min(seen[:]) < 20 {
		t.Error("of each code:", seen)
	}
}
