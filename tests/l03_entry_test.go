package tests

import (
	"math"
	"slices"
	"testing"

	"loop.example/g00824/impl"
)

// farNumbers are no field of a right entry; the low bits of some of them are
// those of one, and five times some of them is a small number again.
var farNumbers = []int64{
	math.MinInt64, math.MinInt64 + 1, -1 << 62, -1 << 32, -1<<32 + 1, -1000001, -100001, -256, -5, -4, -3, -2,
	1000002, 1 << 24, 1<<31 + 1, 1 << 32, 1<<32 + 1, 1<<32 + 4, 1 << 62,
	3689348814741910323, 3689348814741910324, -3689348814741910323, math.MaxInt64 - 1, math.MaxInt64,
}

// ownedSlots has each right pair of an Owner and a Slot, with its key, written
// out.
var ownedSlots = []struct{ owner, slot, key int64 }{
	{0, 0, 0}, {0, 1, 1}, {0, 2, 2}, {0, 3, 3}, {0, 4, 4},
	{1, 0, 5}, {1, 1, 6}, {1, 2, 7}, {1, 3, 8}, {1, 4, 9},
	{2, 0, 10}, {2, 1, 11}, {2, 2, 12}, {2, 3, 13}, {2, 4, 14},
	{3, 0, 15}, {3, 1, 16}, {3, 2, 17}, {3, 3, 18}, {3, 4, 19},
}

func entry(owner, slot, amount, dot int64) impl.Entry {
	return impl.Entry{Owner: owner, Slot: slot, Amount: amount, Dot: dot}
}

func expectEntry(t *testing.T, e impl.Entry, key int64) {
	t.Helper()
	if !impl.EntryOk(e) {
		t.Errorf("refused: %+v", e)
	}
	if got := impl.KeyOf(e); got != key {
		t.Errorf("KeyOf(%+v) = %d, not %d", e, got, key)
	}
}

func expectNoEntry(t *testing.T, e impl.Entry) {
	t.Helper()
	if impl.EntryOk(e) {
		t.Errorf("taken: %+v", e)
	}
	if got := impl.KeyOf(e); got != -1 {
		t.Errorf("KeyOf(%+v) = %d, not -1", e, got)
	}
}

func TestLimitsOfEntries(t *testing.T) {
	if impl.MaxNodes != 4 || impl.MaxAmount != 1000000 || impl.MaxDot != 100000 || impl.SlSpent != 4 {
		t.Fatal(impl.MaxNodes, impl.MaxAmount, impl.MaxDot, impl.SlSpent)
	}
}

func TestEachOwnerAndSlotHasItsKey(t *testing.T) {
	for _, c := range ownedSlots {
		for _, amount := range []int64{1, 2, 3, 255, 99999, 100000, 100001, 500000, 999999, impl.MaxAmount} {
			for _, dot := range []int64{1, 2, 3, 255, 50000, 99999, impl.MaxDot} {
				expectEntry(t, entry(c.owner, c.slot, amount, dot), c.key)
			}
		}
	}
}

func TestNoOtherOwnerOrSlotIsRight(t *testing.T) {
	for owner := int64(-12); owner <= 12; owner++ {
		for slot := int64(-12); slot <= 30; slot++ {
			if owner >= 0 && owner < impl.MaxNodes && slot >= 0 && slot <= impl.SlSpent {
				expectEntry(t, entry(owner, slot, 7, 9), 5*owner+slot)
			} else {
				expectNoEntry(t, entry(owner, slot, 7, 9))
			}
		}
	}
}

func TestNoTwoOwnersAndSlotsHaveOneKey(t *testing.T) {
	seen := map[int64]impl.Entry{}
	for owner := int64(0); owner < impl.MaxNodes; owner++ {
		for slot := int64(0); slot <= impl.SlSpent; slot++ {
			e := entry(owner, slot, 10*owner+slot+1, 1)
			key := impl.KeyOf(e)
			if other, ok := seen[key]; ok {
				t.Errorf("%+v and %+v have the key %d", other, e, key)
			}
			seen[key] = e
		}
	}
	if len(seen) != 20 {
		t.Error("keys:", len(seen))
	}
}

func TestAKeyTellsOwnerAndSlot(t *testing.T) {
	for owner := int64(0); owner < impl.MaxNodes; owner++ {
		for slot := int64(0); slot <= impl.SlSpent; slot++ {
			key := impl.KeyOf(entry(owner, slot, 1, 1))
			if key < 0 || key/5 != owner || key%5 != slot {
				t.Errorf("Owner %d, Slot %d has the key %d", owner, slot, key)
			}
		}
	}
}

func TestKeysRiseByOwnerThenSlot(t *testing.T) {
	keys := []int64{}
	for _, c := range ownedSlots {
		keys = append(keys, impl.KeyOf(entry(c.owner, c.slot, impl.MaxAmount, impl.MaxDot)))
	}
	want := []int64{}
	for key := range int64(20) {
		want = append(want, key)
	}
	if !slices.Equal(keys, want) {
		t.Errorf("keys %v, not %v", keys, want)
	}
}

func TestAKeyIsThatOfOwnerAndSlotAlone(t *testing.T) {
	for _, c := range ownedSlots {
		for n := int64(1); n <= 300; n++ {
			expectEntry(t, entry(c.owner, c.slot, n, 301-n), c.key)
			expectEntry(t, entry(c.owner, c.slot, 3331*n, 331*n), c.key)
		}
	}
}

func TestAnEntryAtTheLimitsOfItsOwner(t *testing.T) {
	for slot := int64(0); slot <= impl.SlSpent; slot++ {
		expectEntry(t, entry(0, slot, 1, 1), slot)
		expectEntry(t, entry(impl.MaxNodes-1, slot, 1, 1), 15+slot)
		expectNoEntry(t, entry(-1, slot, 1, 1))
		expectNoEntry(t, entry(impl.MaxNodes, slot, 1, 1))
	}
}

func TestAnEntryAtTheLimitsOfItsSlot(t *testing.T) {
	for owner := int64(0); owner < impl.MaxNodes; owner++ {
		expectEntry(t, entry(owner, 0, 1, 1), 5*owner)
		expectEntry(t, entry(owner, owner, 1, 1), 6*owner)
		expectEntry(t, entry(owner, impl.SlSpent, 1, 1), 5*owner+4)
		expectNoEntry(t, entry(owner, impl.SlSpent+1, 1, 1))
		expectNoEntry(t, entry(owner, -1, 1, 1))
	}
}

func TestAnEntryAtTheLimitsOfItsAmount(t *testing.T) {
	for _, c := range ownedSlots {
		expectEntry(t, entry(c.owner, c.slot, 1, 5), c.key)
		expectEntry(t, entry(c.owner, c.slot, impl.MaxAmount, 5), c.key)
		expectNoEntry(t, entry(c.owner, c.slot, 0, 5))
		expectNoEntry(t, entry(c.owner, c.slot, -1, 5))
		expectNoEntry(t, entry(c.owner, c.slot, impl.MaxAmount+1, 5))
	}
}

func TestAnEntryAtTheLimitsOfItsDot(t *testing.T) {
	for _, c := range ownedSlots {
		expectEntry(t, entry(c.owner, c.slot, 5, 1), c.key)
		expectEntry(t, entry(c.owner, c.slot, 5, impl.MaxDot), c.key)
		expectNoEntry(t, entry(c.owner, c.slot, 5, 0))
		expectNoEntry(t, entry(c.owner, c.slot, 5, -1))
		expectNoEntry(t, entry(c.owner, c.slot, 5, impl.MaxDot+1))
		// So much may be its Amount.
		expectNoEntry(t, entry(c.owner, c.slot, 5, impl.MaxAmount))
	}
}

func TestFarNumbersAreRefusedInEachField(t *testing.T) {
	for _, c := range ownedSlots {
		for _, far := range farNumbers {
			expectNoEntry(t, entry(far, c.slot, 5, 6))
			expectNoEntry(t, entry(c.owner, far, 5, 6))
			expectNoEntry(t, entry(c.owner, c.slot, far, 6))
			expectNoEntry(t, entry(c.owner, c.slot, 5, far))
		}
	}
}

func TestAnOwnerThatIsNoNodeIsRefusedAsItsOwnSlot(t *testing.T) {
	for _, n := range append([]int64{-1, impl.MaxNodes, impl.MaxNodes + 1}, farNumbers...) {
		expectNoEntry(t, entry(n, n, 1, 1))
		expectNoEntry(t, entry(n, impl.SlSpent, 1, 1))
	}
}

func TestAnOwnerAndASlotDoNotMakeUpForEachOther(t *testing.T) {
	for key := int64(0); key < 20; key++ {
		for _, owner := range append([]int64{-1, impl.MaxNodes}, farNumbers...) {
			// Five times it, and this, is the key, be it by wrapping around.
			expectNoEntry(t, entry(owner, key-5*owner, 1, 1))
		}
	}
}

func TestMoreThanOneFieldNotRightIsRefused(t *testing.T) {
	wrong := []int64{math.MinInt64, -1, impl.MaxAmount + 1, math.MaxInt64}
	right := entry(1, 2, 3, 4)
	for which := range 16 {
		for _, x := range wrong {
			e := right
			for i, field := range []*int64{&e.Owner, &e.Slot, &e.Amount, &e.Dot} {
				if which>>i&1 == 1 {
					*field = x
				}
			}
			if which == 0 {
				expectEntry(t, e, 7)
			} else {
				expectNoEntry(t, e)
			}
		}
	}
}

func TestTheZeroEntryIsRefused(t *testing.T) {
	expectNoEntry(t, impl.Entry{})
	expectNoEntry(t, entry(0, 0, 1, 0))
	expectNoEntry(t, entry(0, 0, 0, 1))
	expectEntry(t, entry(0, 0, 1, 1), 0)
}

func TestAnEntryStaysAsItIs(t *testing.T) {
	for _, was := range []impl.Entry{entry(3, 1, 20, 30), entry(2, 2, 1, 1), entry(4, 4, 4, 4), {}} {
		e := was
		firstOk, firstKey := impl.EntryOk(e), impl.KeyOf(e)
		impl.KeyOf(entry(-1, 9, 0, 0))
		if e != was || impl.EntryOk(e) != firstOk || impl.KeyOf(e) != firstKey {
			t.Errorf("%+v is %+v, or is answered in another way", was, e)
		}
	}
}
