package tests

import (
	"encoding/binary"
	"math"
	"slices"
	"testing"

	"loop.example/g00824/impl"
)

// A coded is a book, and its bytes.
type coded struct {
	book []impl.Entry
	b    []int64
}

// codesWrittenOut hold whatever the program does.
var codesWrittenOut = []coded{
	{nil, []int64{0}},
	{[]impl.Entry{entry(0, 0, 1, 1)}, []int64{1, 0, 1, 1}},
	{[]impl.Entry{entry(3, 4, 1, 1)}, []int64{1, 19, 1, 1}},
	{[]impl.Entry{entry(2, 1, 300, 128)}, []int64{1, 11, 172, 2, 128, 1}},
	{[]impl.Entry{entry(1, 0, impl.MaxAmount, impl.MaxDot)}, []int64{1, 5, 192, 132, 61, 160, 141, 6}},
	{
		[]impl.Entry{entry(0, 0, 50, 1), entry(0, 1, 20, 2), entry(1, 1, 5, 1), entry(1, 4, 7, 2)},
		[]int64{4, 0, 50, 1, 0, 20, 2, 4, 5, 1, 2, 7, 2},
	},
	// Side by side, and as far from each other as can be.
	{[]impl.Entry{entry(0, 4, 9, 8), entry(1, 0, 7, 6)}, []int64{2, 4, 9, 8, 0, 7, 6}},
	{[]impl.Entry{entry(0, 0, 9, 8), entry(3, 4, 7, 6)}, []int64{2, 0, 9, 8, 18, 7, 6}},
	{[]impl.Entry{entry(0, 1, 9, 3), entry(0, 3, 8, 2), entry(3, 3, 7, 1)}, []int64{3, 1, 9, 3, 1, 8, 2, 14, 7, 1}},
	{[]impl.Entry{entry(3, 3, 127, 127), entry(3, 4, 128, 128)}, []int64{2, 18, 127, 127, 0, 128, 1, 128, 1}},
}

// numberByHand is written by the library, which has the same form.
func numberByHand(n int64) []int64 {
	b := []int64{}
	for _, x := range binary.AppendUvarint(nil, uint64(n)) {
		b = append(b, int64(x))
	}
	return b
}

func written(numbers []int64) []int64 {
	b := []int64{}
	for _, n := range numbers {
		b = append(b, numberByHand(n)...)
	}
	return b
}

// numbersByHand goes along all keys there are, and counts those between two
// entries.
func numbersByHand(book []impl.Entry) []int64 {
	numbers, gap := []int64{int64(len(book))}, int64(0)
	for key := range int64(20) {
		at := slices.IndexFunc(book, func(e impl.Entry) bool { return 5*e.Owner+e.Slot == key })
		if at < 0 {
			gap++
			continue
		}
		numbers, gap = append(numbers, gap, book[at].Amount, book[at].Dot), 0
	}
	return numbers
}

func codeByHand(book []impl.Entry) []int64 {
	return written(numbersByHand(book))
}

// numbersRead reads as many numbers as there are, in whatever form.
func numbersRead(b []int64) []int64 {
	bytes, numbers := []byte(asText(b)), []int64{}
	for len(bytes) > 0 {
		n, many := binary.Uvarint(bytes)
		if many <= 0 {
			break
		}
		numbers, bytes = append(numbers, int64(n&math.MaxInt64)), bytes[many:]
	}
	return numbers
}

// bookByHand reads what may be a book, and looks whether its bytes are these.
func bookByHand(b []int64) ([]impl.Entry, bool) {
	book, key, numbers := []impl.Entry{}, int64(-1), numbersRead(b)
	for i := 3; i < len(numbers) && len(book) < 21; i += 3 {
		key += 1 + min(numbers[i-2], 20)
		book = append(book, entry(key/5, key%5, numbers[i-1], numbers[i]))
	}
	if !isBook(book) || !slices.Equal(codeByHand(book), b) {
		return nil, false
	}
	return book, true
}

func expectDecoded(t *testing.T, b []int64, want []impl.Entry) {
	t.Helper()
	got, ok := impl.Decoded(b)
	if !ok || !slices.Equal(got, want) {
		t.Fatalf("Decoded(%v) = %v, %v, not %v, true", b, few(got), ok, want)
	}
}

func expectNotDecoded(t *testing.T, b []int64) {
	t.Helper()
	if got, ok := impl.Decoded(b); ok || len(got) != 0 {
		t.Fatalf("Decoded(%v), of %d, = %v, %v, not nothing, false", b[:min(len(b), 80)], len(b), few(got), ok)
	}
}

// expectCoded is for a right book and its bytes.
func expectCoded(t *testing.T, book []impl.Entry, b []int64) {
	t.Helper()
	if got := impl.Encoded(book); !slices.Equal(got, b) {
		t.Fatalf("Encoded(%v) = %v, not %v", book, got, b)
	}
	expectDecoded(t, b, book)
}

func expectNotCoded(t *testing.T, book []impl.Entry) {
	t.Helper()
	if got := impl.Encoded(book); len(got) != 0 {
		t.Fatalf("Encoded(%v), of %d, = %v, not nothing", few(book), len(book), got)
	}
}

// expectAsDecoded asks, too, whether what is read has just these bytes.
func expectAsDecoded(t *testing.T, b []int64) bool {
	t.Helper()
	want, ok := bookByHand(b)
	if !ok {
		expectNotDecoded(t, b)
		return false
	}
	expectCoded(t, want, b)
	return true
}

// codedBooks have numbers of each length, and gaps of each size; some are of one
// entry, of each key.
func codedBooks() []coded {
	list := slices.Clone(codesWrittenOut)
	long := fullBook()
	for i := range long {
		long[i].Amount, long[i].Dot = impl.MaxAmount-int64(i), impl.MaxDot-int64(i)
	}
	mixed := slices.DeleteFunc(slices.Clone(long), func(e impl.Entry) bool { return e.Slot == 2 || e.Owner == 1 })
	for _, book := range [][]impl.Entry{fullBook(), long, mixed, richBook(), newerBook()} {
		list = append(list, coded{book, codeByHand(book)})
	}
	for _, c := range ownedSlots {
		book := []impl.Entry{entry(c.owner, c.slot, 127+c.key%2, 16383+c.key%2)}
		list = append(list, coded{book, codeByHand(book)})
	}
	return list
}

func TestCodesWrittenOut(t *testing.T) {
	for _, c := range codesWrittenOut {
		expectCoded(t, c.book, c.b)
		if !slices.Equal(codeByHand(c.book), c.b) {
			t.Fatalf("by hand, %v is %v, not %v", c.book, codeByHand(c.book), c.b)
		}
	}
}

func TestCodeOfAnEmptyBook(t *testing.T) {
	// What is cut off is still there behind the list.
	behind := []impl.Entry{entry(1, 1, 5, 9), entry(1, 2, 5, 10)}
	for _, book := range [][]impl.Entry{nil, {}, behind[:0], []impl.Entry{{}}[:0]} {
		expectCoded(t, book, []int64{0})
	}
	expectCoded(t, behind[:1], []int64{1, 6, 5, 9})
	expectCoded(t, behind[1:], []int64{1, 7, 5, 10})
	expectDecoded(t, []int64{0, 1, 6, 5, 9}[:1], nil)
	expectDecoded(t, []int64{1, 6, 5, 9, 0, 5, 10}[:4], behind[:1])
}

func TestNoBytesAreNoBook(t *testing.T) {
	for _, b := range [][]int64{nil, {}, []int64{0}[:0], []int64{1, 6, 5, 9}[:0]} {
		expectNotDecoded(t, b)
	}
}

// lengthsOfNumbers are the least and the greatest one of each length in bytes,
// those beside them, and the limits of an Amount and a Dot.
func lengthsOfNumbers(most int64) []int64 {
	list := []int64{1, 2, 3, most - 1, most}
	for _, n := range []int64{127, 128, 255, 256, 16383, 16384, 65535, 65536} {
		list = append(list, n-1, n, n+1)
	}
	return list
}

func TestCodeOfABookOfOneEntry(t *testing.T) {
	for _, c := range ownedSlots {
		for _, amount := range lengthsOfNumbers(impl.MaxAmount) {
			for _, dot := range lengthsOfNumbers(impl.MaxDot) {
				want := slices.Concat([]int64{1, c.key}, numberByHand(amount), numberByHand(dot))
				expectCoded(t, []impl.Entry{entry(c.owner, c.slot, amount, dot)}, want)
			}
		}
	}
}

func TestHowLongACodeIs(t *testing.T) {
	for _, c := range []struct {
		amount, dot int64
		many        int
	}{
		{1, 1, 4}, {127, 127, 4}, {128, 127, 5}, {127, 128, 5}, {16383, 16383, 6}, {16384, 16383, 7}, {16383, 16384, 7}, {impl.MaxAmount, impl.MaxDot, 8},
	} {
		b := impl.Encoded([]impl.Entry{entry(2, 2, c.amount, c.dot)})
		if len(b) != c.many {
			t.Errorf("%d and %d take %d bytes, not %d", c.amount, c.dot, len(b), c.many)
		}
	}
}

func TestCodeOfAllKeys(t *testing.T) {
	numbers := []int64{20}
	for key := range int64(20) {
		numbers = append(numbers, 0, 100+key, 40-key)
	}
	b := impl.Encoded(fullBook())
	if len(b) != 61 || !slices.Equal(b, numbers) {
		t.Fatal(b)
	}
	expectCoded(t, fullBook(), numbers)
	for i, e := range fullBook() {
		for _, amount := range lengthsOfNumbers(impl.MaxAmount) {
			book := fullBook()
			book[i].Amount = amount
			expectCoded(t, book, codeByHand(book))
			book[i].Dot = max(min(amount, impl.MaxDot), e.Dot)
			if isBook(book) {
				expectCoded(t, book, codeByHand(book))
			}
		}
	}
}

func TestTheGapBetweenAnyTwoKeys(t *testing.T) {
	for i, a := range fullBook() {
		for j, b := range fullBook() {
			if i >= j {
				continue
			}
			want := []int64{2, int64(i), a.Amount, a.Dot, int64(j - i - 1), b.Amount, b.Dot}
			expectCoded(t, []impl.Entry{a, b}, want)
			for k, c := range fullBook()[j+1:] {
				expectCoded(t, []impl.Entry{a, b, c}, append([]int64{3}, append(want[1:7:7], int64(k), c.Amount, c.Dot)...))
			}
		}
	}
}

func TestTheGapWhereOneKeyIsMissing(t *testing.T) {
	for i := range 20 {
		numbers := []int64{19}
		for key := range int64(20) {
			if key != int64(i) {
				numbers = append(numbers, 0, 100+key, 40-key)
			}
		}
		// What is behind the missing one, if there is one, is one farther.
		if i < 19 {
			numbers[1+3*i] = 1
		}
		expectCoded(t, slices.Delete(fullBook(), i, i+1), numbers)
	}
}

func TestCodesOfManyBooks(t *testing.T) {
	books := map[string]bool{}
	for _, book := range slices.Concat(manyBooks(), rightParts()) {
		expectCoded(t, book, codeByHand(book))
		books[asText(impl.Encoded(book))] = true
		if got, ok := bookByHand(codeByHand(book)); !ok || !slices.Equal(got, book) {
			t.Fatalf("by hand, %v is read as %v, %v", book, got, ok)
		}
	}
	if len(books) < 5000 {
		t.Error("different books:", len(books))
	}
}

// asText has each number in eight bits.
func asText(b []int64) string {
	bytes := []byte{}
	for _, x := range b {
		bytes = append(bytes, byte(x))
	}
	return string(bytes)
}

func TestCodesOfAllThatDeedsMake(t *testing.T) {
	for seed := range int64(30) {
		for _, book := range statesOf(nil, 80, seed+50) {
			expectCoded(t, book, codeByHand(book))
			part := impl.PartFor(book, []int64{seed % 9, seed % 7, seed % 5, seed % 3})
			expectCoded(t, part, codeByHand(part))
		}
	}
}

func TestNoTwoBooksHaveOneCode(t *testing.T) {
	seen := map[string][]impl.Entry{}
	for _, book := range slices.Concat(manyBooks(), rightParts()) {
		code := asText(impl.Encoded(book))
		if was, is := seen[code]; is && !slices.Equal(was, book) {
			t.Fatalf("%v and %v have one code", was, book)
		}
		seen[code] = book
	}
}

func TestNoCodeOfWhatIsNoBook(t *testing.T) {
	for _, bad := range notBooks {
		expectNotCoded(t, bad)
	}
	for _, book := range [][]impl.Entry{fullBook(), {entry(0, 0, 5, 9)}, {entry(0, 0, 5, 9), entry(2, 4, 5, 9)}} {
		for i, was := range book {
			for _, e := range bentEntries(was) {
				bad := slices.Clone(book)
				bad[i] = e
				expectNotCoded(t, bad)
			}
		}
	}
}

func TestNoCodeWhereKeysDoNotRise(t *testing.T) {
	for i, e := range fullBook() {
		expectNotCoded(t, slices.Insert(fullBook(), i, e))
		e.Dot += 100
		expectNotCoded(t, slices.Insert(fullBook(), i, e))
		for j := range fullBook()[:i] {
			swapped := fullBook()
			swapped[i], swapped[j] = swapped[j], swapped[i]
			expectNotCoded(t, swapped)
			expectNotCoded(t, []impl.Entry{fullBook()[i], fullBook()[j]})
		}
	}
	backward := fullBook()
	slices.Reverse(backward)
	expectNotCoded(t, backward)
}

func TestNoCodeOfTwoAlikeDots(t *testing.T) {
	for i, e := range fullBook() {
		for j, other := range fullBook() {
			alike := fullBook()
			alike[i].Dot = other.Dot
			if i == j || e.Owner != other.Owner {
				expectCoded(t, alike, codeByHand(alike))
				continue
			}
			expectNotCoded(t, alike)
			expectNotDecoded(t, codeByHand(alike))
			two := []impl.Entry{alike[min(i, j)], alike[max(i, j)]}
			expectNotCoded(t, two)
			expectNotDecoded(t, codeByHand(two))
		}
	}
}

func TestNoCodeOfTooManyEntries(t *testing.T) {
	for _, c := range ownedSlots {
		expectNotCoded(t, append(fullBook(), entry(c.owner, c.slot, 5, 900)))
	}
	expectNotCoded(t, append(fullBook(), entry(4, 0, 5, 900)))
	expectNotCoded(t, append(fullBook(), impl.Entry{}))
	expectNotCoded(t, slices.Repeat(fullBook(), 2))
	expectNotCoded(t, slices.Repeat([]impl.Entry{entry(0, 0, impl.MaxAmount, 1)}, 200000))
}

func TestCodesCutShort(t *testing.T) {
	for _, c := range codedBooks() {
		for many := range c.b {
			expectNotDecoded(t, c.b[:many])
			expectNotDecoded(t, slices.Clone(c.b[:many]))
			// Or at the front.
			expectAsDecoded(t, c.b[many:])
		}
		expectDecoded(t, c.b, c.book)
	}
}

func TestCodesWithMoreBehind(t *testing.T) {
	for _, c := range codedBooks() {
		for x := range int64(256) {
			expectNotDecoded(t, append(slices.Clone(c.b), x))
			expectNotDecoded(t, append(slices.Clone(c.b), x, 1, 1))
		}
		expectNotDecoded(t, slices.Concat(c.b, c.b))
		expectNotDecoded(t, slices.Concat(c.b, []int64{0}))
		expectNotDecoded(t, slices.Concat(c.b, make([]int64, 400)))
	}
}

func TestCodesWithOneMoreAhead(t *testing.T) {
	for _, c := range codedBooks() {
		for x := range int64(256) {
			expectAsDecoded(t, slices.Concat([]int64{x}, c.b))
		}
	}
}

func TestCodesOfWhichOneByteIsAnotherOne(t *testing.T) {
	read, not := 0, 0
	for _, c := range codedBooks() {
		for i, was := range c.b {
			for x := range int64(256) {
				bent := slices.Clone(c.b)
				bent[i] = x
				if expectAsDecoded(t, bent) {
					read++
				} else {
					not++
				}
				if got, _ := impl.Decoded(bent); x != was && len(got) > 0 && slices.Equal(got, c.book) {
					t.Fatalf("%v is read as %v, as well", bent, got)
				}
			}
		}
	}
	if read < 5000 || not < 5000 {
		t.Error("read, not read:", read, not)
	}
}

func TestCodesOfWhichTwoBytesAreOthers(t *testing.T) {
	some := []int64{0, 1, 2, 18, 19, 20, 127, 128, 129, 255}
	for _, c := range codesWrittenOut {
		for i := range c.b {
			for j := range c.b[:i] {
				for _, x := range some {
					for _, y := range some {
						bent := slices.Clone(c.b)
						bent[i], bent[j] = x, y
						expectAsDecoded(t, bent)
					}
				}
			}
		}
	}
}

func TestCodesWithAByteLessOrMoreInside(t *testing.T) {
	for _, c := range codedBooks() {
		for i := range c.b {
			expectAsDecoded(t, slices.Delete(slices.Clone(c.b), i, i+1))
			for _, x := range []int64{0, 1, 5, 127, 128, 129, 255} {
				expectAsDecoded(t, slices.Insert(slices.Clone(c.b), i, x))
			}
		}
	}
}

func TestDecodedOfAllShortLists(t *testing.T) {
	pool, lists, read := []int64{0, 1, 2, 5, 18, 19, 20, 127, 128, 255}, [][]int64{{}}, 0
	for range 5 {
		longer := [][]int64{}
		for _, b := range lists {
			for _, x := range pool {
				longer = append(longer, append(slices.Clone(b), x))
			}
		}
		for _, b := range longer {
			if expectAsDecoded(t, b) {
				read++
			}
		}
		lists = longer
	}
	if read < 200 {
		t.Error("read:", read)
	}
}

func TestDecodedOfManyBytes(t *testing.T) {
	for seed := range int64(3000) {
		b := manyBytes(int(seed%90), seed)
		expectAsDecoded(t, b)
		// Small numbers are read for longer.
		for i := range b {
			b[i] %= 4
		}
		expectAsDecoded(t, b)
	}
}

// otherForms are of the number, but none of them is VarOf it; and no number of
// more than MaxVar is one.
func otherForms(n int64) [][]int64 {
	b := numberByHand(n)
	list := [][]int64{}
	for noughts := range 12 {
		longer := slices.Clone(b)
		longer[len(longer)-1] += 128
		longer = append(longer, slices.Repeat([]int64{128}, noughts)...)
		list = append(list, append(longer, 0))
	}
	return list
}

// beyondNumbers are forms of more than MaxVar, some of which are a small number
// where a sum wraps around.
var beyondNumbers = [][]int64{
	{129, 148, 235, 220, 3},
	{128, 148, 235, 220, 4},
	{255, 255, 255, 255, 127},
	{129, 128, 128, 128, 128, 1},
	{129, 128, 128, 128, 128, 128, 128, 128, 128, 2},
	{133, 128, 128, 128, 128, 128, 128, 128, 128, 2},
	{255, 255, 255, 255, 255, 255, 255, 255, 255, 1},
	{129, 128, 128, 128, 128, 128, 128, 128, 128, 128, 128, 128, 1},
	slices.Repeat([]int64{255}, 30),
	slices.Repeat([]int64{128}, 30),
}

// expectEachNumberAs writes each number of each book in the forms that are
// given for it, and all others as they are.
func expectEachNumberAs(t *testing.T, formsOf func(int64) [][]int64) {
	t.Helper()
	for _, c := range codedBooks() {
		numbers := numbersByHand(c.book)
		for i, n := range numbers {
			for _, form := range formsOf(n) {
				expectNotDecoded(t, slices.Concat(written(numbers[:i]), form, written(numbers[i+1:])))
			}
			if got := slices.Concat(written(numbers[:i]), numberByHand(n), written(numbers[i+1:])); !slices.Equal(got, c.b) {
				t.Fatalf("%v is %v", c.b, got)
			}
		}
	}
}

func TestNumbersOfAnotherForm(t *testing.T) {
	expectEachNumberAs(t, otherForms)
}

func TestNumbersBeyondTheGreatest(t *testing.T) {
	expectEachNumberAs(t, func(int64) [][]int64 { return beyondNumbers })
}

func TestCountsThatAreAnotherOne(t *testing.T) {
	for _, c := range codedBooks() {
		numbers := numbersByHand(c.book)
		for n := range int64(300) {
			if n != numbers[0] {
				numbers[0] = n
				expectNotDecoded(t, written(numbers))
				numbers[0] = int64(len(c.book))
			}
		}
		for _, n := range []int64{16383, 16384, 1 << 21, 1<<28 + 1, impl.MaxVar - 1, impl.MaxVar} {
			numbers[0] = n
			expectNotDecoded(t, written(numbers))
		}
	}
	for _, n := range []int64{1, 20, 21, 127, 128, impl.MaxVar} {
		expectNotDecoded(t, numberByHand(n))
	}
}

func TestCountsOfMoreEntriesThanThereAreKeys(t *testing.T) {
	for many := int64(21); many < 1300; many += 77 {
		for _, gap := range []int64{0, 1, 19, 100} {
			numbers := []int64{many}
			for i := range many {
				numbers = append(numbers, gap, 5, 1+i%100)
			}
			expectNotDecoded(t, written(numbers))
			expectNotDecoded(t, written(numbers[:len(numbers)-1]))
			numbers[0] = impl.MaxVar
			expectNotDecoded(t, written(numbers))
		}
	}
}

func TestGapsThatLeadBeyondTheLastKey(t *testing.T) {
	for _, c := range codedBooks() {
		numbers := numbersByHand(c.book)
		key := int64(-1)
		for i := range c.book {
			at := 1 + 3*i
			gap, least := numbers[at], 19-key
			for _, more := range []int64{0, 1, 2, 4, 5, 19, 100, 127, 16384, impl.MaxVar - least} {
				numbers[at] = least + more
				expectNotDecoded(t, written(numbers))
			}
			numbers[at], key = gap, key+1+gap
		}
		expectDecoded(t, written(numbers), c.book)
	}
	for gap := range int64(400) {
		if b := written([]int64{1, gap, 5, 6}); gap < 20 {
			expectDecoded(t, b, []impl.Entry{entry(gap/5, gap%5, 5, 6)})
		} else {
			expectNotDecoded(t, b)
		}
	}
}

func TestTheLastGapLeadsToTheLastKey(t *testing.T) {
	for key := range int64(19) {
		numbers := []int64{2, key, 5, 6, 18 - key, 7, 8}
		expectDecoded(t, written(numbers), []impl.Entry{entry(key/5, key%5, 5, 6), entry(3, 4, 7, 8)})
		numbers[4]++
		expectNotDecoded(t, written(numbers))
	}
	expectNotDecoded(t, []int64{2, 19, 5, 6, 0, 7, 8})
}

func TestAmountsAndDotsThatAreNotRight(t *testing.T) {
	for _, c := range codedBooks() {
		numbers := numbersByHand(c.book)
		for i := range c.book {
			for _, field := range []struct {
				at   int
				most int64
			}{{2 + 3*i, impl.MaxAmount}, {3 + 3*i, impl.MaxDot}} {
				was := numbers[field.at]
				for _, n := range []int64{0, field.most + 1, field.most + 2, field.most + 128, impl.MaxVar - 1, impl.MaxVar} {
					numbers[field.at] = n
					expectNotDecoded(t, written(numbers))
				}
				numbers[field.at] = field.most
				expectAsDecoded(t, written(numbers))
				numbers[field.at] = 1
				expectAsDecoded(t, written(numbers))
				numbers[field.at] = was
			}
		}
	}
	for _, key := range []int64{0, 19} {
		expectNotDecoded(t, []int64{1, key, 0, 1})
		expectNotDecoded(t, []int64{1, key, 1, 0})
		expectDecoded(t, written([]int64{1, key, impl.MaxAmount, impl.MaxDot}), []impl.Entry{entry(key/5, key%5, impl.MaxAmount, impl.MaxDot)})
		expectNotDecoded(t, written([]int64{1, key, impl.MaxAmount + 1, impl.MaxDot}))
		expectNotDecoded(t, written([]int64{1, key, impl.MaxAmount, impl.MaxDot + 1}))
	}
}

func TestDecodedOfTwoAlikeDots(t *testing.T) {
	expectNotDecoded(t, []int64{2, 0, 5, 1, 0, 6, 1})
	expectNotDecoded(t, []int64{2, 0, 5, 1, 3, 6, 1})
	expectNotDecoded(t, []int64{3, 15, 5, 1, 0, 6, 2, 2, 7, 1})
	expectDecoded(t, []int64{2, 4, 5, 1, 0, 6, 1}, []impl.Entry{entry(0, 4, 5, 1), entry(1, 0, 6, 1)})
	expectDecoded(t, []int64{2, 0, 5, 1, 3, 6, 2}, []impl.Entry{entry(0, 0, 5, 1), entry(0, 4, 6, 2)})
}

func TestDecodedOfWhatAreNoBytes(t *testing.T) {
	for _, c := range codedBooks() {
		for i, was := range c.b {
			// Some are the byte that was there, or one that is more, in their low
			// bits.
			for _, x := range append([]int64{was + 256, was - 256, was + 1<<32, -was - 1, was - 128, was + 128}, noBytes...) {
				bent := slices.Clone(c.b)
				bent[i] = x
				if x < 0 || x > 255 {
					expectNotDecoded(t, bent)
				} else {
					expectAsDecoded(t, bent)
				}
			}
		}
		for _, x := range noBytes {
			expectNotDecoded(t, append(slices.Clone(c.b), x))
			expectNotDecoded(t, slices.Concat([]int64{x}, c.b))
		}
	}
	for _, x := range noBytes {
		expectNotDecoded(t, []int64{x})
		expectNotDecoded(t, []int64{x, 0})
		expectNotDecoded(t, []int64{0, x})
	}
}

func TestDecodedOfMoreThanMaxBytes(t *testing.T) {
	for _, many := range []int{impl.MaxBytes - 1, impl.MaxBytes, impl.MaxBytes + 1, impl.MaxBytes + 2, 3 * impl.MaxBytes, 200000} {
		for _, x := range []int64{0, 1, 128, 255} {
			expectNotDecoded(t, slices.Repeat([]int64{x}, many))
		}
		for _, c := range codedBooks() {
			expectNotDecoded(t, append(slices.Clone(c.b), make([]int64, many-len(c.b))...))
			expectNotDecoded(t, append(make([]int64, many-len(c.b)), c.b...))
		}
		numbers := append(numberByHand(int64(many/3)), slices.Repeat([]int64{0, 5, 1}, many/3)...)
		expectNotDecoded(t, numbers)
	}
}

func TestCodesSayTheSameAgain(t *testing.T) {
	for _, c := range codedBooks() {
		bent := append(slices.Clone(c.b), 0)
		for range 3 {
			expectNotDecoded(t, bent)
			expectCoded(t, c.book, c.b)
			expectNotCoded(t, notBooks[3])
			expectNotDecoded(t, []int64{255})
		}
	}
}

func TestCodesLeaveTheirArgumentsAsTheyAre(t *testing.T) {
	for _, book := range slices.Concat(someBooks(), notBooks, [][]impl.Entry{richBook()}) {
		whole, given := withRoom(book)
		before := slices.Clone(whole)
		impl.Encoded(given)
		if !slices.Equal(whole, before) {
			t.Fatalf("written into: %v", before)
		}
	}
	for _, c := range codedBooks() {
		for _, b := range [][]int64{c.b, c.b[:len(c.b)-1], append(slices.Clone(c.b), 0), append(slices.Clone(c.b), 256)} {
			whole, given := vectorWithRoom(b)
			before := slices.Clone(whole)
			impl.Decoded(given)
			if !slices.Equal(whole, before) {
				t.Fatalf("written into: %v", before)
			}
		}
	}
}

func TestEncodedIsNewMemory(t *testing.T) {
	for _, book := range append(someBooks(), richBook(), newerBook()) {
		expectNumbersOfABook(t, book, codeByHand(book), impl.Encoded)
	}
}

func TestDecodedIsNewMemory(t *testing.T) {
	for _, c := range codedBooks() {
		whole, given := vectorWithRoom(c.b)
		before := slices.Clone(whole)
		first, _ := impl.Decoded(given)
		second, _ := impl.Decoded(given)
		// An answer that is longer by now is not seen in the other one.
		first = append(first, entry(3, 2, 1, 0))
		overwrite(first)
		if !slices.Equal(whole, before) || !slices.Equal(second, c.book) {
			t.Fatalf("an answer of Decoded(%v) shares memory", c.b)
		}
		for i := range whole {
			whole[i] = 98
		}
		if !slices.Equal(second, c.book) {
			t.Fatalf("an answer of Decoded(%v) shares memory with it", c.b)
		}
		expectDecoded(t, c.b, c.book)
	}
}
