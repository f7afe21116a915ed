package size_test

import (
	"math"
	"reflect"
	"slices"
	"testing"

	"gloaming/api"
	"gloaming/size"
)

// wrong are numbers of words that no block is of.
var wrong = []int{
	0, -1, -2, -32, -33, -api.PageWords, -api.MaxWords, -1 << 32, math.MinInt + 1, math.MinInt,
	api.MaxWords + 1, api.MaxWords + 2, api.MaxWords + api.PageWords, 1 << 31, 1 << 32, 1<<32 + 5, 1 << 62, math.MaxInt - api.PageWords, math.MaxInt - 1, math.MaxInt,
}

func same(t *testing.T, words, class, block, pages int) {
	t.Helper()
	if got := size.Class(words); got != class {
		t.Errorf("Class(%d): %d, want %d", words, got, class)
	}
	if got := size.Block(words); got != block {
		t.Errorf("Block(%d): %d, want %d", words, got, block)
	}
	if got := size.Pages(words); got != pages {
		t.Errorf("Pages(%d): %d, want %d", words, got, pages)
	}
}

func sameSum(t *testing.T, want int, words ...int) {
	t.Helper()
	if got := size.Sum(words...); got != want {
		t.Errorf("Sum(%v): %d, want %d", words, got, want)
	}
}

// model is the document's words, gone through number by number.
func model(words int) (class, block, pages int) {
	if words < 1 || words > api.MaxWords {
		return -1, 0, 0
	}
	for i, s := range []int{2, 4, 8, 16, 32} {
		if s >= words {
			return i, s, 0
		}
	}
	for block < words {
		block += 64
		pages++
	}
	return -1, block, pages
}

// 4.1

func TestSizes(t *testing.T) {
	if got := size.Sizes(); !slices.Equal(got, []int{2, 4, 8, 16, 32}) {
		t.Errorf("Sizes: %v", got)
	}
}

func TestEachSizeOneBelowAndOneAbove(t *testing.T) {
	same(t, 1, 0, 2, 0)
	same(t, 2, 0, 2, 0)
	same(t, 3, 1, 4, 0)
	same(t, 4, 1, 4, 0)
	same(t, 5, 2, 8, 0)
	same(t, 7, 2, 8, 0)
	same(t, 8, 2, 8, 0)
	same(t, 9, 3, 16, 0)
	same(t, 15, 3, 16, 0)
	same(t, 16, 3, 16, 0)
	same(t, 17, 4, 32, 0)
	same(t, 31, 4, 32, 0)
	same(t, 32, 4, 32, 0)
	same(t, 33, -1, 64, 1)
}

func TestEachMultipleOneBelowAndOneAbove(t *testing.T) {
	for k := 1; k <= 16; k++ {
		same(t, 64*k-1, -1, 64*k, k)
		same(t, 64*k, -1, 64*k, k)
		if k < 16 {
			same(t, 64*k+1, -1, 64*k+64, k+1)
		}
	}
}

func TestMaxWordsAndOneMore(t *testing.T) {
	same(t, api.MaxWords-1, -1, 1024, 16)
	same(t, api.MaxWords, -1, 1024, 16)
	same(t, api.MaxWords+1, -1, 0, 0)
}

func TestWrongNumbersOfWords(t *testing.T) {
	for _, w := range wrong {
		same(t, w, -1, 0, 0)
	}
}

func TestEachNumberOfWords(t *testing.T) {
	for w := -2 * api.MaxWords; w <= 4*api.MaxWords; w++ {
		class, block, pages := model(w)
		same(t, w, class, block, pages)
	}
}

// R3: a list of sizes is its caller's own.

func TestAListOfSizesThatACallerChanges(t *testing.T) {
	first, second := size.Sizes(), size.Sizes()
	for i := range first {
		first[i] = -7
	}
	_ = append(first[:2], 99, 98, 97, 96)
	if !slices.Equal(second, []int{2, 4, 8, 16, 32}) {
		t.Errorf("a list told ahead: %v", second)
	}
	TestSizes(t)
	TestEachSizeOneBelowAndOneAbove(t)
	sameSum(t, 2+4+8+16+32, 1, 3, 5, 9, 17)
}

func TestTheSpareRoomOfAListOfSizesIsItsOwn(t *testing.T) {
	a, b := size.Sizes(), size.Sizes()
	_ = append(a, 64)
	b = append(b, 128)
	_ = append(a, 32)
	if b[5] != 128 {
		t.Errorf("a list that was appended to: %v", b)
	}
	TestSizes(t)
}

// 4.2

func TestSumOfNone(t *testing.T) {
	sameSum(t, 0)
	sameSum(t, 0, nil...)
	sameSum(t, 0, []int{}...)
}

func TestSumOfOneIsItsBlock(t *testing.T) {
	for w := -3; w <= api.MaxWords+3; w++ {
		_, block, _ := model(w)
		sameSum(t, block, w)
	}
	for _, w := range wrong {
		sameSum(t, 0, w)
	}
}

func TestSumOfMany(t *testing.T) {
	sameSum(t, 8+8, 5, 5)
	sameSum(t, 2+4+8+16+32, 2, 4, 8, 16, 32)
	sameSum(t, 4+8+16+32+64, 3, 5, 9, 17, 33)
	sameSum(t, 1024+2+1024, 1024, 1, 961)
	all, want := []int{}, 0
	for w := 1; w <= api.MaxWords; w++ {
		_, block, _ := model(w)
		all, want = append(all, w), want+block
		sameSum(t, want, all...)
	}
	slices.Reverse(all)
	sameSum(t, want, all...)
}

// The sum is of the blocks, not of a block of the sum.
func TestSumAboveMaxWords(t *testing.T) {
	const n = 1 << 16
	sameSum(t, n*1024, slices.Repeat([]int{1000}, n)...)
	sameSum(t, n*2, slices.Repeat([]int{1}, n)...)
}

func TestSumWithWrongOnesAmongRightOnes(t *testing.T) {
	for _, w := range wrong {
		sameSum(t, 8+64, w, 5, 33)
		sameSum(t, 8+64, 5, w, 33)
		sameSum(t, 8+64, 5, 33, w)
		sameSum(t, 8+64, w, w, 5, w, 33, w)
	}
	sameSum(t, 0, wrong...)
	sameSum(t, 8+1024, slices.Concat([]int{5}, wrong, []int{api.MaxWords})...)
}

func TestSumLeavesItsListAlone(t *testing.T) {
	words := []int{9, 0, 3, math.MinInt, 33, math.MaxInt, 1}
	was := slices.Clone(words)
	for range 2 {
		sameSum(t, 16+4+64+2, words...)
	}
	sameSum(t, 16+4, words[:3]...)
	if !slices.Equal(words, was) {
		t.Errorf("a list that was handed in: %v, was %v", words, was)
	}
}

// 4.3

func TestABlockHasRoomForItsWords(t *testing.T) {
	for w := 1; w <= api.MaxWords; w++ {
		if b := size.Block(w); b < w {
			t.Errorf("Block(%d): %d", w, b)
		}
	}
}

// A block is no larger than it must be, so none goes beyond MaxWords, and the
// block of a block is itself.
func TestABlockIsTheLeastThatHasRoom(t *testing.T) {
	blocks := size.Sizes()
	for b := api.PageWords; b <= api.MaxWords; b += api.PageWords {
		blocks = append(blocks, b)
	}
	for w := 1; w <= api.MaxWords; w++ {
		i := slices.IndexFunc(blocks, func(b int) bool { return b >= w })
		if b := size.Block(w); b != blocks[i] || size.Block(b) != b {
			t.Errorf("Block(%d): %d, want %d", w, b, blocks[i])
		}
	}
}

func TestABlockIsOfAClassOrOfPages(t *testing.T) {
	for w := 1; w <= api.MaxWords; w++ {
		class, pages := size.Class(w), size.Pages(w)
		if (class >= 0) == (pages > 0) {
			t.Fatalf("%d words: class %d and %d pages", w, class, pages)
		}
		if class >= 0 && size.Sizes()[class] != size.Block(w) {
			t.Errorf("Block(%d): %d, of class %d", w, size.Block(w), class)
		}
		if pages > 0 && pages*api.PageWords != size.Block(w) {
			t.Errorf("Block(%d): %d, of %d pages", w, size.Block(w), pages)
		}
	}
}

func TestASumHasRoomForAllItsWords(t *testing.T) {
	words, all := []int{}, 0
	for w := 1; w <= api.MaxWords; w += 7 {
		words, all = append(words, w), all+w
		if got := size.Sum(words...); got < all {
			t.Errorf("Sum(1, 8, .., %d): %d, of %d words", w, got, all)
		}
	}
}

// R1: the same calls tell the same.

func TestCallsDoNotTouch(t *testing.T) {
	for range 3 {
		for _, w := range []int{5, 0, 33, 1024, 1025, math.MinInt, 32} {
			class, block, pages := model(w)
			same(t, w, class, block, pages)
		}
	}
}

// Ways

func TestSumIsVariadic(t *testing.T) {
	if of := reflect.TypeOf(size.Sum); !of.IsVariadic() || of.NumIn() != 1 {
		t.Errorf("Sum is %v", of)
	}
}
