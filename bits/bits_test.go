package bits_test

import (
	"math"
	"reflect"
	"slices"
	"testing"

	"gloaming/api"
	"gloaming/bits"
)

const most = 16384

func made(t *testing.T, n int, at ...int) *bits.Bits {
	t.Helper()
	b, e := bits.New(n)
	if b == nil || e != api.OK {
		t.Fatalf("New(%d): %v, %d", n, b, e)
	}
	if e := b.Set(true, at...); e != api.OK {
		t.Fatalf("Set(true, %v) of %d places: %d", at, n, e)
	}
	return b
}

// ofPattern answers n places of which those are so whose bit of pattern is 1,
// and the same as a plain list.
func ofPattern(t *testing.T, n, pattern int) (*bits.Bits, []bool) {
	t.Helper()
	want := make([]bool, n)
	var at []int
	for i := range want {
		if pattern>>i&1 == 1 {
			want[i] = true
			at = append(at, i)
		}
	}
	return made(t, n, at...), want
}

func same(t *testing.T, b *bits.Bits, want []bool) {
	t.Helper()
	if b.Size() != len(want) {
		t.Fatalf("Size: %d, want %d", b.Size(), len(want))
	}
	count := 0
	for i, is := range want {
		if b.Has(i) != is {
			t.Fatalf("Has(%d): %v", i, !is)
		}
		if is {
			count++
		}
	}
	if b.Count() != count {
		t.Fatalf("Count: %d, want %d", b.Count(), count)
	}
}

// wantNext and wantRun are the document's words, place by place.
func wantNext(so []bool, from int, is bool) int {
	for i := range so {
		if i >= from && so[i] == is {
			return i
		}
	}
	return -1
}

func wantRun(so []bool, from, k int) int {
	if k < 1 {
		return -1
	}
	for i := range so {
		if i >= from && k <= len(so)-i && !slices.Contains(so[i:i+k], true) {
			return i
		}
	}
	return -1
}

func sameFinds(t *testing.T, b *bits.Bits, want []bool, from, k int) {
	t.Helper()
	for _, is := range []bool{true, false} {
		if i, w := b.Next(from, is), wantNext(want, from, is); i != w {
			t.Fatalf("Next(%d, %v) of %v: %d, want %d", from, is, want, i, w)
		}
	}
	if i, w := b.Run(from, k), wantRun(want, from, k); i != w {
		t.Fatalf("Run(%d, %d) of %v: %d, want %d", from, k, want, i, w)
	}
}

// 2.1

func TestNewOfManySizes(t *testing.T) {
	for n := range 200 {
		same(t, made(t, n), make([]bool, n))
	}
	for _, n := range []int{1000, most - 1, most} {
		same(t, made(t, n), make([]bool, n))
	}
}

func TestNewRefuses(t *testing.T) {
	for _, n := range []int{-1, -most, most + 1, 1 << 32, 1 << 40, math.MaxInt, math.MinInt} {
		if b, e := bits.New(n); b != nil || e != api.ErrArg {
			t.Errorf("New(%d): %v, %d", n, b, e)
		}
	}
}

func TestSetOfEachPlaceAlone(t *testing.T) {
	for _, n := range []int{1, 2, 63, 64, 65, 130} {
		for i := range n {
			want := make([]bool, n)
			want[i] = true
			b := made(t, n, i)
			same(t, b, want)
			if e := b.Set(false, i); e != api.OK {
				t.Fatalf("Set(false, %d): %d", i, e)
			}
			same(t, b, make([]bool, n))
		}
	}
}

func TestSetOfTheMostPlaces(t *testing.T) {
	b, want := made(t, most, 0, 8191, most-1), make([]bool, most)
	want[0], want[8191], want[most-1] = true, true, true
	same(t, b, want)

	all := make([]int, most)
	for i := range all {
		all[i], want[i] = i, true
	}
	if e := b.Set(true, all...); e != api.OK {
		t.Fatalf("Set of all: %d", e)
	}
	same(t, b, want)
	if e := b.Set(false, all...); e != api.OK {
		t.Fatalf("Set of none of all: %d", e)
	}
	same(t, b, make([]bool, most))
}

func TestSetOfSeveralPlaces(t *testing.T) {
	b := made(t, 6, 4, 1, 4, 4)
	same(t, b, []bool{false, true, false, false, true, false})
	if e := b.Set(true, 1, 5); e != api.OK {
		t.Errorf("Set of one that is so: %d", e)
	}
	same(t, b, []bool{false, true, false, false, true, true})
	if e := b.Set(false, 5, 0, 1, 5); e != api.OK {
		t.Errorf("Set of one that is not so: %d", e)
	}
	same(t, b, []bool{false, false, false, false, true, false})
}

func TestSetOfNoPlaces(t *testing.T) {
	for n := range 3 {
		b := made(t, n)
		if e := b.Set(true); e != api.OK {
			t.Errorf("Set(true) of %d places: %d", n, e)
		}
		if e := b.Set(false, []int{}...); e != api.OK {
			t.Errorf("Set(false) of %d places: %d", n, e)
		}
		same(t, b, make([]bool, n))
	}
}

func TestSetOfAPlaceThatIsNoneChangesNothing(t *testing.T) {
	for _, n := range []int{0, 1, 5, 64} {
		for _, none := range []int{-1, -n - 1, n, n + 1, 2*n + 1, most, 1 << 32, math.MaxInt, math.MinInt} {
			rows := [][]int{{none}, {none, none}}
			if n > 0 {
				rows = append(rows, []int{none, 0}, []int{0, none}, []int{n - 1, none, 0}, []int{0, n - 1, none})
			}
			for _, at := range rows {
				free, taken := made(t, n), made(t, n)
				all := make([]bool, n)
				for i := range all {
					all[i] = true
					taken.Set(true, i)
				}
				if e := free.Set(true, at...); e != api.ErrNone {
					t.Errorf("Set(true, %v) of %d places: %d", at, n, e)
				}
				same(t, free, make([]bool, n))
				if e := taken.Set(false, at...); e != api.ErrNone {
					t.Errorf("Set(false, %v) of %d places: %d", at, n, e)
				}
				same(t, taken, all)
			}
		}
	}
}

func TestSetLeavesItsListAlone(t *testing.T) {
	b := made(t, 4)
	at := append(make([]int, 0, 8), 3, 1, 3)
	if e := b.Set(true, at...); e != api.OK {
		t.Fatalf("Set: %d", e)
	}
	if !slices.Equal(at[:8], []int{3, 1, 3, 0, 0, 0, 0, 0}) {
		t.Errorf("the list came to %v", at[:8])
	}
	at[0] = 0
	same(t, b, []bool{false, true, false, true})
}

func TestHasWhereThereIsNoPlace(t *testing.T) {
	for _, n := range []int{0, 1, 64, 70} {
		b := made(t, n)
		for i := range n {
			b.Set(true, i)
		}
		for _, i := range []int{-1, -n - 1, n, n + 1, 64 + n, most, 1 << 32, math.MaxInt, math.MinInt} {
			if b.Has(i) {
				t.Errorf("Has(%d) of %d places", i, n)
			}
		}
	}
}

// 2.2, and 2.3: what is found is the first one

func TestFindsOfEachPattern(t *testing.T) {
	for n := range 9 {
		for pattern := range 1 << n {
			b, want := ofPattern(t, n, pattern)
			same(t, b, want)
			for from := -2; from <= n+2; from++ {
				for k := -2; k <= n+2; k++ {
					sameFinds(t, b, want, from, k)
				}
			}
			same(t, b, want)
		}
	}
}

func TestFindsOfTheFurthestNumbers(t *testing.T) {
	far := []int{math.MinInt, math.MinInt + 1, -1 << 32, -1, 0, 1, 4, 5, 1 << 32, math.MaxInt - 1, math.MaxInt}
	for _, n := range []int{0, 1, 5} {
		for _, pattern := range []int{0, 1, 0b10010, 0b11111} {
			b, want := ofPattern(t, n, pattern)
			for _, from := range far {
				for _, k := range far {
					sameFinds(t, b, want, from, k)
				}
			}
		}
	}
}

func TestNextOfTheMostPlaces(t *testing.T) {
	b := made(t, most, 64, most-1)
	for _, c := range []struct {
		from int
		is   bool
		want int
	}{
		{0, true, 64}, {math.MinInt, true, 64}, {64, true, 64}, {65, true, most - 1},
		{most - 1, true, most - 1}, {most, true, -1}, {math.MaxInt, true, -1},
		{0, false, 0}, {-1, false, 0}, {64, false, 65}, {most - 2, false, most - 2},
		{most - 1, false, -1}, {most, false, -1}, {math.MaxInt, false, -1},
	} {
		if i := b.Next(c.from, c.is); i != c.want {
			t.Errorf("Next(%d, %v): %d, want %d", c.from, c.is, i, c.want)
		}
	}
}

func TestRunOfTheMostPlaces(t *testing.T) {
	b := made(t, most)
	for _, c := range []struct{ from, k, want int }{
		{0, most, 0}, {-1, most, 0}, {math.MinInt, most, 0}, {0, most + 1, -1}, {1, most, -1},
		{1, most - 1, 1}, {most - 1, 1, most - 1}, {most - 1, 2, -1}, {most, 1, -1},
		{0, math.MaxInt, -1}, {math.MaxInt, 1, -1}, {math.MaxInt, math.MaxInt, -1},
		{0, 0, -1}, {0, -1, -1}, {0, math.MinInt, -1},
	} {
		if i := b.Run(c.from, c.k); i != c.want {
			t.Errorf("Run(%d, %d): %d, want %d", c.from, c.k, i, c.want)
		}
	}
	b.Set(true, 100, most-101)
	for _, c := range []struct{ from, k, want int }{
		{0, 100, 0}, {1, 100, 101}, {0, 101, 101}, {0, most - 202, 101}, {0, most - 201, -1},
		{102, most - 202, -1}, {most - 150, 100, most - 100}, {most - 150, 101, -1},
	} {
		if i := b.Run(c.from, c.k); i != c.want {
			t.Errorf("Run(%d, %d): %d, want %d", c.from, c.k, i, c.want)
		}
	}
}

func TestCountOfASpread(t *testing.T) {
	b := made(t, most)
	for n := 1; n <= 128; n++ {
		b.Set(true, n*128-1)
		if b.Count() != n {
			t.Fatalf("Count: %d, want %d", b.Count(), n)
		}
	}
	b.Set(false, 127, most-1)
	if b.Count() != 126 {
		t.Errorf("Count: %d, want 126", b.Count())
	}
}

// TestALongRow holds Bits against a plain list through a long row of right
// and wrong calls, from a fixed rule.
func TestALongRow(t *testing.T) {
	b, want := made(t, 130), make([]bool, 130)
	seed := uint64(1)
	next := func(below int) int {
		seed = seed*6364136223846793005 + 1442695040888963407
		return int(seed>>33) % below
	}
	for range 4000 {
		is := next(3) == 0
		at := make([]int, next(6))
		right := true
		for i := range at {
			at[i] = next(134) - 2
			right = right && at[i] >= 0 && at[i] < 130
		}
		if right {
			for _, i := range at {
				want[i] = is
			}
		}
		if e := b.Set(is, at...); e != api.OK && right || e != api.ErrNone && !right {
			t.Fatalf("Set(%v, %v): %d", is, at, e)
		}
		same(t, b, want)
		sameFinds(t, b, want, next(140)-5, next(20)-1)
	}
}

// R5

func TestTwoDoNotTouch(t *testing.T) {
	a, b := made(t, 8, 1, 2), made(t, 8)
	same(t, b, make([]bool, 8))
	b.Set(true, 7, 0)
	b.Set(false, 1)
	same(t, a, []bool{false, true, true, false, false, false, false, false})
}

// Of nil, and of Bits that New did not make

func TestMethodsOfNil(t *testing.T) {
	var none *bits.Bits
	if none.Size() != 0 || none.Count() != 0 {
		t.Errorf("Size, Count: %d, %d", none.Size(), none.Count())
	}
	for _, i := range []int{0, -1, 1, 64, math.MaxInt, math.MinInt} {
		if none.Has(i) {
			t.Errorf("Has(%d)", i)
		}
		for _, is := range []bool{true, false} {
			if x := none.Next(i, is); x != -1 {
				t.Errorf("Next(%d, %v): %d", i, is, x)
			}
			if e := none.Set(is, i); e != api.ErrNone {
				t.Errorf("Set(%v, %d): %d", is, i, e)
			}
			if e := none.Set(is); e != api.ErrNone {
				t.Errorf("Set(%v): %d", is, e)
			}
		}
		for _, k := range []int{0, 1, -1, math.MaxInt, math.MinInt} {
			if x := none.Run(i, k); x != -1 {
				t.Errorf("Run(%d, %d): %d", i, k, x)
			}
		}
	}
}

func TestBitsWithoutPlaces(t *testing.T) {
	var b bits.Bits
	same(t, &b, nil)
	sameFinds(t, &b, nil, 0, 1)
	if b.Has(0) {
		t.Error("Has(0)")
	}
	if e := b.Set(true, 0); e != api.ErrNone {
		t.Errorf("Set of a place: %d", e)
	}
	if e := b.Set(true); e != api.OK {
		t.Errorf("Set of none: %d", e)
	}
}

// Ways

func TestSetIsVariadic(t *testing.T) {
	set := reflect.TypeOf((*bits.Bits).Set)
	if !set.IsVariadic() || set.NumIn() != 3 {
		t.Errorf("Set is %v", set)
	}
}
