package pages_test

import (
	"math"
	"reflect"
	"slices"
	"testing"

	"gloaming/api"
	"gloaming/bits"
	"gloaming/pages"
)

func made(t *testing.T, n int) *pages.Pages {
	t.Helper()
	p, e := pages.New(n)
	if p == nil || e != api.OK {
		t.Fatalf("New(%d): %v, %d", n, p, e)
	}
	return p
}

// ofPattern answers n pages of which, beside page 0, those are taken whose
// bit of pattern is 1, and the same as a plain list.
func ofPattern(t *testing.T, n, pattern int) (*pages.Pages, []bool) {
	t.Helper()
	p, want := made(t, n), make([]bool, n)
	want[0] = true
	if n > 1 {
		take(t, p, n-1, 1)
	}
	for i := 1; i < n; i++ {
		want[i] = pattern>>(i-1)&1 == 1
		if !want[i] {
			give(t, p, i, 1)
		}
	}
	same(t, p, want)
	return p, want
}

func take(t *testing.T, p *pages.Pages, k, want int) {
	t.Helper()
	if at, e := p.Take(k); at != want || e != api.OK {
		t.Fatalf("Take(%d): %d, %d, want %d", k, at, e, want)
	}
}

func refuseTake(t *testing.T, p *pages.Pages, k int, want api.Errno) {
	t.Helper()
	if at, e := p.Take(k); at != 0 || e != want {
		t.Fatalf("Take(%d): %d, %d, want 0, %d", k, at, e, want)
	}
}

func give(t *testing.T, p *pages.Pages, at, k int) {
	t.Helper()
	if e := p.Give(at, k); e != api.OK {
		t.Fatalf("Give(%d, %d): %d", at, k, e)
	}
}

func refuseGive(t *testing.T, p *pages.Pages, at, k int, want api.Errno) {
	t.Helper()
	if e := p.Give(at, k); e != want {
		t.Fatalf("Give(%d, %d): %d, want %d", at, k, e, want)
	}
}

func same(t *testing.T, p *pages.Pages, want []bool) {
	t.Helper()
	if p.Size() != len(want) {
		t.Fatalf("Size: %d, want %d", p.Size(), len(want))
	}
	left := 0
	for i, is := range want {
		if p.Has(i) != is {
			t.Fatalf("Has(%d): %v", i, !is)
		}
		if !is {
			left++
		}
	}
	if p.Left() != left || p.Count() != len(want)-left {
		t.Fatalf("Left, Count: %d, %d of %v", p.Left(), p.Count(), want)
	}
}

// fresh is what New makes, as a plain list.
func fresh(n int) []bool {
	want := make([]bool, n)
	want[0] = true
	return want
}

// mark sets k pages from at on, which there are.
func mark(taken []bool, at, k int, is bool) {
	for i := range k {
		taken[at+i] = is
	}
}

// modelTake and modelGive are the document's words, of a plain list.
func modelTake(taken []bool, k int) (int, api.Errno) {
	if k < 1 {
		return 0, api.ErrArg
	}
	for at := range taken {
		if k <= len(taken)-at && !slices.Contains(taken[at:at+k], true) {
			mark(taken, at, k, true)
			return at, api.OK
		}
	}
	return 0, api.ErrFull
}

func modelGive(taken []bool, at, k int) api.Errno {
	if k < 1 || at < 1 {
		return api.ErrArg
	}
	if at >= len(taken) || k > len(taken)-at || slices.Contains(taken[at:at+k], false) {
		return api.ErrNone
	}
	mark(taken, at, k, false)
	return api.OK
}

func sameTake(t *testing.T, p *pages.Pages, want []bool, k int) {
	t.Helper()
	was := slices.Clone(want)
	wantAt, wantE := modelTake(want, k)
	if at, e := p.Take(k); at != wantAt || e != wantE {
		t.Fatalf("Take(%d) of %v: %d, %d, want %d, %d", k, was, at, e, wantAt, wantE)
	}
	same(t, p, want)
}

func sameGive(t *testing.T, p *pages.Pages, want []bool, at, k int) {
	t.Helper()
	was := slices.Clone(want)
	wantE := modelGive(want, at, k)
	if e := p.Give(at, k); e != wantE {
		t.Fatalf("Give(%d, %d) of %v: %d, want %d", at, k, was, e, wantE)
	}
	same(t, p, want)
}

// 3.1

func TestNewOfEachSize(t *testing.T) {
	for n := 1; n <= api.MaxPages; n++ {
		same(t, made(t, n), fresh(n))
	}
}

func TestNewRefuses(t *testing.T) {
	for _, n := range []int{0, -1, -api.MaxPages, api.MaxPages + 1, 16384, 16385, 1 << 32, math.MaxInt, math.MinInt} {
		if p, e := pages.New(n); p != nil || e != api.ErrArg {
			t.Errorf("New(%d): %v, %d", n, p, e)
		}
	}
}

func TestTakeOfOnePage(t *testing.T) {
	p := made(t, 1)
	for _, k := range []int{1, 2, api.MaxPages, math.MaxInt} {
		refuseTake(t, p, k, api.ErrFull)
	}
	for _, k := range []int{0, -1, math.MinInt} {
		refuseTake(t, p, k, api.ErrArg)
	}
	same(t, p, []bool{true})
}

func TestTakeOneByOneUntilNoneIsLeft(t *testing.T) {
	p, want := made(t, api.MaxPages), fresh(api.MaxPages)
	for at := 1; at < api.MaxPages; at++ {
		take(t, p, 1, at)
		want[at] = true
		same(t, p, want)
	}
	refuseTake(t, p, 1, api.ErrFull)
	same(t, p, want)
}

func TestTakeOfAsManyAsAreLeftAndOneMore(t *testing.T) {
	for n := 2; n <= api.MaxPages; n++ {
		p := made(t, n)
		refuseTake(t, p, n, api.ErrFull)
		same(t, p, fresh(n))
		take(t, p, n-1, 1)
		same(t, p, slices.Repeat([]bool{true}, n))
		refuseTake(t, p, 1, api.ErrFull)
	}
}

func TestTakeRefuses(t *testing.T) {
	p := made(t, 10)
	take(t, p, 2, 1)
	want := fresh(10)
	mark(want, 1, 2, true)
	for _, k := range []int{0, -1, -10, math.MinInt, math.MinInt + 1} {
		refuseTake(t, p, k, api.ErrArg)
		same(t, p, want)
	}
	for _, k := range []int{8, 9, 10, 11, api.MaxPages, 1 << 32, 1 << 62, math.MaxInt - 1, math.MaxInt} {
		refuseTake(t, p, k, api.ErrFull)
		same(t, p, want)
	}
	take(t, p, 7, 3)
	refuseTake(t, p, 0, api.ErrArg)
}

func TestTakeOfHolesThatAreTooSmallEach(t *testing.T) {
	p, want := ofPattern(t, 9, 0b00100100)
	if p.Left() != 6 {
		t.Fatalf("Left: %d", p.Left())
	}
	for k := 3; k <= 6; k++ {
		refuseTake(t, p, k, api.ErrFull)
		same(t, p, want)
	}
	take(t, p, 2, 1)
	take(t, p, 1, 4)
	take(t, p, 2, 7)
	take(t, p, 1, 5)
	refuseTake(t, p, 1, api.ErrFull)
}

func TestTakeIsOfTheFirstOnesSideBySide(t *testing.T) {
	p, _ := ofPattern(t, 12, 0b00000100010)
	// not taken: 1, then 3 to 5, then 7 to 11
	take(t, p, 4, 7)
	take(t, p, 2, 3)
	take(t, p, 1, 1)
	take(t, p, 1, 5)
	take(t, p, 1, 11)
	same(t, p, slices.Repeat([]bool{true}, 12))
}

func TestTakeOfEachPattern(t *testing.T) {
	for n := 1; n <= 8; n++ {
		for pattern := range 1 << (n - 1) {
			for k := -2; k <= n+2; k++ {
				p, want := ofPattern(t, n, pattern)
				sameTake(t, p, want, k)
			}
		}
	}
}

// 3.2

func TestGiveOfEachPattern(t *testing.T) {
	for n := 1; n <= 7; n++ {
		for pattern := range 1 << (n - 1) {
			for at := -2; at <= n+2; at++ {
				for k := -2; k <= n+2; k++ {
					p, want := ofPattern(t, n, pattern)
					sameGive(t, p, want, at, k)
				}
			}
		}
	}
}

func TestGiveOfFarNumbers(t *testing.T) {
	far := []int{math.MinInt, math.MinInt + 1, -1 << 32, -1, 0, 1 << 32, 1 << 62, math.MaxInt - 1, math.MaxInt}
	near := []int{1, 2, 4, 5, 6}
	for _, a := range far {
		for _, b := range slices.Concat(far, near) {
			p, want := ofPattern(t, 6, 0b11111)
			sameGive(t, p, want, a, b)
			sameGive(t, p, want, b, a)
		}
	}
}

func TestGiveOfPageZero(t *testing.T) {
	for _, n := range []int{1, 2, api.MaxPages} {
		p := made(t, n)
		for _, k := range []int{1, 2, n, math.MaxInt, 0, -1} {
			refuseGive(t, p, 0, k, api.ErrArg)
		}
		same(t, p, fresh(n))
	}
}

// What is no number of pages, or no page to give, comes ahead of what is not taken.
func TestGiveNamesErrArgFirst(t *testing.T) {
	p := made(t, 5)
	for _, at := range []int{1, 4, 5, 6, math.MaxInt} {
		refuseGive(t, p, at, 0, api.ErrArg)
		refuseGive(t, p, at, -1, api.ErrArg)
		refuseGive(t, p, at, math.MinInt, api.ErrArg)
		refuseGive(t, p, at, 1, api.ErrNone)
	}
	for _, at := range []int{0, -1, math.MinInt} {
		refuseGive(t, p, at, 1, api.ErrArg)
		refuseGive(t, p, at, math.MaxInt, api.ErrArg)
	}
	same(t, p, fresh(5))
}

func TestGiveOfPagesOfWhichOneIsNotTakenChangesNothing(t *testing.T) {
	for hole := 1; hole <= 5; hole++ {
		p := made(t, 7)
		take(t, p, 6, 1)
		give(t, p, hole, 1)
		want := slices.Repeat([]bool{true}, 7)
		want[hole] = false
		refuseGive(t, p, 1, 5, api.ErrNone)
		same(t, p, want)
		refuseGive(t, p, hole, 1, api.ErrNone)
		same(t, p, want)
	}
}

func TestGiveOfPagesOfWhichOneIsNoneChangesNothing(t *testing.T) {
	for _, n := range []int{1, 2, 10, api.MaxPages} {
		p, all := made(t, n), slices.Repeat([]bool{true}, n)
		if n > 1 {
			take(t, p, n-1, 1)
		}
		for at := 1; at <= n+1; at++ {
			for _, k := range []int{n - at + 1, n + 1, math.MaxInt - at, math.MaxInt} {
				refuseGive(t, p, at, max(k, 1), api.ErrNone)
			}
		}
		same(t, p, all)
	}
}

func TestGiveOfAPartOfWhatWasTaken(t *testing.T) {
	p, want := made(t, 10), fresh(10)
	take(t, p, 4, 1)
	take(t, p, 3, 5)
	mark(want, 1, 7, true)
	give(t, p, 3, 3)
	mark(want, 3, 3, false)
	same(t, p, want)
}

func TestLeftOfTheMostPages(t *testing.T) {
	p := made(t, api.MaxPages)
	for n := 1; n < api.MaxPages; n++ {
		if p.Left() != api.MaxPages-n {
			t.Fatalf("Left: %d, want %d", p.Left(), api.MaxPages-n)
		}
		take(t, p, 1, n)
	}
	if p.Left() != 0 {
		t.Errorf("Left: %d", p.Left())
	}
	give(t, p, 1, api.MaxPages-1)
	if p.Left() != api.MaxPages-1 {
		t.Errorf("Left: %d", p.Left())
	}
}

// 3.3

func TestWhatIsGivenCanBeTaken(t *testing.T) {
	const n = 24
	for at := 1; at < n; at++ {
		for k := 1; k <= n-at; k++ {
			p := made(t, n)
			take(t, p, n-1, 1)
			give(t, p, at, k)
			refuseTake(t, p, k+1, api.ErrFull)
			take(t, p, k, at)
			same(t, p, slices.Repeat([]bool{true}, n))
		}
	}
}

func TestWhatIsGivenBesideAnotherOneIsTakenAsOne(t *testing.T) {
	for _, order := range [][3]int{{2, 4, 6}, {2, 6, 4}, {4, 2, 6}, {4, 6, 2}, {6, 2, 4}, {6, 4, 2}} {
		p := made(t, 10)
		take(t, p, 9, 1)
		for _, at := range order {
			refuseTake(t, p, 6, api.ErrFull)
			give(t, p, at, 2)
		}
		refuseTake(t, p, 7, api.ErrFull)
		take(t, p, 6, 2)
		refuseTake(t, p, 1, api.ErrFull)
	}
}

func TestWhatIsGivenIsNotGivenTwice(t *testing.T) {
	p := made(t, 8)
	take(t, p, 3, 1)
	give(t, p, 1, 3)
	refuseGive(t, p, 1, 3, api.ErrNone)
	take(t, p, 3, 1)
	give(t, p, 1, 3)
	same(t, p, fresh(8))
}

// TestALongRow holds Pages against a plain list through a long row of right
// and wrong calls, from a fixed rule.
func TestALongRow(t *testing.T) {
	const n = 40
	p, want := made(t, n), fresh(n)
	seed := uint64(1)
	next := func(below int) int {
		seed = seed*6364136223846793005 + 1442695040888963407
		return int(seed>>33) % below
	}
	for range 6000 {
		if next(2) == 0 {
			sameTake(t, p, want, next(8)-1)
		} else {
			sameGive(t, p, want, next(n+4)-2, next(6)-1)
		}
	}
}

// The methods of the Bits

func TestWhatIsSetIsTaken(t *testing.T) {
	p := made(t, 6)
	if e := p.Set(true, 2, 5); e != api.OK {
		t.Fatalf("Set: %d", e)
	}
	same(t, p, []bool{true, false, true, false, false, true})
	if i := p.Next(1, true); i != 2 {
		t.Errorf("Next: %d", i)
	}
	if i := p.Run(0, 2); i != 3 {
		t.Errorf("Run: %d", i)
	}
	take(t, p, 2, 3)
	give(t, p, 2, 2)
	same(t, p, []bool{true, false, false, false, true, true})
}

// Page 0 is one that can be taken once Set says that it is not.
func TestTakeOfPageZeroOnceItIsNotTaken(t *testing.T) {
	p := made(t, 3)
	if e := p.Set(false, 0); e != api.OK {
		t.Fatalf("Set: %d", e)
	}
	if p.Left() != 3 {
		t.Errorf("Left: %d", p.Left())
	}
	refuseTake(t, p, 4, api.ErrFull)
	take(t, p, 3, 0)
	refuseGive(t, p, 0, 3, api.ErrArg)
	same(t, p, []bool{true, true, true})
}

// R5

func TestTwoDoNotTouch(t *testing.T) {
	a, b := made(t, 8), made(t, 8)
	take(t, a, 3, 1)
	same(t, b, fresh(8))
	take(t, b, 7, 1)
	give(t, b, 2, 1)
	same(t, a, []bool{true, true, true, true, false, false, false, false})
}

// Of nil, and of Pages that New did not make

func TestMethodsOfNil(t *testing.T) {
	var none *pages.Pages
	if none.Left() != 0 {
		t.Errorf("Left: %d", none.Left())
	}
	for _, k := range []int{1, 0, -1, math.MaxInt, math.MinInt} {
		refuseTake(t, none, k, api.ErrNone)
		for _, at := range []int{1, 0, -1, math.MaxInt, math.MinInt} {
			refuseGive(t, none, at, k, api.ErrNone)
		}
	}
}

func TestPagesWithoutBits(t *testing.T) {
	var p pages.Pages
	same(t, &p, nil)
	refuseTake(t, &p, 0, api.ErrArg)
	refuseTake(t, &p, 1, api.ErrFull)
	refuseGive(t, &p, 1, 0, api.ErrArg)
	refuseGive(t, &p, 1, 1, api.ErrNone)
}

// Ways

func TestPagesEmbedsBits(t *testing.T) {
	of := reflect.TypeFor[pages.Pages]()
	f, ok := of.FieldByName("Bits")
	if !ok || !f.Anonymous || f.Type != reflect.TypeFor[*bits.Bits]() {
		t.Errorf("Bits is %v", f)
	}
	if of.NumField() != 1 {
		t.Errorf("%d fields", of.NumField())
	}
	p := made(t, 4)
	take(t, p, 2, 1)
	if p.Bits.Count() != 3 || !p.Bits.Has(2) || p.Bits.Has(3) {
		t.Error("what is so is not what is taken")
	}
}
