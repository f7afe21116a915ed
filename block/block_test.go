package block_test

import (
	"math"
	"reflect"
	"slices"
	"testing"

	"gloaming/api"
	"gloaming/bits"
	"gloaming/block"
	"gloaming/size"
)

// classes are the document's numbers, written out: what a page of each class
// has is not to be asked of the program.
var classes = []struct{ words, many int }{{2, 32}, {4, 16}, {8, 8}, {16, 4}, {32, 2}}

func made(t *testing.T, class int) *block.Page {
	t.Helper()
	p, e := block.New(class)
	if p == nil || e != api.OK {
		t.Fatalf("New(%d): %v, %d", class, p, e)
	}
	return p
}

// full answers a page all of whose blocks are taken.
func full(t *testing.T, class int) *block.Page {
	t.Helper()
	p := made(t, class)
	for i := range classes[class].many {
		take(t, p, i)
	}
	return p
}

// ofPattern answers a page of which those blocks are taken whose bit of
// pattern is 1, and the same as a plain list.
func ofPattern(t *testing.T, class, pattern int) (*block.Page, []bool) {
	t.Helper()
	p, want := full(t, class), all(class, true)
	for i := range want {
		want[i] = pattern>>i&1 == 1
		if !want[i] {
			give(t, p, i)
		}
	}
	same(t, p, class, want)
	return p, want
}

func all(class int, is bool) []bool {
	return slices.Repeat([]bool{is}, classes[class].many)
}

func take(t *testing.T, p *block.Page, want int) {
	t.Helper()
	if i, e := p.Take(); i != want || e != api.OK {
		t.Fatalf("Take: %d, %d, want %d", i, e, want)
	}
}

func refuseTake(t *testing.T, p *block.Page, want api.Errno) {
	t.Helper()
	if i, e := p.Take(); i != 0 || e != want {
		t.Fatalf("Take: %d, %d, want 0, %d", i, e, want)
	}
}

func give(t *testing.T, p *block.Page, i int) {
	t.Helper()
	if e := p.Give(i); e != api.OK {
		t.Fatalf("Give(%d): %d", i, e)
	}
}

func refuseGive(t *testing.T, p *block.Page, i int) {
	t.Helper()
	if e := p.Give(i); e != api.ErrNone {
		t.Fatalf("Give(%d): %d", i, e)
	}
}

func same(t *testing.T, p *block.Page, class int, want []bool) {
	t.Helper()
	if p.Size() != len(want) || p.Words() != classes[class].words {
		t.Fatalf("Size, Words of class %d: %d, %d", class, p.Size(), p.Words())
	}
	for i, is := range want {
		if p.Has(i) != is {
			t.Fatalf("Has(%d): %v of %v", i, !is, want)
		}
	}
	if p.Empty() == slices.Contains(want, true) {
		t.Fatalf("Empty: %v of %v", p.Empty(), want)
	}
	if p.Full() == slices.Contains(want, false) {
		t.Fatalf("Full: %v of %v", p.Full(), want)
	}
}

// sameTake and sameGive hold a call against the document's words, of a plain
// list.
func sameTake(t *testing.T, p *block.Page, class int, want []bool) {
	t.Helper()
	if i := slices.Index(want, false); i < 0 {
		refuseTake(t, p, api.ErrFull)
	} else {
		take(t, p, i)
		want[i] = true
	}
	same(t, p, class, want)
}

func sameGive(t *testing.T, p *block.Page, class int, want []bool, i int) {
	t.Helper()
	if i < 0 || i >= len(want) || !want[i] {
		refuseGive(t, p, i)
	} else {
		give(t, p, i)
		want[i] = false
	}
	same(t, p, class, want)
}

// wrongPlaces are places that a page of the class does not have.
func wrongPlaces(class int) []int {
	n := classes[class].many
	return []int{-1, -2, -n, n, n + 1, 2 * n, api.PageWords, 1 << 32, -1 << 32, math.MaxInt - 1, math.MaxInt, math.MinInt, math.MinInt + 1}
}

// 5.1

func TestNewOfEachClass(t *testing.T) {
	for c := range classes {
		same(t, made(t, c), c, all(c, false))
	}
	if n := len(size.Sizes()); n != len(classes) {
		t.Errorf("%d sizes", n)
	}
}

func TestNewRefuses(t *testing.T) {
	for _, c := range []int{-1, -2, -5, 5, 6, 32, 64, 1 << 32, 1<<32 + 1, -1 << 32, math.MaxInt - 1, math.MaxInt, math.MinInt, math.MinInt + 1} {
		if p, e := block.New(c); p != nil || e != api.ErrArg {
			t.Errorf("New(%d): %v, %d", c, p, e)
		}
	}
}

func TestTheBlocksFillThePage(t *testing.T) {
	for c := range classes {
		p := made(t, c)
		if n := p.Words() * p.Size(); n != api.PageWords {
			t.Errorf("class %d: %d words in all", c, n)
		}
	}
}

func TestTakeOneByOneUntilAllAreTaken(t *testing.T) {
	for c := range classes {
		p, want := made(t, c), all(c, false)
		for i := range want {
			take(t, p, i)
			want[i] = true
			same(t, p, c, want)
		}
		for range 3 {
			refuseTake(t, p, api.ErrFull)
			same(t, p, c, want)
		}
	}
}

func TestGiveOneByOneUntilNoneIsTaken(t *testing.T) {
	for c := range classes {
		p, want := full(t, c), all(c, true)
		for i := len(want) - 1; i >= 0; i-- {
			give(t, p, i)
			want[i] = false
			same(t, p, c, want)
		}
		take(t, p, 0)
	}
}

func TestGiveOfEachPlaceOfAFullPage(t *testing.T) {
	for c := range classes {
		for i := range classes[c].many {
			p, want := full(t, c), all(c, true)
			give(t, p, i)
			want[i] = false
			same(t, p, c, want)
		}
	}
}

func TestGiveOfNoPlace(t *testing.T) {
	for c := range classes {
		for _, i := range wrongPlaces(c) {
			p := full(t, c)
			refuseGive(t, p, i)
			same(t, p, c, all(c, true))
			p = made(t, c)
			refuseGive(t, p, i)
			same(t, p, c, all(c, false))
		}
	}
}

func TestGiveOfWhatIsNotTaken(t *testing.T) {
	for c := range classes {
		p, want := made(t, c), all(c, false)
		for i := range want {
			refuseGive(t, p, i)
			same(t, p, c, want)
		}
		take(t, p, 0)
		want[0] = true
		for i := 1; i < len(want); i++ {
			refuseGive(t, p, i)
			same(t, p, c, want)
		}
	}
}

func TestGiveTwice(t *testing.T) {
	for c := range classes {
		for i := range classes[c].many {
			p, want := full(t, c), all(c, true)
			give(t, p, i)
			want[i] = false
			refuseGive(t, p, i)
			same(t, p, c, want)
			take(t, p, i)
			give(t, p, i)
			refuseGive(t, p, i)
			same(t, p, c, want)
		}
	}
}

func TestEachPattern(t *testing.T) {
	for c := range classes {
		n := classes[c].many
		if n > 8 {
			continue
		}
		for pattern := range 1 << n {
			p, want := ofPattern(t, c, pattern)
			sameTake(t, p, c, want)
			for i := -2; i <= n+2; i++ {
				p, want := ofPattern(t, c, pattern)
				sameGive(t, p, c, want, i)
			}
		}
	}
}

// 5.2

func TestWhatIsGivenIsTakenNext(t *testing.T) {
	for c := range classes {
		for i := range classes[c].many {
			p := full(t, c)
			give(t, p, i)
			take(t, p, i)
			refuseTake(t, p, api.ErrFull)
			same(t, p, c, all(c, true))
		}
	}
}

// A place given ahead of the ones that were never taken comes ahead of them.
func TestWhatIsGivenInAPageWithSomeLeft(t *testing.T) {
	for c := range classes {
		n := classes[c].many
		for taken := 1; taken < n; taken++ {
			for i := range taken {
				p := made(t, c)
				for at := range taken {
					take(t, p, at)
				}
				give(t, p, i)
				take(t, p, i)
				take(t, p, taken)
			}
		}
	}
}

func TestTheFirstOfTwoThatAreGivenIsTakenFirst(t *testing.T) {
	for c := range classes {
		n := classes[c].many
		for i := range n {
			for j := range n {
				if i == j {
					continue
				}
				p := full(t, c)
				give(t, p, i)
				give(t, p, j)
				take(t, p, min(i, j))
				take(t, p, max(i, j))
				refuseTake(t, p, api.ErrFull)
			}
		}
	}
}

// TestALongRow holds a page of each class against a plain list through a long
// row of right and wrong calls, from a fixed rule.
func TestALongRow(t *testing.T) {
	seed := uint64(1)
	next := func(below int) int {
		seed = seed*6364136223846793005 + 1442695040888963407
		return int(seed>>33) % below
	}
	for c := range classes {
		p, want := made(t, c), all(c, false)
		for range 3000 {
			if next(2) == 0 {
				sameTake(t, p, c, want)
			} else {
				sameGive(t, p, c, want, next(len(want)+4)-2)
			}
		}
	}
}

// The methods of the Bits

func TestWhatIsSetIsTaken(t *testing.T) {
	p := made(t, 2)
	if e := p.Set(true, 0, 1, 3, 7); e != api.OK {
		t.Fatalf("Set: %d", e)
	}
	want := []bool{true, true, false, true, false, false, false, true}
	same(t, p, 2, want)
	if p.Count() != 4 || p.Next(2, true) != 3 || p.Run(0, 2) != 4 {
		t.Errorf("Count, Next, Run: %d, %d, %d", p.Count(), p.Next(2, true), p.Run(0, 2))
	}
	sameTake(t, p, 2, want)
	sameGive(t, p, 2, want, 7)
	sameTake(t, p, 2, want)
}

// R5

func TestTwoDoNotTouch(t *testing.T) {
	for c := range classes {
		a, b := made(t, c), made(t, c)
		take(t, a, 0)
		same(t, b, c, all(c, false))
		refuseGive(t, b, 0)
		for i := range classes[c].many {
			take(t, b, i)
		}
		want := all(c, false)
		want[0] = true
		same(t, a, c, want)
		give(t, a, 0)
		same(t, b, c, all(c, true))
	}
	for a := range classes {
		for b := range classes {
			p, q := full(t, a), made(t, b)
			same(t, p, a, all(a, true))
			same(t, q, b, all(b, false))
		}
	}
}

// Of nil, and of a Page that New did not make

func TestMethodsOfNil(t *testing.T) {
	var none *block.Page
	if none.Words() != 0 || none.Empty() || none.Full() {
		t.Errorf("Words, Empty, Full: %d, %v, %v", none.Words(), none.Empty(), none.Full())
	}
	refuseTake(t, none, api.ErrNone)
	for _, i := range append(wrongPlaces(0), 0, 1) {
		refuseGive(t, none, i)
	}
}

func TestAPageWithoutBits(t *testing.T) {
	var p block.Page
	if p.Words() != 0 || !p.Empty() || !p.Full() {
		t.Errorf("Words, Empty, Full: %d, %v, %v", p.Words(), p.Empty(), p.Full())
	}
	refuseTake(t, &p, api.ErrFull)
	refuseGive(t, &p, 0)
}

// Ways

func TestPageEmbedsBits(t *testing.T) {
	of := reflect.TypeFor[block.Page]()
	f, ok := of.FieldByName("Bits")
	if !ok || !f.Anonymous || f.Type != reflect.TypeFor[*bits.Bits]() {
		t.Errorf("Bits is %v", f)
	}
	p := made(t, 3)
	take(t, p, 0)
	take(t, p, 1)
	give(t, p, 0)
	if p.Bits.Count() != 1 || !p.Bits.Has(1) || p.Bits.Has(0) {
		t.Error("what is so is not what is taken")
	}
}
