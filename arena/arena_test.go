package arena_test

import (
	"math"
	"reflect"
	"testing"

	"gloaming/api"
	"gloaming/arena"
)

func made(t *testing.T, pages int) *arena.Arena {
	t.Helper()
	a, e := arena.New(pages)
	if a == nil || e != api.OK {
		t.Fatalf("New(%d): %v, %d", pages, a, e)
	}
	return a
}

// numbered answers an arena whose words are all different and none is 0.
func numbered(t *testing.T, pages int) (*arena.Arena, []int) {
	t.Helper()
	a := made(t, pages)
	want := make([]int, a.Len())
	for at := range want {
		want[at] = -at - 1
		if e := a.Store(at, want[at]); e != api.OK {
			t.Fatalf("Store(%d): %d", at, e)
		}
	}
	return a, want
}

func same(t *testing.T, a *arena.Arena, want []int) {
	t.Helper()
	if a.Len() != len(want) {
		t.Fatalf("Len: %d, want %d", a.Len(), len(want))
	}
	for at, x := range want {
		if got, e := a.Load(at); got != x || e != api.OK {
			t.Fatalf("Load(%d): %d, %d, want %d", at, got, e, x)
		}
	}
}

// 1.1

func TestNewOfEachNumberOfPages(t *testing.T) {
	for pages := 1; pages <= api.MaxPages; pages++ {
		same(t, made(t, pages), make([]int, pages*64))
	}
}

func TestNewRefuses(t *testing.T) {
	wrong := []int{0, -1, -api.MaxPages, api.MaxPages + 1, 1 << 40, 1 << 58, math.MaxInt, math.MinInt}
	for _, pages := range wrong {
		if a, e := arena.New(pages); a != nil || e != api.ErrArg {
			t.Errorf("New(%d): %v, %d", pages, a, e)
		}
	}
}

func TestStoreAndLoadOfEachWord(t *testing.T) {
	for _, pages := range []int{1, 2, api.MaxPages} {
		a, want := numbered(t, pages)
		same(t, a, want)
	}
}

func TestStoreKeepsEveryInt(t *testing.T) {
	a := made(t, 1)
	for _, at := range []int{0, 31, 63} {
		for _, x := range []int{math.MaxInt, math.MinInt, 1 << 32, -1, 1, 0} {
			if e := a.Store(at, x); e != api.OK {
				t.Errorf("Store(%d, %d): %d", at, x, e)
			}
			if got, e := a.Load(at); got != x || e != api.OK {
				t.Errorf("Load(%d): %d, %d, want %d", at, got, e, x)
			}
		}
	}
}

func TestLoadAndStoreWhereThereIsNoWord(t *testing.T) {
	for _, pages := range []int{1, 3, api.MaxPages} {
		a, want := numbered(t, pages)
		n := len(want)
		for _, at := range []int{-1, -n, n, n + 1, 2 * n, 1 << 40, -1 << 40, math.MaxInt, math.MinInt} {
			if x, e := a.Load(at); x != 0 || e != api.ErrNone {
				t.Errorf("Load(%d) of %d words: %d, %d", at, n, x, e)
			}
			if e := a.Store(at, 7); e != api.ErrNone {
				t.Errorf("Store(%d) of %d words: %d", at, n, e)
			}
		}
		same(t, a, want)
	}
}

// 1.2

func TestFillOfEachPiece(t *testing.T) {
	for at := 0; at <= 64; at++ {
		for n := 0; n <= 64-at; n++ {
			a, want := numbered(t, 1)
			clear(want[at : at+n])
			if e := a.Fill(at, n); e != api.OK {
				t.Fatalf("Fill(%d, %d): %d", at, n, e)
			}
			same(t, a, want)
		}
	}
}

func TestFillOfTheMostPages(t *testing.T) {
	const last = api.MaxPages*api.PageWords - 1
	for _, c := range []struct{ at, n int }{{0, 1}, {last, 1}, {64, 64}, {60, 8}, {1, last}, {0, last}, {0, last + 1}} {
		a, want := numbered(t, api.MaxPages)
		clear(want[c.at : c.at+c.n])
		if e := a.Fill(c.at, c.n); e != api.OK {
			t.Errorf("Fill(%d, %d): %d", c.at, c.n, e)
		}
		same(t, a, want)
	}
}

func TestFillOfNoWords(t *testing.T) {
	a, want := numbered(t, 2)
	for _, at := range []int{0, 64, 127, 128, 129, 500, 1 << 40, math.MaxInt} {
		if e := a.Fill(at, 0); e != api.OK {
			t.Errorf("Fill(%d, 0): %d", at, e)
		}
	}
	same(t, a, want)
}

func TestFillRefuses(t *testing.T) {
	a, want := numbered(t, 2)
	for _, c := range []struct {
		at, n int
		e     api.Errno
	}{
		{0, -1, api.ErrArg},
		{0, math.MinInt, api.ErrArg},
		{128, -1, api.ErrArg},
		{math.MaxInt, math.MinInt, api.ErrArg},
		// Both are wrong: n is named first.
		{-1, -1, api.ErrArg},
		{math.MinInt, math.MinInt, api.ErrArg},
		{129, -1, api.ErrArg},
		{-1, 0, api.ErrNone},
		{-1, 1, api.ErrNone},
		{-1, 2, api.ErrNone},
		{-128, 128, api.ErrNone},
		{math.MinInt, 0, api.ErrNone},
		{math.MinInt, 1, api.ErrNone},
		{math.MinInt, math.MaxInt, api.ErrNone},
		{-1, math.MaxInt, api.ErrNone},
		{0, 129, api.ErrNone},
		{1, 128, api.ErrNone},
		{127, 2, api.ErrNone},
		{128, 1, api.ErrNone},
		{500, 1, api.ErrNone},
		{0, math.MaxInt, api.ErrNone},
		{1, math.MaxInt, api.ErrNone},
		{127, math.MaxInt, api.ErrNone},
		{math.MaxInt, 1, api.ErrNone},
		{math.MaxInt, math.MaxInt, api.ErrNone},
	} {
		if e := a.Fill(c.at, c.n); e != c.e {
			t.Errorf("Fill(%d, %d): %d, want %d", c.at, c.n, e, c.e)
		}
	}
	same(t, a, want)
}

// 1.3

// TestLoadTellsWhatWasStoredLast holds an arena against a plain list through
// a long row of stores and fills, right and wrong ones, from a fixed rule.
func TestLoadTellsWhatWasStoredLast(t *testing.T) {
	a := made(t, 2)
	want := make([]int, 128)
	seed := uint64(1)
	next := func(below int) int {
		seed = seed*6364136223846793005 + 1442695040888963407
		return int(seed>>33) % below
	}
	for range 4000 {
		at, n := next(140)-6, next(20)-2
		if next(4) > 0 {
			x := next(1<<20) - 1<<19
			right := at >= 0 && at < 128
			if right {
				want[at] = x
			}
			if e := a.Store(at, x); (e == api.OK) != right {
				t.Fatalf("Store(%d, %d): %d", at, x, e)
			}
		} else {
			right := at >= 0 && n >= 0 && (n == 0 || at+n <= 128)
			if right && n > 0 {
				clear(want[at : at+n])
			}
			if e := a.Fill(at, n); (e == api.OK) != right {
				t.Fatalf("Fill(%d, %d): %d", at, n, e)
			}
		}
		same(t, a, want)
	}
}

func TestStoreAfterFill(t *testing.T) {
	a := made(t, 1)
	for _, at := range []int{0, 63} {
		a.Store(at, 1)
		a.Fill(at, 1)
		a.Store(at, 2)
		if x, e := a.Load(at); x != 2 || e != api.OK {
			t.Errorf("Load(%d): %d, %d", at, x, e)
		}
	}
}

// R5

func TestTwoArenasDoNotTouch(t *testing.T) {
	a, want := numbered(t, 1)
	b := made(t, 1)
	same(t, b, make([]int, 64))
	b.Store(5, 99)
	b.Fill(6, 58)
	same(t, a, want)
}

// Of nil, and of an Arena that New did not make

func TestMethodsOfNil(t *testing.T) {
	var none *arena.Arena
	if n := none.Len(); n != 0 {
		t.Errorf("Len: %d", n)
	}
	for _, at := range []int{0, -1, 1, 64, math.MaxInt, math.MinInt} {
		if x, e := none.Load(at); x != 0 || e != api.ErrNone {
			t.Errorf("Load(%d): %d, %d", at, x, e)
		}
		if e := none.Store(at, 1); e != api.ErrNone {
			t.Errorf("Store(%d): %d", at, e)
		}
		for _, n := range []int{0, 1, -1, math.MaxInt, math.MinInt} {
			if e := none.Fill(at, n); e != api.ErrNone {
				t.Errorf("Fill(%d, %d): %d", at, n, e)
			}
		}
	}
}

func TestArenaWithoutWords(t *testing.T) {
	var a arena.Arena
	if n := a.Len(); n != 0 {
		t.Errorf("Len: %d", n)
	}
	if x, e := a.Load(0); x != 0 || e != api.ErrNone {
		t.Errorf("Load: %d, %d", x, e)
	}
	if e := a.Store(0, 1); e != api.ErrNone {
		t.Errorf("Store: %d", e)
	}
	if e := a.Fill(0, 1); e != api.ErrNone {
		t.Errorf("Fill of a word: %d", e)
	}
	if e := a.Fill(0, 0); e != api.OK {
		t.Errorf("Fill of none: %d", e)
	}
}

// Ways

func TestArenaEmbedsItsWords(t *testing.T) {
	for f := range reflect.TypeFor[arena.Arena]().Fields() {
		if f.Anonymous && f.Type.Kind() == reflect.Struct {
			return
		}
	}
	t.Error("an Arena embeds no struct")
}
