package head_test

import (
	"math"
	"testing"

	"gloaming/api"
	"gloaming/head"
)

// The document's numbers, written out.
const (
	kPlain, kRefs, kData, kRef = 1, 2, 3, 4
	soft, weak, phantom        = 1, 2, 3
	refFields                  = 5
	maxFields                  = 1023
	maxClasses                 = 256
)

// far are numbers that are neither a kind, nor a class, nor a length of any head.
var far = []int{-1, -2, -3, -4, -5, -8, -16, -255, -256, -257, -1023, -1024, -65536, 1024, 1025, 4096, 4097, 1 << 16, 1<<16 + 1, 1<<31 - 1, 1 << 31, 1 << 32, 1<<32 + 1, 1<<32 + 5, 1 << 47, 1<<47 + 1, 1 << 48, 1<<48 + 5, 1 << 60, 1<<60 + 1, 1 << 62, -1 << 31, -1 << 32, -1 << 47, -1 << 48, -1<<48 + 5, -1 << 60, -1<<60 + 1, math.MaxInt - 1, math.MaxInt, math.MinInt, math.MinInt + 1, math.MinInt + 5}

// may is the document's words.
func may(h api.Head) bool {
	if h.Kind < kPlain || h.Kind > kRef || h.Len < 0 || h.Len > maxFields {
		return false
	}
	if h.Kind == kPlain {
		return h.Class >= 1 && h.Class <= maxClasses
	}
	if h.Kind == kRef {
		return h.Class >= soft && h.Class <= phantom && h.Len == refFields && !h.Final
	}
	return h.Class == 0
}

// word is the document's words, of a head that may be.
func word(h api.Head) int {
	n := h.Kind + 16*h.Class + 65536*h.Len
	if h.Final {
		n += 8
	}
	return n
}

// every calls f of each head that may be.
func every(f func(h api.Head)) {
	for _, final := range []bool{false, true} {
		for n := range maxFields + 1 {
			for c := range maxClasses {
				f(api.Head{Kind: kPlain, Class: c + 1, Len: n, Final: final})
			}
			f(api.Head{Kind: kRefs, Len: n, Final: final})
			f(api.Head{Kind: kData, Len: n, Final: final})
		}
	}
	for _, c := range []int{soft, weak, phantom} {
		f(api.Head{Kind: kRef, Class: c, Len: refFields})
	}
}

// How many heads may be.
const heads = 2*(maxFields+1)*(maxClasses+2) + 3

func right(t *testing.T, h api.Head, want int) {
	t.Helper()
	if !head.May(h) {
		t.Fatalf("May(%+v): false", h)
	}
	if n, ok := head.Put(h); n != want || !ok {
		t.Fatalf("Put(%+v): %d, %v, want %d", h, n, ok, want)
	}
	if g, ok := head.Get(want); g != h || !ok {
		t.Fatalf("Get(%d): %+v, %v, want %+v", want, g, ok, h)
	}
}

func wrong(t *testing.T, h api.Head) {
	t.Helper()
	if head.May(h) {
		t.Fatalf("May(%+v): true", h)
	}
	if n, ok := head.Put(h); n != 0 || ok {
		t.Fatalf("Put(%+v): %d, %v", h, n, ok)
	}
}

func none(t *testing.T, x int) {
	t.Helper()
	if h, ok := head.Get(x); ok || h != (api.Head{}) {
		t.Fatalf("Get(%d): %+v, %v", x, h, ok)
	}
}

// hold is right or wrong, by the document's words.
func hold(t *testing.T, h api.Head) {
	t.Helper()
	if may(h) {
		right(t, h, word(h))
	} else {
		wrong(t, h)
	}
}

// 8.1

func TestMayOfEachKind(t *testing.T) {
	for _, final := range []bool{false, true} {
		wrong(t, api.Head{Kind: 0, Final: final})
		wrong(t, api.Head{Kind: 0, Class: 1, Final: final})
		wrong(t, api.Head{Kind: 0, Class: 1, Len: refFields, Final: final})
		wrong(t, api.Head{Kind: 5, Final: final})
		wrong(t, api.Head{Kind: 5, Class: 1, Final: final})
		wrong(t, api.Head{Kind: 5, Class: 1, Len: refFields, Final: final})
		right(t, api.Head{Kind: kPlain, Class: 1, Final: final}, word(api.Head{Kind: kPlain, Class: 1, Final: final}))
		right(t, api.Head{Kind: kRefs, Final: final}, word(api.Head{Kind: kRefs, Final: final}))
		right(t, api.Head{Kind: kData, Final: final}, word(api.Head{Kind: kData, Final: final}))
	}
	right(t, api.Head{Kind: kRef, Class: soft, Len: refFields}, 4+16+5*65536)
}

func TestMayOfNoKind(t *testing.T) {
	for _, k := range append([]int{0, 5, 6, 7, 8, 9, 10, 11, 12, 16, 17}, far...) {
		for _, c := range []int{0, 1, 2, 3, maxClasses} {
			for _, n := range []int{0, refFields, maxFields} {
				wrong(t, api.Head{Kind: k, Class: c, Len: n})
				wrong(t, api.Head{Kind: k, Class: c, Len: n, Final: true})
			}
		}
	}
}

func TestMayOfTheLeastAndTheGreatestLen(t *testing.T) {
	for _, h := range []api.Head{{Kind: kPlain, Class: 1}, {Kind: kPlain, Class: maxClasses}, {Kind: kRefs}, {Kind: kData}} {
		for _, final := range []bool{false, true} {
			h.Final = final
			for _, n := range []int{0, 1, maxFields - 1, maxFields} {
				h.Len = n
				right(t, h, word(h))
			}
			for _, n := range append([]int{-1, maxFields + 1}, far...) {
				h.Len = n
				wrong(t, h)
			}
		}
	}
}

func TestMayOfTheClassOfAPlain(t *testing.T) {
	for _, final := range []bool{false, true} {
		for _, n := range []int{0, refFields, maxFields} {
			for _, c := range []int{1, 2, maxClasses - 1, maxClasses} {
				h := api.Head{Kind: kPlain, Class: c, Len: n, Final: final}
				right(t, h, word(h))
			}
			for _, c := range append([]int{0, -1, maxClasses + 1}, far...) {
				wrong(t, api.Head{Kind: kPlain, Class: c, Len: n, Final: final})
			}
		}
	}
}

func TestMayOfTheClassOfWhatHasNone(t *testing.T) {
	for _, k := range []int{kRefs, kData} {
		for _, final := range []bool{false, true} {
			for _, n := range []int{0, refFields, maxFields} {
				h := api.Head{Kind: k, Len: n, Final: final}
				right(t, h, word(h))
				for _, c := range append([]int{1, 2, 3, maxClasses}, far...) {
					wrong(t, api.Head{Kind: k, Class: c, Len: n, Final: final})
				}
			}
		}
	}
}

func TestMayOfAReference(t *testing.T) {
	for _, c := range []int{soft, weak, phantom} {
		right(t, api.Head{Kind: kRef, Class: c, Len: refFields}, 4+16*c+65536*5)
		wrong(t, api.Head{Kind: kRef, Class: c, Len: refFields, Final: true})
		for _, n := range append([]int{0, 1, refFields - 1, refFields + 1, maxFields}, far...) {
			wrong(t, api.Head{Kind: kRef, Class: c, Len: n})
			wrong(t, api.Head{Kind: kRef, Class: c, Len: n, Final: true})
		}
	}
	for _, c := range append([]int{soft - 1, phantom + 1, 5, maxClasses}, far...) {
		wrong(t, api.Head{Kind: kRef, Class: c, Len: refFields})
		wrong(t, api.Head{Kind: kRef, Class: c, Len: refFields, Final: true})
	}
}

// TestEachHeadAboutTheBounds holds May, Put and Get against the document's
// words, of all parts about their bounds, each with each.
func TestEachHeadAboutTheBounds(t *testing.T) {
	lens := []int{-1, 0, 1, 4, 5, 6, 1022, 1023, 1024, 1025}
	classes := []int{-1, 0, 1, 2, 3, 4, 5, 254, 255, 256, 257, 4095, 4096}
	for kind := -1; kind <= 13; kind++ {
		for _, c := range append(classes, far...) {
			for _, n := range append(lens, far...) {
				hold(t, api.Head{Kind: kind, Class: c, Len: n})
				hold(t, api.Head{Kind: kind, Class: c, Len: n, Final: true})
			}
		}
	}
}

// Parts that may not be do not make one another up, though the sum that Put
// would tell is that of a head that may be.
func TestMayOfPartsWhoseSumIsThatOfAHead(t *testing.T) {
	for _, h := range []api.Head{
		{Kind: 3 + 16, Class: -1},
		{Kind: 3 + 65536, Len: -1},
		{Kind: 3 + 8},
		{Kind: 3 - 8, Final: true},
		{Kind: kData, Class: 4096},
		{Kind: kData, Class: 4096, Len: -1},
		{Kind: kPlain, Class: 4097},
		{Kind: kPlain, Class: 1 - 4096, Len: 1},
		{Kind: kRef, Class: 4097, Len: refFields - 1},
		{Kind: kRef, Class: 1 - 4096, Len: refFields + 1},
		{Kind: kData, Class: 1 << 60},
		{Kind: kData, Len: 1 << 48},
		{Kind: kPlain, Class: 1<<60 + 1},
		{Kind: kRef, Class: soft, Len: 1<<48 + refFields},
	} {
		wrong(t, h)
	}
}

// 8.2 Put

func TestPutOfKnownWords(t *testing.T) {
	right(t, api.Head{Kind: kData}, 3)
	right(t, api.Head{Kind: kRefs}, 2)
	right(t, api.Head{Kind: kPlain, Class: 1}, 17)
	right(t, api.Head{Kind: kData, Final: true}, 11)
	right(t, api.Head{Kind: kRefs, Final: true}, 10)
	right(t, api.Head{Kind: kPlain, Class: 1, Final: true}, 25)
	right(t, api.Head{Kind: kPlain, Class: 2}, 33)
	right(t, api.Head{Kind: kPlain, Class: 255}, 4081)
	right(t, api.Head{Kind: kPlain, Class: 256}, 4097)
	right(t, api.Head{Kind: kData, Len: 1}, 65539)
	right(t, api.Head{Kind: kRefs, Len: 2}, 131074)
	right(t, api.Head{Kind: kData, Len: 1023}, 67043331)
	right(t, api.Head{Kind: kRef, Class: soft, Len: 5}, 327700)
	right(t, api.Head{Kind: kRef, Class: weak, Len: 5}, 327716)
	right(t, api.Head{Kind: kRef, Class: phantom, Len: 5}, 327732)
	right(t, api.Head{Kind: kPlain, Class: 256, Len: 1023, Final: true}, 67047433)
}

// Each part adds the same, whatever the others are.
func TestPutOfEachPartByItself(t *testing.T) {
	put := func(h api.Head) int {
		t.Helper()
		n, ok := head.Put(h)
		if !ok {
			t.Fatalf("Put(%+v): false", h)
		}
		return n
	}
	for _, n := range []int{0, 1, 5, 512, 1022} {
		refs := put(api.Head{Kind: kRefs, Len: n})
		if d := put(api.Head{Kind: kData, Len: n}) - refs; d != 1 {
			t.Errorf("Kind adds %d", d)
		}
		if d := put(api.Head{Kind: kRefs, Len: n, Final: true}) - refs; d != 8 {
			t.Errorf("Final adds %d", d)
		}
		if d := put(api.Head{Kind: kRefs, Len: n + 1}) - refs; d != 65536 {
			t.Errorf("Len adds %d", d)
		}
		for c := 1; c < maxClasses; c++ {
			plain := put(api.Head{Kind: kPlain, Class: c, Len: n})
			if d := put(api.Head{Kind: kPlain, Class: c + 1, Len: n}) - plain; d != 16 {
				t.Errorf("Class adds %d", d)
			}
			if d := put(api.Head{Kind: kPlain, Class: c, Len: n, Final: true}) - plain; d != 8 {
				t.Errorf("Final adds %d", d)
			}
		}
	}
}

// 8.2 Get

func TestGetOfNoWord(t *testing.T) {
	for _, x := range []int{
		0, 1, 4, 5, 6, 7, 8, 9, 12, 13, 14, 15, 16, // no kind, no class, or no length
		18, 19, 26, 27, // classes of what has none
		20, 36, 52, // references without fields
		1 + 16*257, 9 + 16*257, 1 + 16*4095, // classes behind the last
		3 + 65536*1024, 2 + 65536*1024, 17 + 65536*1024, // a field more than there may be
		4 + 65536*5, 4 + 64 + 65536*5, // no strength
		4 + 16 + 65536*4, 4 + 16 + 65536*6, // a field less, a field more
		4 + 8 + 16 + 65536*5, 4 + 8 + 32 + 65536*5, 4 + 8 + 48 + 65536*5, // a finalizer of a reference
		5 + 65536, 7 + 16 + 65536*5, 65536, 65544, 65552,
		1 << 26, 1<<26 + 3, 1<<32 + 3, 1<<40 + 17, 1<<62 + 3, math.MaxInt, math.MaxInt - 4, math.MinInt, math.MinInt + 3, math.MinInt + 17,
		-1, -2, -3, -5, -13, -14, -15, -17, -65533, -65536, -65536 + 3, -65536 + 17, -1<<32 + 3,
	} {
		none(t, x)
	}
	for _, x := range far {
		if x < 0 || x >= 1<<26 {
			none(t, x)
		}
	}
}

// TestGetOfEachWord goes through all words up to those that have more fields
// than there may be, and as far below 0.
func TestGetOfEachWord(t *testing.T) {
	found := 0
	for x := range (maxFields + 3) * 65536 {
		h, ok := head.Get(x)
		if ok {
			found++
			if !may(h) || word(h) != x {
				t.Fatalf("Get(%d): %+v", x, h)
			}
		} else if h != (api.Head{}) {
			t.Fatalf("Get(%d): %+v beside false", x, h)
		}
		if h, ok = head.Get(-1 - x); ok || h != (api.Head{}) {
			t.Fatalf("Get(%d): %+v, %v", -1-x, h, ok)
		}
	}
	if found != heads {
		t.Errorf("%d heads, want %d", found, heads)
	}
}

// A word with one bit turned is that of another head, or of none.
func TestGetOfAWordWithOneBitTurned(t *testing.T) {
	for _, h := range []api.Head{
		{Kind: kPlain, Class: 1}, {Kind: kPlain, Class: 1, Final: true}, {Kind: kPlain, Class: 256, Len: 5}, {Kind: kPlain, Class: 255, Len: 1023, Final: true}, {Kind: kPlain, Class: 3, Len: 5},
		{Kind: kRefs}, {Kind: kRefs, Len: 1023}, {Kind: kRefs, Len: 5, Final: true},
		{Kind: kData}, {Kind: kData, Len: 1}, {Kind: kData, Len: 1023, Final: true},
		{Kind: kRef, Class: soft, Len: 5}, {Kind: kRef, Class: weak, Len: 5}, {Kind: kRef, Class: phantom, Len: 5},
	} {
		w, _ := head.Put(h)
		for bit := range 64 {
			x := int(uint64(w) ^ 1<<bit)
			g, ok := head.Get(x)
			if bit >= 26 && ok {
				t.Fatalf("Get(%d), bit %d above those of Len: %+v", x, bit, g)
			}
			if !ok {
				none(t, x)
				continue
			}
			if g == h || !may(g) || word(g) != x {
				t.Fatalf("Get(%d), bit %d of %+v turned: %+v", x, bit, h, g)
			}
		}
	}
	// A few of these that are known.
	for _, c := range []struct {
		x    int
		want api.Head
	}{
		{3 ^ 1, api.Head{Kind: kRefs}},
		{3 ^ 8, api.Head{Kind: kData, Final: true}},
		{3 ^ 1<<16, api.Head{Kind: kData, Len: 1}},
		{3 ^ 1<<25, api.Head{Kind: kData, Len: 512}},
		{17 ^ 1<<5, api.Head{Kind: kPlain, Class: 3}},
		{327700 ^ 1<<5, api.Head{Kind: kRef, Class: phantom, Len: 5}},
	} {
		if h, ok := head.Get(c.x); h != c.want || !ok {
			t.Errorf("Get(%d): %+v, %v, want %+v", c.x, h, ok, c.want)
		}
	}
	for _, x := range []int{3 ^ 1<<4, 3 ^ 1<<15, 3 ^ 1<<26, 3 ^ 1<<62, 3 ^ math.MinInt, 17 ^ 1<<4, 17 ^ 1<<12 ^ 1<<13, 327700 ^ 8, 327700 ^ 1<<4, 327700 ^ 1<<16, 327700 ^ 1<<18, 327700 ^ math.MinInt} {
		none(t, x)
	}
}

// 8.3

func TestGetOfPutIsTheHead(t *testing.T) {
	told := make(map[int]api.Head, heads)
	every(func(h api.Head) {
		if !head.May(h) {
			t.Fatalf("May(%+v): false", h)
		}
		n, ok := head.Put(h)
		if !ok || n != word(h) {
			t.Fatalf("Put(%+v): %d, %v, want %d", h, n, ok, word(h))
		}
		if g, ok := head.Get(n); !ok || g != h {
			t.Fatalf("Get(%d): %+v, %v, want %+v", n, g, ok, h)
		}
		if g, ok := told[n]; ok {
			t.Fatalf("%+v and %+v have one word, %d", g, h, n)
		}
		told[n] = h
	})
	if len(told) != heads {
		t.Errorf("%d words, want %d", len(told), heads)
	}
}

// R1: what was asked ahead is not to be seen.
func TestTheSameCallsTellTheSame(t *testing.T) {
	h := api.Head{Kind: kPlain, Class: 7, Len: 9, Final: true}
	for _, x := range append([]int{0, 3, 17, 327700}, far...) {
		head.Get(x)
		head.Put(api.Head{Kind: x, Class: x, Len: x})
		head.May(api.Head{Kind: kRef, Class: x, Len: refFields})
		right(t, h, 1+8+16*7+65536*9)
	}
}

// The numbers that stand in the document are those of package api.
func TestNumbers(t *testing.T) {
	if api.KPlain != kPlain || api.KRefs != kRefs || api.KData != kData || api.KRef != kRef {
		t.Error("kinds")
	}
	if api.Soft != soft || api.Weak != weak || api.Phantom != phantom {
		t.Error("strengths")
	}
	if api.RefFields != refFields || api.MaxFields != maxFields || api.MaxClasses != maxClasses {
		t.Errorf("%d fields of a reference, %d fields, %d classes", api.RefFields, api.MaxFields, api.MaxClasses)
	}
}
