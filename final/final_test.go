package final_test

import (
	"math"
	"reflect"
	"slices"
	"testing"

	"gloaming/api"
	"gloaming/final"
	"gloaming/object"
)

const refFields = 5

var strengths = []int{api.Soft, api.Weak, api.Phantom}

// far are numbers at which no object of these tests begins.
var far = []int{0, 1, 2, 63, 65, -1, -2, -63, -64, -65, -128, 16384, 16448, 1 << 31, 1 << 32, 1<<32 + 64, 1<<32 + 128, -1 << 32, -1<<32 + 64, 1 << 62, 1<<62 + 64, math.MaxInt - 63, math.MaxInt - 1, math.MaxInt, math.MinInt, math.MinInt + 1, math.MinInt + 64}

// noPlaces are numbers that are no place of what is pending, however much is.
var noPlaces = []int{-1, -2, -3, -8, -64, 1 << 14, 1 << 31, 1<<31 + 1, -1 << 31, 1 << 32, 1<<32 + 1, -1 << 32, -1<<32 + 1, 1 << 40, 1 << 62, math.MaxInt - 1, math.MaxInt, math.MinInt, math.MinInt + 1, math.MinInt + 2}

// model is the document's words: all objects, who is awaited, what is pending.
type model struct {
	objs    []api.Obj // by address
	finals  []int
	pending []int
}

func (m *model) place(at int) int {
	return slices.IndexFunc(m.objs, func(o api.Obj) bool { return o.At == at })
}

// final is what Final (9) tells and does.
func (m *model) final(at int) api.Errno {
	i := m.place(at)
	switch {
	case i < 0:
		return api.ErrNone
	case m.objs[i].Head.Kind == api.KRef:
		return api.ErrKind
	case m.objs[i].Head.Final:
		return api.ErrHave
	}
	m.objs[i].Head.Final = true
	return api.OK
}

func (m *model) await(at int) api.Errno {
	e := m.final(at)
	if e == api.OK {
		m.finals = append(m.finals, at)
	}
	return e
}

func (m *model) pend(at ...int) {
	for _, x := range at {
		if i := slices.Index(m.finals, x); i >= 0 {
			m.finals = without(m.finals, i)
			m.pending = append(m.pending, x)
		}
	}
}

func (m *model) take(i int) (int, api.Errno) {
	for k, at := range m.pending {
		if k == i {
			m.pending = without(m.pending, k)
			return at, api.OK
		}
	}
	return 0, api.ErrArg
}

// without answers a row of all but the one at a place.
func without(row []int, i int) []int {
	var rest []int
	for k, x := range row {
		if k != i {
			rest = append(rest, x)
		}
	}
	return rest
}

// pair is finals beside their model, through the same calls.
type pair struct {
	*final.Finals
	h *object.Heap
	m *model
}

// newHeap answers a heap with a class: two fields, the first an address.
func newHeap(t *testing.T, pages int) *object.Heap {
	t.Helper()
	h, e := object.New(pages)
	if e != api.OK {
		t.Fatalf("New of a heap of %d: %d", pages, e)
	}
	if id, e := h.Of(2, 0); id != 1 || e != api.OK {
		t.Fatalf("Of: %d, %d", id, e)
	}
	return h
}

// over answers new finals of a heap, as it is.
func over(t *testing.T, h *object.Heap) pair {
	t.Helper()
	p := pair{final.New(h), h, &model{objs: h.Objects()}}
	if p.Finals == nil {
		t.Fatal("New: nil")
	}
	p.same(t)
	return p
}

// of answers finals of a heap with so many objects that may be awaited, of each
// kind by turns; none is yet.
func of(t *testing.T, n int) (pair, []int) {
	t.Helper()
	h := newHeap(t, 5+n/16)
	at := make([]int, n)
	for i := range at {
		x := kinds[i%len(kinds)]
		at[i] = makes(t, h, x, []int{100 + i, 200 + i, 300 + i}[:x.Len]...)
	}
	return over(t, h), at
}

// kinds are heads of what may be awaited.
var kinds = []api.Head{
	{Kind: api.KPlain, Class: 1, Len: 2},
	{Kind: api.KRefs, Len: 3},
	{Kind: api.KData, Len: 1},
	{Kind: api.KData},
	{Kind: api.KRefs},
}

func ref(strength int) api.Head {
	return api.Head{Kind: api.KRef, Class: strength, Len: refFields}
}

// makes an object with some fields.
func makes(t *testing.T, h *object.Heap, x api.Head, fields ...int) int {
	t.Helper()
	at, e := h.Make(x)
	if e != api.OK {
		t.Fatalf("Make(%v): %d", x, e)
	}
	for i, f := range fields {
		if e := h.Put(at, i, f); e != api.OK {
			t.Fatalf("Put(%d, %d, %d): %d", at, i, f, e)
		}
	}
	return at
}

func (p pair) await(t *testing.T, at ...int) {
	t.Helper()
	for _, x := range at {
		want := p.m.await(x)
		if e := p.Await(x); e != want {
			t.Fatalf("Await(%d): %d, want %d", x, e, want)
		}
	}
}

// refuse awaits what may not be.
func (p pair) refuse(t *testing.T, at int, want api.Errno) {
	t.Helper()
	if e := p.Await(at); e != want {
		t.Fatalf("Await(%d): %d, want %d", at, e, want)
	}
	p.same(t)
}

func (p pair) pend(t *testing.T, at ...int) {
	t.Helper()
	p.m.pend(at...)
	was := slices.Clone(at)
	p.Pend(at...)
	if !slices.Equal(at, was) {
		t.Fatalf("Pend: the list is %v, was %v", at, was)
	}
}

func (p pair) take(t *testing.T, i int) int {
	t.Helper()
	want, e := p.m.take(i)
	at, f := p.Take(i)
	if at != want || f != e {
		t.Fatalf("Take(%d): %d, %d, want %d, %d", i, at, f, want, e)
	}
	return at
}

// free frees an object from without.
func (p pair) free(t *testing.T, at int) {
	t.Helper()
	i := p.m.place(at)
	p.m.objs = slices.Delete(p.m.objs, i, i+1)
	if e := p.h.Free(at); e != api.OK {
		t.Fatalf("Free(%d): %d", at, e)
	}
}

// put makes an object on both.
func (p pair) put(t *testing.T, x api.Head, fields ...int) int {
	t.Helper()
	at := makes(t, p.h, x, fields...)
	words := make([]int, x.Len)
	copy(words, fields)
	p.m.objs = append(p.m.objs, api.Obj{At: at, Head: x, Words: words})
	slices.SortFunc(p.m.objs, func(a, b api.Obj) int { return a.At - b.At })
	return at
}

// same looks at all that there is to see of finals, and of their heap.
func (p pair) same(t *testing.T) {
	t.Helper()
	if l := p.Finals.Finals(); !slices.Equal(l, p.m.finals) {
		t.Fatalf("Finals: %v, want %v", l, p.m.finals)
	}
	if l := p.Pending(); !slices.Equal(l, p.m.pending) {
		t.Fatalf("Pending: %v, want %v", l, p.m.pending)
	}
	if got := p.h.Objects(); !sameObjects(got, p.m.objs) {
		t.Fatalf("Objects: %v, want %v", got, p.m.objs)
	}
}

func sameObjects(a, b []api.Obj) bool {
	return slices.EqualFunc(a, b, func(x, y api.Obj) bool {
		return x.At == y.At && x.Head == y.Head && slices.Equal(x.Words, y.Words)
	})
}

// are looks at both rows, by numbers that are written out.
func are(t *testing.T, f *final.Finals, finals, pending []int) {
	t.Helper()
	if l := f.Finals(); !slices.Equal(l, finals) {
		t.Fatalf("Finals: %v, want %v", l, finals)
	}
	if l := f.Pending(); !slices.Equal(l, pending) {
		t.Fatalf("Pending: %v, want %v", l, pending)
	}
}

// hasFinal looks at the head of an object.
func hasFinal(t *testing.T, h *object.Heap, at int, want bool) {
	t.Helper()
	if x, e := h.Head(at); x.Final != want || e != api.OK {
		t.Fatalf("Head(%d): %v, %d, want Final %t", at, x, e, want)
	}
}

func noTake(t *testing.T, f *final.Finals, i int) {
	t.Helper()
	if at, e := f.Take(i); at != 0 || e != api.ErrArg {
		t.Fatalf("Take(%d): %d, %d, want 0, %d", i, at, e, api.ErrArg)
	}
}

// 15.1 New

func TestNewOfNil(t *testing.T) {
	if f := final.New(nil); f != nil {
		t.Errorf("New(nil): %v", f)
	}
}

func TestNewHasNone(t *testing.T) {
	h := newHeap(t, 4)
	are(t, final.New(h), nil, nil)
	at := makes(t, h, api.Head{Kind: api.KData, Len: 2}, 6, 7)
	makes(t, h, ref(api.Weak), 1, 2, 3, 4, 5)
	was := h.Objects()
	f := final.New(h)
	are(t, f, nil, nil)
	for _, i := range append([]int{0, 1}, noPlaces...) {
		noTake(t, f, i)
	}
	f.Pend(at)
	are(t, f, nil, nil)
	if !sameObjects(h.Objects(), was) {
		t.Errorf("Objects: %v, were %v", h.Objects(), was)
	}
}

// An object whose Final is so already is no final of new ones.
func TestNewOfAHeapWithFinals(t *testing.T) {
	h := newHeap(t, 4)
	a, b := makes(t, h, kinds[2], 5), makes(t, h, kinds[2], 6)
	if e := h.Final(a); e != api.OK {
		t.Fatalf("Final: %d", e)
	}
	p := over(t, h)
	p.refuse(t, a, api.ErrHave)
	p.pend(t, a, b)
	p.same(t)
	p.await(t, b)
	p.same(t)
}

// Finals of one heap share its objects, not their rows.
func TestNewTwiceOfOneHeap(t *testing.T) {
	h := newHeap(t, 4)
	a, b, c := makes(t, h, kinds[0]), makes(t, h, kinds[1]), makes(t, h, kinds[2])
	f, g := final.New(h), final.New(h)
	if e := f.Await(b); e != api.OK {
		t.Fatalf("Await: %d", e)
	}
	if e := g.Await(b); e != api.ErrHave {
		t.Errorf("Await of what others await: %d", e)
	}
	if e := g.Await(c); e != api.OK {
		t.Fatalf("Await: %d", e)
	}
	are(t, f, []int{b}, nil)
	are(t, g, []int{c}, nil)
	g.Pend(a, b, c)
	are(t, f, []int{b}, nil)
	are(t, g, nil, []int{c})
	f.Pend(c, b)
	are(t, f, nil, []int{b})
	if at, e := g.Take(0); at != c || e != api.OK {
		t.Errorf("Take: %d, %d", at, e)
	}
	are(t, f, nil, []int{b})
	for _, x := range []*final.Finals{f, g} {
		if e := x.Await(c); e != api.ErrHave {
			t.Errorf("Await of what was taken: %d", e)
		}
	}
}

// 15.1 Await

func TestAwaitOfEachKind(t *testing.T) {
	for _, x := range kinds {
		h := newHeap(t, 4)
		at := makes(t, h, x)
		hasFinal(t, h, at, false)
		p := over(t, h)
		if e := p.Await(at); e != api.OK {
			t.Fatalf("Await of %v: %d", x, e)
		}
		are(t, p.Finals, []int{at}, nil)
		hasFinal(t, h, at, true)
		if y, _ := h.Head(at); y.Kind != x.Kind || y.Class != x.Class || y.Len != x.Len {
			t.Errorf("Head: %v, was %v", y, x)
		}
	}
}

// A reference is never awaited, and tells it each time anew.
func TestAwaitOfAReferenceOfEachStrength(t *testing.T) {
	for _, strength := range strengths {
		p, at := of(t, 3)
		r := p.put(t, ref(strength), at[0], 0, 0, 4, 5)
		p.await(t, at[1])
		for range 3 {
			p.refuse(t, r, api.ErrKind)
			hasFinal(t, p.h, r, false)
		}
		p.pend(t, r)
		p.same(t)
	}
}

func TestAwaitOfAFinal(t *testing.T) {
	p, at := of(t, 5)
	p.await(t, at...)
	for range 2 {
		for _, x := range at {
			p.refuse(t, x, api.ErrHave)
		}
	}
	are(t, p.Finals, at, nil)
}

func TestAwaitOfWhatIsPending(t *testing.T) {
	p, at := of(t, 5)
	p.await(t, at...)
	p.pend(t, at[3], at[1])
	for range 2 {
		for _, x := range at {
			p.refuse(t, x, api.ErrHave)
		}
	}
	are(t, p.Finals, []int{at[0], at[2], at[4]}, []int{at[3], at[1]})
}

func TestAwaitOfWhatWasTaken(t *testing.T) {
	p, at := of(t, 5)
	p.await(t, at...)
	p.pend(t, at[3], at[1])
	p.take(t, 0)
	p.refuse(t, at[3], api.ErrHave)
	p.take(t, 0)
	for range 2 {
		for _, x := range at {
			p.refuse(t, x, api.ErrHave)
		}
	}
	are(t, p.Finals, []int{at[0], at[2], at[4]}, nil)
}

// Final (9) that was asked from without makes no final, and leaves none to be.
func TestAwaitOfWhatFinalWasAskedFor(t *testing.T) {
	p, at := of(t, 5)
	p.await(t, at[4])
	for _, x := range at[:2] {
		if e, want := p.h.Final(x), p.m.final(x); e != want {
			t.Fatalf("Final(%d): %d, want %d", x, e, want)
		}
		p.same(t)
		p.refuse(t, x, api.ErrHave)
		p.pend(t, x)
		p.same(t)
	}
	// By the finals themselves: Final is promoted.
	if e, want := p.Final(at[2]), p.m.final(at[2]); e != want {
		t.Fatalf("Final: %d, want %d", e, want)
	}
	p.refuse(t, at[2], api.ErrHave)
	p.pend(t, at...)
	are(t, p.Finals, nil, []int{at[4]})
}

func TestAwaitOfEachNumberAboutTheWords(t *testing.T) {
	p, at := of(t, 10)
	begins := append(slices.Clone(at), p.put(t, ref(api.Soft)), p.put(t, ref(api.Phantom)), p.put(t, api.Head{Kind: api.KData, Len: 40}))
	for x := -300; x < p.h.Len()+300; x++ {
		if !slices.Contains(begins, x) {
			if e := p.Await(x); e != api.ErrNone {
				t.Fatalf("Await(%d): %d", x, e)
			}
		}
	}
	p.same(t)
	for x := p.h.Len() + 300; x > -300; x-- {
		p.await(t, x)
	}
	p.same(t)
	if n := len(p.Finals.Finals()); n != 11 {
		t.Errorf("%d finals, want the 10 and the last one", n)
	}
}

func TestAwaitOfFarNumbers(t *testing.T) {
	h := newHeap(t, 4)
	// 64 is an object's, of which 65 is the field.
	at := makes(t, h, api.Head{Kind: api.KData, Len: 1}, 64)
	if at != 64 {
		t.Fatalf("Make: %d", at)
	}
	p := over(t, h)
	for range 2 {
		for _, x := range far {
			p.refuse(t, x, api.ErrNone)
		}
		p.await(t, at)
	}
	p.pend(t, at)
	for _, x := range far {
		p.refuse(t, x, api.ErrNone)
	}
}

func TestAwaitWithinAnObject(t *testing.T) {
	for _, awaited := range []bool{false, true} {
		p, at := of(t, 5)
		if awaited {
			p.await(t, at...)
		}
		for i, x := range at {
			for k := range kinds[i].Len {
				p.refuse(t, x+1+k, api.ErrNone)
			}
		}
	}
}

func TestAwaitOfWhatWasFreed(t *testing.T) {
	for _, x := range append([]api.Head{ref(api.Weak)}, kinds...) {
		h := newHeap(t, 8)
		a, b, c := makes(t, h, x), makes(t, h, x), makes(t, h, x)
		p := over(t, h)
		p.free(t, b)
		p.refuse(t, b, api.ErrNone)
		p.await(t, a, b, c)
		p.same(t)
		// Of one that is a final, and is gone: there is no object.
		p.free(t, c)
		p.refuse(t, c, api.ErrNone)
	}
}

// Of what was freed and is pending, or was taken, or is a reference, ErrNone
// goes ahead of all.
func TestTheOrderOfAwaitsErrors(t *testing.T) {
	p, at := of(t, 6)
	weak := p.put(t, ref(api.Weak))
	p.await(t, at[:4]...)
	p.pend(t, at[1], at[2])
	p.take(t, 0)
	if e, want := p.h.Final(at[4]), p.m.final(at[4]); e != want {
		t.Fatalf("Final: %d", e)
	}
	due := []api.Errno{api.ErrHave, api.ErrHave, api.ErrHave, api.ErrHave, api.ErrHave, api.ErrKind}
	all := append(slices.Clone(at[:5]), weak)
	for i, x := range all {
		p.refuse(t, x, due[i])
		p.refuse(t, x, due[i])
		p.free(t, x)
		p.refuse(t, x, api.ErrNone)
	}
	p.await(t, at[5])
	p.same(t)
}

// Where another object is by now the head tells of that one: it is awaited in
// its own right.
func TestAwaitWhereAnotherObjectWas(t *testing.T) {
	p, at := of(t, 5)
	p.await(t, at[2], at[3])
	p.pend(t, at[2])
	p.take(t, 0)
	p.refuse(t, at[2], api.ErrHave)
	p.free(t, at[2])
	if x := p.put(t, kinds[2], 9); x != at[2] {
		t.Fatalf("Make: %d, want %d", x, at[2])
	}
	hasFinal(t, p.h, at[2], false)
	p.pend(t, at[2])
	p.same(t)
	p.await(t, at[2])
	are(t, p.Finals, []int{at[3], at[2]}, nil)
	p.refuse(t, at[2], api.ErrHave)
	p.pend(t, at[2])
	are(t, p.Finals, []int{at[3]}, []int{at[2]})
	p.same(t)
}

// The rows are of addresses, which stay there where an object is freed from
// without: but an address is pended once, however often it was awaited.
func TestAnAddressThatWasAwaitedTwice(t *testing.T) {
	p, at := of(t, 5)
	x := at[2]
	p.await(t, x, at[0])
	p.free(t, x)
	p.same(t)
	p.put(t, kinds[2], 9)
	p.await(t, x)
	p.same(t)
	are(t, p.Finals, []int{x, at[0], x}, nil)
	p.Pend(x, x)
	are(t, p.Finals, []int{at[0]}, []int{x})
	p.Pend(x)
	are(t, p.Finals, []int{at[0]}, []int{x})
}

// A block taken by Alloc alone begins with no head's word, and no error is named
// for it: it is a final by its address.
func TestAwaitOfABlockWithoutAHead(t *testing.T) {
	p, at := of(t, 2)
	x, e := p.Alloc(3)
	if e != api.OK {
		t.Fatalf("Alloc: %d", e)
	}
	if e := p.Await(x); e != api.OK {
		t.Errorf("Await(%d): %d", x, e)
	}
	p.await(t, at[1])
	are(t, p.Finals, []int{x, at[1]}, nil)
	p.Pend(x, at[1], x)
	are(t, p.Finals, nil, []int{x, at[1]})
	if y, e := p.Take(0); y != x || e != api.OK {
		t.Errorf("Take: %d, %d", y, e)
	}
	are(t, p.Finals, nil, []int{at[1]})
}

// A class's words, and an object's, are as they were.
func TestAwaitChangesTheHeadAlone(t *testing.T) {
	p, at := of(t, 15)
	for _, x := range at {
		was := p.h.Objects()
		p.await(t, x)
		p.same(t)
		for i, o := range p.h.Objects() {
			if o.At == x {
				o.Head.Final = false
			}
			if o.At != was[i].At || o.Head != was[i].Head || !slices.Equal(o.Words, was[i].Words) {
				t.Fatalf("%v, was %v", o, was[i])
			}
		}
	}
}

// A field is put, and asked, as ever.
func TestTheFieldsOfAFinal(t *testing.T) {
	p, at := of(t, 5)
	p.await(t, at...)
	p.pend(t, at[0], at[1])
	p.take(t, 0)
	for _, x := range at[:3] {
		if e := p.h.Put(x, 0, 77); e != api.OK {
			t.Fatalf("Put: %d", e)
		}
		if y, e := p.h.Field(x, 0); y != 77 || e != api.OK {
			t.Errorf("Field: %d, %d", y, e)
		}
		hasFinal(t, p.h, x, true)
	}
	are(t, p.Finals, at[2:], []int{at[1]})
}

func TestTheHeadOfWhatWasAwaited(t *testing.T) {
	p, at := of(t, 15)
	heads := func(final int) {
		t.Helper()
		for i, x := range at {
			hasFinal(t, p.h, x, i < final)
		}
	}
	heads(0)
	for i, x := range at {
		p.await(t, x)
		heads(i + 1)
	}
	for _, x := range at {
		p.pend(t, x)
		heads(15)
	}
	for range at {
		p.take(t, 0)
		heads(15)
	}
	p.same(t)
}

// 15.1 Finals

func TestFinalsOfNoneOfOneAndOfMany(t *testing.T) {
	p, at := of(t, 12)
	are(t, p.Finals, nil, nil)
	var want []int
	for _, i := range []int{11, 0, 5, 4, 10, 1, 2, 9, 8, 3, 7, 6} {
		p.await(t, at[i])
		want = append(want, at[i])
		are(t, p.Finals, want, nil)
	}
	p.same(t)
}

// orders are all rows of all of these numbers.
func orders(of []int) [][]int {
	if len(of) == 0 {
		return [][]int{nil}
	}
	var all [][]int
	for i, x := range of {
		for _, rest := range orders(without(of, i)) {
			all = append(all, append([]int{x}, rest...))
		}
	}
	return all
}

func TestFinalsAreInTheOrderInWhichTheyWereAwaited(t *testing.T) {
	for _, order := range orders([]int{0, 1, 2, 3, 4}) {
		p, at := of(t, 5)
		var want []int
		for _, i := range order {
			p.await(t, at[i])
			want = append(want, at[i])
		}
		are(t, p.Finals, want, nil)
	}
}

// What is refused in between leaves the order as it was.
func TestFinalsAmongWrongOnes(t *testing.T) {
	p, at := of(t, 6)
	weak := p.put(t, ref(api.Weak))
	for _, i := range []int{3, 1, 5, 0} {
		p.await(t, far...)
		p.await(t, weak, at[i], weak, at[i], at[i]+1, at[3])
		p.same(t)
	}
	are(t, p.Finals, []int{at[3], at[1], at[5], at[0]}, nil)
}

// 15.2 Pend

func TestPendOfNone(t *testing.T) {
	p, at := of(t, 5)
	for range 2 {
		p.Pend()
		p.Pend(nil...)
		p.Pend([]int{}...)
		p.same(t)
		p.await(t, at[0], at[4], at[2])
	}
	p.pend(t, at[4])
	p.Pend()
	p.same(t)
}

func TestPendOfOne(t *testing.T) {
	for i := range 7 {
		p, at := of(t, 7)
		p.await(t, at...)
		p.pend(t, at[i])
		are(t, p.Finals, without(at, i), []int{at[i]})
		p.same(t)
	}
}

// All lists of up to four of four finals, one that is pending, one that is none
// and no object: so each is the first, a middle and the last one among others.
func TestPendOfMany(t *testing.T) {
	for n := range 5 {
		pendLists(t, n, nil)
	}
}

func pendLists(t *testing.T, n int, ahead []int) {
	t.Helper()
	if n > 0 {
		for i := range 8 {
			pendLists(t, n-1, append(slices.Clone(ahead), i))
		}
		return
	}
	p, at := of(t, 7)
	at = append(at, at[6]+1)
	p.await(t, at[2], at[0], at[5], at[3], at[1], at[4])
	// 4 is pending, 5 was taken, 6 was never awaited, 7 is no object.
	p.pend(t, at[5], at[4])
	p.take(t, 0)
	list := make([]int, len(ahead))
	var want []int
	for k, i := range ahead {
		list[k] = at[i]
		if i < 4 && !slices.Contains(want, at[i]) {
			want = append(want, at[i])
		}
	}
	p.pend(t, list...)
	p.same(t)
	are(t, p.Finals, minus([]int{at[2], at[0], at[3], at[1]}, want), append([]int{at[4]}, want...))
}

// minus answers a row of those that are not in another.
func minus(row, other []int) []int {
	return slices.DeleteFunc(slices.Clone(row), func(x int) bool { return slices.Contains(other, x) })
}

func TestPendOfAll(t *testing.T) {
	for _, order := range orders([]int{0, 1, 2, 3, 4}) {
		p, at := of(t, 5)
		p.await(t, at[3], at[1], at[4], at[0], at[2])
		var want []int
		for _, i := range order {
			want = append(want, at[i])
		}
		p.pend(t, want...)
		are(t, p.Finals, nil, want)
		p.same(t)
	}
}

func TestPendOfOneTwice(t *testing.T) {
	p, at := of(t, 6)
	p.await(t, at...)
	p.pend(t, at[2], at[2])
	are(t, p.Finals, without(at, 2), []int{at[2]})
	p.pend(t, at[2])
	are(t, p.Finals, without(at, 2), []int{at[2]})
	p.pend(t, at[4], at[2], at[0], at[4], at[4], at[0], at[2])
	are(t, p.Finals, []int{at[1], at[3], at[5]}, []int{at[2], at[4], at[0]})
	p.same(t)
}

func TestPendOfWhatWasTaken(t *testing.T) {
	p, at := of(t, 4)
	p.await(t, at...)
	p.pend(t, at[1], at[3])
	p.take(t, 1)
	for _, l := range [][]int{{at[3]}, {at[3], at[3]}, {at[3], at[1]}, {at[1], at[3]}} {
		p.pend(t, l...)
		are(t, p.Finals, []int{at[0], at[2]}, []int{at[1]})
	}
	p.pend(t, at[3], at[2], at[3])
	are(t, p.Finals, []int{at[0]}, []int{at[1], at[2]})
	p.same(t)
}

func TestPendOfWhatWasNeverAwaited(t *testing.T) {
	p, at := of(t, 6)
	weak := p.put(t, ref(api.Weak))
	p.await(t, at[1], at[3])
	wrong := append([]int{at[0], at[2], at[4], at[5], weak, weak + 1, at[1] + 1, at[1] - 1, at[3] + 1, at[3] - 1}, far...)
	for _, x := range wrong {
		p.pend(t, x)
		p.pend(t, x, x)
		p.same(t)
	}
	p.pend(t, wrong...)
	are(t, p.Finals, []int{at[1], at[3]}, nil)
	// What was no final then is one from where it is awaited.
	p.await(t, at[0])
	are(t, p.Finals, []int{at[1], at[3], at[0]}, nil)
	p.same(t)
}

// A wrong one is passed by, wherever it stands.
func TestPendOfWrongOnesAmongOthers(t *testing.T) {
	for place := range 4 {
		for _, wrong := range far {
			p, at := of(t, 5)
			p.await(t, at[:4]...)
			p.pend(t, slices.Insert([]int{at[2], at[0], at[3]}, place, wrong)...)
			are(t, p.Finals, []int{at[1]}, []int{at[2], at[0], at[3]})
			p.same(t)
		}
	}
}

// What is pended goes behind what is pending already.
func TestPendOfFurtherOnes(t *testing.T) {
	p, at := of(t, 9)
	p.await(t, at...)
	p.pend(t, at[7], at[0])
	are(t, p.Finals, []int{at[1], at[2], at[3], at[4], at[5], at[6], at[8]}, []int{at[7], at[0]})
	p.pend(t, at[3], at[0], at[2])
	are(t, p.Finals, []int{at[1], at[4], at[5], at[6], at[8]}, []int{at[7], at[0], at[3], at[2]})
	p.pend(t)
	p.pend(t, at[8])
	are(t, p.Finals, []int{at[1], at[4], at[5], at[6]}, []int{at[7], at[0], at[3], at[2], at[8]})
	p.take(t, 1)
	p.pend(t, at[0], at[1])
	are(t, p.Finals, []int{at[4], at[5], at[6]}, []int{at[7], at[3], at[2], at[8], at[1]})
	p.pend(t, at...)
	are(t, p.Finals, nil, []int{at[7], at[3], at[2], at[8], at[1], at[4], at[5], at[6]})
	p.same(t)
}

// Those that are awaited behind a Pend go behind those that stayed.
func TestAwaitBehindPend(t *testing.T) {
	p, at := of(t, 8)
	p.await(t, at[0], at[1], at[2], at[3])
	p.pend(t, at[3], at[1])
	p.await(t, at[6], at[4])
	are(t, p.Finals, []int{at[0], at[2], at[6], at[4]}, []int{at[3], at[1]})
	p.pend(t, at...)
	are(t, p.Finals, nil, []int{at[3], at[1], at[0], at[2], at[4], at[6]})
	p.await(t, at[7], at[5])
	are(t, p.Finals, []int{at[7], at[5]}, []int{at[3], at[1], at[0], at[2], at[4], at[6]})
	p.same(t)
}

// Pend goes by what is a final, not by what its head tells.
func TestPendOfWhatWasFreed(t *testing.T) {
	p, at := of(t, 5)
	p.await(t, at[0], at[1], at[2])
	p.pend(t, at[2])
	p.free(t, at[4])
	p.pend(t, at[4])
	p.same(t)
	p.take(t, 0)
	p.free(t, at[2])
	p.pend(t, at[2])
	are(t, p.Finals, []int{at[0], at[1]}, nil)
}

// 15.2 Take

func TestTheExample(t *testing.T) {
	noTake(t, final.New(newHeap(t, 2)), 0)
}

func TestTakeOfNothingPending(t *testing.T) {
	p, at := of(t, 4)
	for range 2 {
		for _, i := range append([]int{0, 1, 2}, noPlaces...) {
			noTake(t, p.Finals, i)
		}
		p.same(t)
		p.await(t, at[:2]...)
	}
	p.pend(t, at...)
	p.take(t, 0)
	p.take(t, 0)
	for _, i := range append([]int{0, 1, 2}, noPlaces...) {
		noTake(t, p.Finals, i)
	}
	p.same(t)
}

func TestTakeOfEachPlace(t *testing.T) {
	for n := range 8 {
		for i := range n {
			p, at := of(t, n+2)
			p.await(t, at...)
			row := slices.Clone(at[1 : n+1])
			slices.Reverse(row)
			p.pend(t, row...)
			if x := p.take(t, i); x != row[i] {
				t.Fatalf("Take(%d): %d, want %d", i, x, row[i])
			}
			are(t, p.Finals, []int{at[0], at[n+1]}, without(row, i))
			p.same(t)
		}
	}
}

// The first, a middle and the last place, and what stands there then.
func TestTakeOnceMore(t *testing.T) {
	for first := range 5 {
		for second := range 4 {
			for third := range 3 {
				p, at := of(t, 5)
				p.await(t, at...)
				row := []int{at[2], at[4], at[0], at[3], at[1]}
				p.pend(t, row...)
				for _, i := range []int{first, second, third} {
					if x := p.take(t, i); x != row[i] {
						t.Fatalf("Take(%d): %d, want %d", i, x, row[i])
					}
					row = without(row, i)
					are(t, p.Finals, nil, row)
				}
			}
		}
	}
}

func TestTakeOfNoPlace(t *testing.T) {
	for n := range 8 {
		p, at := of(t, 10)
		p.await(t, at...)
		p.pend(t, at[:n]...)
		for i := n; i < 40; i++ {
			noTake(t, p.Finals, i)
		}
		for i := -40; i < 0; i++ {
			noTake(t, p.Finals, i)
		}
		for _, i := range noPlaces {
			noTake(t, p.Finals, i)
		}
		p.same(t)
	}
}

// A place is one, not an address.
func TestTakeOfAnAddress(t *testing.T) {
	p, at := of(t, 5)
	p.await(t, at...)
	p.pend(t, at[:3]...)
	for _, x := range at {
		noTake(t, p.Finals, x)
	}
	p.same(t)
}

func TestTakeOfAll(t *testing.T) {
	p, at := of(t, 9)
	for _, last := range []bool{true, false} {
		p.await(t, at[:5]...)
		p.pend(t, at[:5]...)
		for n := 5; n > 0; n-- {
			i := 0
			if last {
				i = n - 1
			}
			p.take(t, i)
			p.same(t)
			noTake(t, p.Finals, n-1)
			noTake(t, p.Finals, -1)
		}
		for _, x := range at[:5] {
			p.free(t, x)
		}
		for i := range 5 {
			at[i] = p.put(t, kinds[i])
		}
		p.same(t)
	}
}

// What was taken stays in the heap, and may be held from there on.
func TestWhatWasTakenStays(t *testing.T) {
	p, at := of(t, 3)
	p.await(t, at...)
	p.pend(t, at...)
	for range at {
		x := p.take(t, 0)
		hasFinal(t, p.h, x, true)
		if y, e := p.h.Field(x, 0); e != api.OK || y < 100 {
			t.Errorf("Field: %d, %d", y, e)
		}
	}
	p.same(t)
}

// 15.3

// From no state is an object awaited once more, whatever is done in between.
func TestAnObjectIsAwaitedOnce(t *testing.T) {
	p, at := of(t, 5)
	again := func() {
		t.Helper()
		for range 2 {
			for _, x := range at {
				p.refuse(t, x, api.ErrHave)
			}
		}
	}
	p.await(t, at...)
	again()
	for i, x := range at {
		p.pend(t, x)
		again()
		if i%2 == 1 {
			p.take(t, 0)
			again()
		}
	}
	for len(p.m.pending) > 0 {
		p.take(t, len(p.m.pending)-1)
		again()
	}
	p.pend(t, at...)
	again()
	are(t, p.Finals, nil, nil)
}

// Each object that was awaited is just one of these: a final, pending, taken.
func TestEachIsInOneRowOnce(t *testing.T) {
	below := numbersBelow()
	for _, n := range []int{1, 2, 3, 8, 40} {
		p, at := of(t, n)
		var awaited, taken []int
		for range 400 {
			x := at[below(n)]
			switch below(4) {
			case 0:
				if p.Await(x) == api.OK {
					awaited = append(awaited, x)
				}
			case 1, 2:
				p.Pend(x, at[below(n)], x)
			default:
				if x, e := p.Take(below(n)); e == api.OK {
					taken = append(taken, x)
				}
			}
			all := slices.Concat(p.Finals.Finals(), p.Pending(), taken)
			slices.Sort(all)
			want := slices.Clone(awaited)
			slices.Sort(want)
			if !slices.Equal(all, want) || len(slices.Compact(all)) != len(want) {
				t.Fatalf("finals %v, pending %v, taken %v: awaited were %v", p.Finals.Finals(), p.Pending(), taken, awaited)
			}
		}
	}
}

// numbersBelow answers numbers from a fixed rule, each from 0 to below what is
// asked.
func numbersBelow() func(below int) int {
	seed := uint64(1)
	return func(below int) int {
		seed = seed*6364136223846793005 + 1442695040888963407
		return int(seed>>33) % below
	}
}

func TestByTurns(t *testing.T) {
	p, at := of(t, 30)
	for i, x := range at {
		p.await(t, x)
		if i%3 == 2 {
			p.pend(t, at[i], at[i-2])
			p.same(t)
			p.take(t, i%2)
			p.same(t)
		}
	}
	p.pend(t, at...)
	p.same(t)
	for len(p.m.pending) > 0 {
		p.take(t, len(p.m.pending)/2)
		p.same(t)
	}
	are(t, p.Finals, nil, nil)
}

// As many objects as a heap has room for.
func TestAllOfAWholeHeap(t *testing.T) {
	h := newHeap(t, api.MaxPages)
	var at []int
	for {
		x, e := h.Make(api.Head{Kind: api.KData, Len: 1})
		if e != api.OK {
			break
		}
		at = append(at, x)
	}
	if len(at) != 255*32 {
		t.Fatalf("%d objects", len(at))
	}
	f := final.New(h)
	slices.Reverse(at)
	for _, x := range at {
		if e := f.Await(x); e != api.OK {
			t.Fatalf("Await(%d): %d", x, e)
		}
	}
	are(t, f, at, nil)
	half := make([]int, 0, len(at)/2)
	var rest []int
	for i, x := range at {
		if i%2 == 0 {
			half = append(half, x)
		} else {
			rest = append(rest, x)
		}
	}
	slices.Sort(half)
	f.Pend(half...)
	are(t, f, rest, half)
	f.Pend(at...)
	want := append(half, rest...)
	are(t, f, nil, want)
	for _, i := range []int{len(want) - 1, 0, len(want) / 2, 1} {
		if x, e := f.Take(i); x != want[i] || e != api.OK {
			t.Fatalf("Take(%d): %d, %d, want %d", i, x, e, want[i])
		}
		want = without(want, i)
	}
	are(t, f, nil, want)
	noTake(t, f, len(want))
	for len(want) > 0 {
		if x, e := f.Take(0); x != want[0] || e != api.OK {
			t.Fatalf("Take: %d, %d, want %d", x, e, want[0])
		}
		want = want[1:]
	}
	are(t, f, nil, nil)
}

// A list that is far longer than there are objects, of wrong ones nearly all.
func TestPendOfAVeryLongList(t *testing.T) {
	p, at := of(t, 12)
	p.await(t, at...)
	list := make([]int, 1<<20)
	for i := range list {
		list[i] = i*7 - 1<<20
	}
	list[5], list[1<<19], list[1<<20-1] = at[9], at[3], at[4]
	for i, x := range list {
		if i != 5 && i != 1<<19 && i != 1<<20-1 && slices.Contains(at, x) {
			list[i] = 0
		}
	}
	p.Pend(list...)
	p.m.pend(at[9], at[3], at[4])
	p.same(t)
}

// A row that only ever has a few in it, for long: each object is made, awaited,
// pended, taken and freed.
func TestALongRowOfObjectsThatGo(t *testing.T) {
	p, _ := of(t, 0)
	for i := range 5000 {
		x := p.put(t, kinds[i%len(kinds)])
		p.await(t, x)
		if i%2 == 1 {
			p.pend(t, p.m.finals[1], p.m.finals[0])
			p.free(t, p.take(t, 1))
			p.free(t, p.take(t, 0))
		}
		if i%100 == 1 {
			p.same(t)
		}
	}
	p.same(t)
}

// TestALongRow holds finals against their model through rows of right and wrong
// calls, from a fixed rule.
func TestALongRow(t *testing.T) {
	below := numbersBelow()
	for _, n := range []int{1, 2, 3, 8, 30} {
		for range 8 {
			p, at := of(t, n)
			at = append(at, p.put(t, ref(api.Soft)), p.put(t, ref(api.Weak)))
			for range 300 {
				step(t, p, at, below)
				p.same(t)
			}
		}
	}
}

// step is one call on both. The model answers what is due.
func step(t *testing.T, p pair, at []int, below func(int) int) {
	t.Helper()
	x := at[below(len(at))]
	switch below(12) {
	case 0:
		p.await(t, far[below(len(far))])
		p.take(t, noPlaces[below(len(noPlaces))])
	case 1:
		p.await(t, x+below(8)-3)
	case 2:
		p.pend(t, some(at, below)...)
	case 3:
		p.pend(t, x)
	case 4:
		p.pend(t, far[below(len(far))], x, x, x+1)
	case 5, 6:
		p.take(t, below(len(p.m.pending)+2)-1)
	case 7:
		if e, want := p.h.Final(x), p.m.final(x); below(9) == 0 && e != want {
			t.Fatalf("Final(%d): %d, want %d", x, e, want)
		}
	case 8, 9:
		replace(t, p, at, below(len(at)))
	default:
		p.await(t, x)
	}
}

// some answers some of a row, of which one may come more than once.
func some(at []int, below func(int) int) []int {
	var list []int
	for range below(len(at) + 3) {
		list = append(list, at[below(len(at))])
	}
	return list
}

// replace frees an object, and makes another one, where nobody waits for it: as
// a collection does.
func replace(t *testing.T, p pair, at []int, i int) {
	t.Helper()
	x := at[i]
	if slices.Contains(p.m.finals, x) || slices.Contains(p.m.pending, x) {
		return
	}
	p.free(t, x)
	p.await(t, x)
	at[i] = p.put(t, kinds[i%len(kinds)])
}

// An error leaves all as it was

func TestAnErrorLeavesAllAsItWas(t *testing.T) {
	p, at := of(t, 8)
	weak := p.put(t, ref(api.Weak), at[0], 2, 3, 4, 5)
	wrong := func() {
		t.Helper()
		for _, x := range append([]int{weak, weak + 1, at[0] + 1}, far...) {
			if e := p.Await(x); e == api.OK {
				t.Fatalf("Await(%d): %d", x, e)
			}
			p.same(t)
		}
		for _, x := range slices.Concat(p.m.finals, p.m.pending) {
			p.refuse(t, x, api.ErrHave)
		}
		for _, i := range append([]int{len(p.m.pending), len(p.m.pending) + 1}, noPlaces...) {
			noTake(t, p.Finals, i)
			p.same(t)
		}
	}
	wrong()
	p.await(t, at...)
	wrong()
	p.pend(t, at[5], at[2], at[6])
	wrong()
	p.take(t, 1)
	wrong()
	p.pend(t, at...)
	wrong()
}

func TestWhatIsAskedDoesNotChange(t *testing.T) {
	p, at := of(t, 6)
	p.await(t, at...)
	p.pend(t, at[4], at[1])
	for range 5 {
		p.Finals.Finals()
		p.Pending()
		p.same(t)
	}
}

// R3

// spoil writes into a list, and into the room behind it.
func spoil(l []int) {
	wide := l[:cap(l)]
	for i := range wide {
		wide[i] = -7
	}
	_ = append(l, -8)
	_ = append(l[:0], -9)
}

func TestWhatIsToldIsNewMemory(t *testing.T) {
	for finals := range 12 {
		for pending := range 12 {
			p, at := of(t, 24)
			p.await(t, at[12:12+pending]...)
			p.await(t, at[:finals]...)
			p.pend(t, at[12:12+pending]...)
			a, b := p.Finals.Finals(), p.Pending()
			c, d := p.Finals.Finals(), p.Pending()
			spoil(a)
			p.same(t)
			spoil(b)
			p.same(t)
			if !slices.Equal(c, p.m.finals) || !slices.Equal(d, p.m.pending) {
				t.Fatalf("told ahead: %v, %v, want %v, %v", c, d, p.m.finals, p.m.pending)
			}
			// What is awaited and pended from now on stands where it was
			// appended to.
			c, d = append(c, 5), append(d, 6)
			p.await(t, at[finals:12]...)
			p.pend(t, at[:12]...)
			if c[finals] != 5 || d[pending] != 6 {
				t.Fatalf("appended to: %v, %v", c, d)
			}
			_, _ = append(p.Finals.Finals(), 7), append(p.Pending(), 8)
			p.same(t)
			if c[finals] != 5 || d[pending] != 6 {
				t.Fatalf("appended to: %v, %v", c, d)
			}
		}
	}
}

// What was told stays as it was, whatever is done from then on.
func TestWhatWasToldStays(t *testing.T) {
	p, at := of(t, 20)
	p.await(t, at[:15]...)
	p.pend(t, at[2], at[9], at[4], at[7])
	finals, pending := p.Finals.Finals(), p.Pending()
	was, were := slices.Clone(finals), slices.Clone(pending)
	done := func() {
		t.Helper()
		p.same(t)
		if !slices.Equal(finals, was) || !slices.Equal(pending, were) {
			t.Fatalf("told ahead: %v, %v, were %v, %v", finals, pending, was, were)
		}
	}
	p.take(t, 0)
	done()
	p.pend(t, at[0], at[14])
	done()
	p.take(t, 2)
	done()
	p.await(t, at[15:]...)
	done()
	p.pend(t, at...)
	done()
	for len(p.m.pending) > 0 {
		p.take(t, 0)
		done()
	}
}

func TestWhatIsGivenToPendStays(t *testing.T) {
	p, at := of(t, 10)
	p.await(t, at[:8]...)
	wide := []int{at[3], 0, at[3], at[9], at[6], -1, at[1], at[2], at[5], 77}
	was := slices.Clone(wide)
	list := wide[:7]
	p.pend(t, list...)
	if !slices.Equal(wide, was) {
		t.Fatalf("the list is %v, was %v", wide, was)
	}
	p.same(t)
	spoil(list)
	p.same(t)
	// Nor does anything from then on write into it.
	copy(wide, was)
	p.pend(t, at[0], at[7])
	p.await(t, at[8:]...)
	p.take(t, 0)
	p.take(t, 1)
	p.pend(t, at...)
	p.same(t)
	if !slices.Equal(wide, was) {
		t.Fatalf("the list is %v, was %v", wide, was)
	}
}

// What was told may be handed in, and stays what it was.
func TestPendOfWhatWasTold(t *testing.T) {
	p, at := of(t, 10)
	p.await(t, at...)
	p.pend(t, at[8], at[2])
	finals, pending := p.Finals.Finals(), p.Pending()
	was, were := slices.Clone(finals), slices.Clone(pending)
	p.pend(t, pending...)
	p.same(t)
	p.pend(t, finals[3:6]...)
	p.same(t)
	p.pend(t, finals...)
	p.same(t)
	are(t, p.Finals, nil, slices.Concat(were, was[3:6], was[:3], was[6:]))
	if !slices.Equal(finals, was) || !slices.Equal(pending, were) {
		t.Fatalf("told: %v, %v, were %v, %v", finals, pending, was, were)
	}
	spoil(finals)
	spoil(pending)
	p.same(t)
}

// R5

func TestTwoOverTwoHeapsDoNotTouch(t *testing.T) {
	a, at := of(t, 6)
	b, bt := of(t, 6)
	if !slices.Equal(at, bt) {
		t.Fatalf("the heaps are not alike: %v, %v", at, bt)
	}
	both := func() {
		t.Helper()
		a.same(t)
		b.same(t)
	}
	a.await(t, at[0], at[1], at[5])
	both()
	b.await(t, at[1], at[4], at[3])
	both()
	a.pend(t, at...)
	both()
	b.pend(t, at[3])
	both()
	a.take(t, 1)
	both()
	b.take(t, 0)
	noTake(t, b.Finals, 0)
	both()
	a.await(t, at...)
	both()
	a.free(t, at[1])
	both()
	b.pend(t, at...)
	both()
}

func TestTheSameCallsTellTheSame(t *testing.T) {
	row := func() []any {
		p, at := of(t, 20)
		at = append(at, p.put(t, ref(api.Phantom)))
		below := numbersBelow()
		var told []any
		for range 500 {
			x := at[below(len(at))] + below(20)/19
			told = append(told, p.Await(x))
			if below(3) == 0 {
				p.Pend(some(at, below)...)
				y, e := p.Take(below(5) - 1)
				told = append(told, y, e)
			}
			told = append(told, p.Finals.Finals(), p.Pending(), p.h.Objects())
		}
		return told
	}
	if a, b := row(), row(); !reflect.DeepEqual(a, b) {
		t.Error("two rows of the same calls differ")
	}
}

// Methods of nil, and what is due whatever is done

func TestMethodsOfNil(t *testing.T) {
	var none *final.Finals
	for range 2 {
		for _, x := range append([]int{64, 72}, far...) {
			if e := none.Await(x); e != api.ErrNone {
				t.Errorf("Await(%d): %d", x, e)
			}
			none.Pend(x)
		}
		for _, i := range append([]int{0, 1, 2}, noPlaces...) {
			noTake(t, none, i)
		}
		none.Pend()
		none.Pend(64, 72, 0, 64)
		are(t, none, nil, nil)
	}
}

// Finals without a heap, or of one without a space, have no objects.
func TestFinalsOfNoHeap(t *testing.T) {
	for _, f := range []*final.Finals{{}, {Heap: &object.Heap{}}, final.New(&object.Heap{})} {
		for _, x := range append([]int{64, 72}, far...) {
			if e := f.Await(x); e != api.ErrNone {
				t.Fatalf("Await(%d): %d", x, e)
			}
			f.Pend(x, x)
		}
		for _, i := range append([]int{0, 1}, noPlaces...) {
			noTake(t, f, i)
		}
		are(t, f, nil, nil)
	}
}

// Whatever is done to the heap from without, each call ends and none panics.
func TestEachCallEndsWhateverIsDone(t *testing.T) {
	below := numbersBelow()
	for _, n := range []int{1, 2, 5, 17} {
		p, at := of(t, n)
		for range 3000 {
			x := at[below(n)]
			switch below(10) {
			case 0:
				p.Free(x)
			case 1:
				p.Make(kinds[below(len(kinds))])
			case 2:
				p.Store(x, below(1<<20))
			case 3:
				p.Alloc(1 + below(4))
			case 4:
				p.Final(x)
			case 5:
				p.Take(below(4) - 1)
			case 6:
				p.Pend(some(at, below)...)
			case 7:
				p.Give(below(6), 1)
				p.Set(below(2) == 0, below(6))
			default:
				p.Await(x)
			}
			p.Finals.Finals()
			p.Pending()
		}
	}
}

// Ways

func TestFinalsEmbedAHeap(t *testing.T) {
	f, ok := reflect.TypeFor[final.Finals]().FieldByName("Heap")
	if !ok || !f.Anonymous || f.Type != reflect.TypeFor[*object.Heap]() {
		t.Errorf("Heap is %v", f)
	}
	h := newHeap(t, 2)
	if x := final.New(h); x.Heap != h {
		t.Error("the heap is not the one that was handed in")
	}
}

// Rows are the Finals' own: nobody from without reaches them. All but Take are
// calls more than a heap has.
func TestFinalsShowTheirHeapAlone(t *testing.T) {
	of := reflect.TypeFor[final.Finals]()
	for i := range of.NumField() {
		if f := of.Field(i); f.IsExported() && f.Name != "Heap" {
			t.Errorf("%s", f.Name)
		}
	}
	heap := reflect.TypeFor[*object.Heap]().NumMethod()
	if n := reflect.TypeFor[*final.Finals]().NumMethod(); n != heap+4 {
		t.Errorf("%d methods, %d of a heap", n, heap)
	}
}

func TestPendIsVariadic(t *testing.T) {
	m, ok := reflect.TypeFor[*final.Finals]().MethodByName("Pend")
	if !ok || !m.Type.IsVariadic() || m.Type.NumOut() != 0 {
		t.Errorf("Pend is %v", m.Type)
	}
}

// Take is this one, which takes no pages; these are taken by the heap's.
func TestTakeIsNotThePages(t *testing.T) {
	p, at := of(t, 3)
	left := p.h.Left()
	noTake(t, p.Finals, 1)
	p.await(t, at...)
	p.pend(t, at...)
	if x := p.take(t, 1); x != at[1] || p.h.Left() != left {
		t.Errorf("Take: %d, %d pages are left, were %d", x, p.h.Left(), left)
	}
	p.same(t)
	page, e := p.Heap.Take(1)
	if page < 1 || e != api.OK || p.Left() != left-1 {
		t.Errorf("Take of the heap: %d, %d, %d are left", page, e, p.Left())
	}
	p.same(t)
	if e := p.Give(page, 1); e != api.OK || p.h.Left() != left {
		t.Errorf("Give: %d", e)
	}
	p.same(t)
}

// What is called here of finals is their heap's, and of it alone.
func TestTheHeapIsPromoted(t *testing.T) {
	h, _ := object.New(4)
	f := final.New(h)
	if id, e := f.Of(2, 1); id != 1 || e != api.OK || h.Classes() != 1 || f.Classes() != 1 {
		t.Errorf("Of: %d, %d", id, e)
	}
	at, e := f.Make(kinds[0])
	if at != 64 || e != api.OK {
		t.Fatalf("Make: %d, %d", at, e)
	}
	if x, e := f.Head(at); x != kinds[0] || e != api.OK {
		t.Errorf("Head: %v, %d", x, e)
	}
	if e := f.Put(at, 1, 9); e != api.OK || len(f.Objects()) != 1 {
		t.Errorf("Put: %d, %v", e, f.Objects())
	}
	if x, e := f.Field(at, 1); x != 9 || e != api.OK {
		t.Errorf("Field: %d, %d", x, e)
	}
	if l := f.Refs(at); !slices.Equal(l, []int{1}) {
		t.Errorf("Refs: %v", l)
	}
	if f.Used() != 4 || f.Cap() != 192 || f.Left() != 2 || f.Len() != 256 || !slices.Equal(f.Each(), []int{64}) {
		t.Errorf("Used, Cap, Left, Len, Each: %d, %d, %d, %d, %v", f.Used(), f.Cap(), f.Left(), f.Len(), f.Each())
	}
	if e := f.Final(at); e != api.OK {
		t.Errorf("Final: %d", e)
	}
	are(t, f, nil, nil)
	hasFinal(t, h, at, true)
	if e := f.Free(at); e != api.OK || len(h.Objects()) != 0 {
		t.Errorf("Free(%d): %v", at, h.Objects())
	}
}
