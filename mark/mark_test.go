package mark_test

import (
	"math"
	"reflect"
	"slices"
	"testing"

	"gloaming/api"
	"gloaming/bits"
	"gloaming/class"
	"gloaming/mark"
	"gloaming/object"
	"gloaming/space"
)

// The document's numbers, written out.
const (
	most      = 4096 // of a room
	pageWords = 64
	maxPages  = 256
	maxFields = 1023
	refFields = 5
	fReferent = 0
	fQueue    = 1
	fNext     = 2
	fStamp    = 3
	fSerial   = 4
)

// noRooms are numbers of which there is no stack.
var noRooms = []int{
	0, -1, -2, -64, -4095, -4096, -4097, 4097, 4098, 8192, 16384, 1 << 16, 1<<16 + 1,
	1 << 31, 1<<31 + 1, -1 << 31, -1<<31 + 1, 1 << 32, 1<<32 + 1, 1<<32 + 4096, -1 << 32, -1<<32 + 1,
	1 << 62, 1<<62 + 1, math.MaxInt - 1, math.MaxInt, math.MinInt, math.MinInt + 1, math.MinInt + 4096,
}

// far are numbers at which no object of these tests begins.
var far = []int{
	0, 1, 2, 63, -1, -2, -63, -64, -65, -128, 16384, 16385, 16448, 1 << 31, 1<<31 + 64, 1 << 32, 1<<32 + 64, 1<<32 + 128,
	-1 << 32, -1<<32 + 64, 1 << 40, 1 << 62, 1<<62 + 64, math.MaxInt - 63, math.MaxInt - 1, math.MaxInt,
	math.MinInt, math.MinInt + 1, math.MinInt + 64,
}

// rooms are those that most tests go through.
var rooms = []int{1, 2, 3, 4, 5, 7, 10, 31, 64, most}

// refs are of the classes of newHeap, which addresses each of them has.
var refs = []struct {
	fields int
	refs   []int
}{{2, []int{0}}, {0, nil}, {3, nil}, {3, []int{0, 1, 2}}, {4, []int{3}}, {5, []int{1, 3}}, {1, []int{0}}}

func newHeap(t *testing.T, pages int) *object.Heap {
	t.Helper()
	h, e := object.New(pages)
	if e != api.OK {
		t.Fatalf("New of a heap of %d: %d", pages, e)
	}
	for i, c := range refs {
		if id, e := h.Of(c.fields, c.refs...); id != i+1 || e != api.OK {
			t.Fatalf("Of: %d, %d", id, e)
		}
	}
	return h
}

// makes makes an object with these fields.
func makes(t *testing.T, h *object.Heap, x api.Head, fields ...int) int {
	t.Helper()
	x.Len = len(fields)
	at, e := h.Make(x)
	if e != api.OK {
		t.Fatalf("Make(%v): %d", x, e)
	}
	puts(t, h, at, 0, fields...)
	return at
}

func list(t *testing.T, h *object.Heap, to ...int) int {
	t.Helper()
	return makes(t, h, api.Head{Kind: api.KRefs}, to...)
}

func data(t *testing.T, h *object.Heap, fields ...int) int {
	t.Helper()
	return makes(t, h, api.Head{Kind: api.KData}, fields...)
}

func plain(t *testing.T, h *object.Heap, id int, fields ...int) int {
	t.Helper()
	return makes(t, h, api.Head{Kind: api.KPlain, Class: id}, fields...)
}

func ref(t *testing.T, h *object.Heap, strength int, fields ...int) int {
	t.Helper()
	return makes(t, h, api.Head{Kind: api.KRef, Class: strength}, fields...)
}

// puts puts fields from i on.
func puts(t *testing.T, h *object.Heap, at, i int, fields ...int) {
	t.Helper()
	for k, x := range fields {
		if e := h.Put(at, i+k, x); e != api.OK {
			t.Fatalf("Put(%d, %d, %d): %d", at, i+k, x, e)
		}
	}
}

func frees(t *testing.T, h *object.Heap, at int) {
	t.Helper()
	if e := h.Free(at); e != api.OK {
		t.Fatalf("Free(%d): %d", at, e)
	}
}

// leads are the fields of an object that are addresses, by the document's words.
func leads(o api.Obj) []int {
	switch o.Head.Kind {
	case api.KPlain:
		var l []int
		for _, i := range refs[o.Head.Class-1].refs {
			l = append(l, o.Words[i])
		}
		return l
	case api.KRefs:
		return o.Words
	case api.KRef:
		return []int{o.Words[fNext]}
	}
	return nil
}

// model is the document's words, without a bound of any stack.
type model struct {
	h      *object.Heap
	marked map[int]struct{}
}

func (m *model) mark(at ...int) {
	objs := map[int]api.Obj{}
	for _, o := range m.h.Objects() {
		objs[o.At] = o
	}
	var todo []int
	for x := range m.marked {
		todo = append(todo, x)
	}
	for _, x := range at {
		if _, is := objs[x]; is {
			todo = append(todo, x)
			m.marked[x] = struct{}{}
		}
	}
	for len(todo) > 0 {
		x := todo[len(todo)-1]
		todo = todo[:len(todo)-1]
		for _, y := range leads(objs[x]) {
			_, is := objs[y]
			if _, was := m.marked[y]; is && !was {
				m.marked[y] = struct{}{}
				todo = append(todo, y)
			}
		}
	}
}

func (m *model) all() []int {
	var all []int
	for x := range m.marked {
		all = append(all, x)
	}
	slices.Sort(all)
	return all
}

// pair is a tracer beside its model, through the same calls.
type pair struct {
	*mark.Tracer
	m    *model
	room int
}

func over(t *testing.T, h *object.Heap, room int) pair {
	t.Helper()
	m, e := mark.New(h, room)
	if m == nil || e != api.OK {
		t.Fatalf("New(h, %d): %v, %d", room, m, e)
	}
	p := pair{m, &model{h, map[int]struct{}{}}, room}
	p.same(t)
	if p.Deep() != 0 {
		t.Fatalf("Deep of a new one: %d", p.Deep())
	}
	return p
}

// mark marks on both, and looks at the list, at the heap, and at what is told.
func (p pair) mark(t *testing.T, at ...int) {
	t.Helper()
	was, objs, deep := slices.Clone(at), p.m.h.Objects(), p.Deep()
	n := len(p.m.marked)
	p.m.mark(at...)
	p.Mark(at...)
	if !slices.Equal(at, was) {
		t.Fatalf("Mark: the list is %v, was %v", at, was)
	}
	if !reflect.DeepEqual(p.m.h.Objects(), objs) {
		t.Fatal("Mark: the heap's objects are changed")
	}
	p.same(t)
	if d := p.Deep(); d < deep {
		t.Fatalf("Deep: %d, was %d", d, deep)
	}
	if len(p.m.marked) == n && p.Deep() != deep {
		t.Fatalf("Deep: %d, was %d, where nothing new was marked", p.Deep(), deep)
	}
}

// tells looks at what takes no long way.
func (p pair) tells(t *testing.T) {
	t.Helper()
	want := p.m.all()
	if all := p.All(); !slices.Equal(all, want) {
		t.Fatalf("All, in a room of %d: %v, want %v", p.room, all, want)
	}
	d := p.Deep()
	if d < 0 || d > p.room || d > len(want) || (d == 0) != (len(want) == 0) {
		t.Fatalf("Deep, in a room of %d: %d, where %d are marked", p.room, d, len(want))
	}
}

// same looks at all that a tracer tells without a change.
func (p pair) same(t *testing.T) {
	t.Helper()
	p.tells(t)
	for at := -2; at < p.m.h.Len()+2; at++ {
		_, want := p.m.marked[at]
		if is := p.Marked(at); is != want {
			t.Fatalf("Marked(%d), in a room of %d: %t", at, p.room, is)
		}
		if is := p.Has(at); is != want {
			t.Fatalf("Has(%d), in a room of %d: %t", at, p.room, is)
		}
	}
	for _, at := range far {
		if p.Marked(at) {
			t.Fatalf("Marked(%d), in a room of %d", at, p.room)
		}
	}
	if n := p.Count(); n != len(p.m.marked) {
		t.Fatalf("Count: %d, want %d", n, len(p.m.marked))
	}
	if n := p.Size(); n != p.m.h.Len() {
		t.Fatalf("Size: %d, want %d words", n, p.m.h.Len())
	}
}

// is looks at what is marked by what is written out, in any order.
func is(t *testing.T, m *mark.Tracer, want ...int) {
	t.Helper()
	want = slices.Sorted(slices.Values(want))
	if all := m.All(); !slices.Equal(all, want) {
		t.Fatalf("All: %v, want %v", all, want)
	}
}

// each goes through each room, a new tracer in each of them.
func each(t *testing.T, h *object.Heap, try func(p pair)) {
	t.Helper()
	for _, n := range rooms {
		try(over(t, h, n))
	}
}

// marks looks in each room at what is marked from these, all at once.
func marks(t *testing.T, h *object.Heap, at []int, want ...int) {
	t.Helper()
	each(t, h, func(p pair) {
		p.mark(t, at...)
		is(t, p.Tracer, want...)
	})
}

// numbersBelow answers numbers by a fixed rule.
func numbersBelow(seed uint64) func(n int) int {
	return func(n int) int {
		seed = seed*6364136223846793005 + 1442695040888963407
		return int(seed>>33) % n
	}
}

// 17.1 New

func TestNewOfEachRoom(t *testing.T) {
	h := newHeap(t, 3)
	a := data(t, h)
	for n := 1; n <= most; n++ {
		m, e := mark.New(h, n)
		if m == nil || e != api.OK {
			t.Fatalf("New(h, %d): %v, %d", n, m, e)
		}
		is(t, m)
		if m.Deep() != 0 || m.Marked(a) || m.Count() != 0 {
			t.Fatalf("New(h, %d): %d deep, %d marked", n, m.Deep(), m.Count())
		}
		m.Mark(a)
		is(t, m, a)
		if m.Deep() != 1 {
			t.Fatalf("Deep of one, in a room of %d: %d", n, m.Deep())
		}
	}
}

func TestNewOfNoRoom(t *testing.T) {
	h := newHeap(t, 3)
	data(t, h)
	for _, n := range noRooms {
		if m, e := mark.New(h, n); m != nil || e != api.ErrArg {
			t.Errorf("New(h, %d): %v, %d, want none, %d", n, m, e, api.ErrArg)
		}
	}
}

func TestNewOfNoHeap(t *testing.T) {
	for _, n := range slices.Concat(noRooms, rooms) {
		if m, e := mark.New(nil, n); m != nil || e != api.ErrNone {
			t.Errorf("New(nil, %d): %v, %d, want none, %d", n, m, e, api.ErrNone)
		}
	}
}

func TestNewOfHeapsOfEachSize(t *testing.T) {
	for pages := 1; pages <= maxPages; pages++ {
		h, e := object.New(pages)
		if e != api.OK {
			t.Fatal(e)
		}
		m, e := mark.New(h, 1)
		if m == nil || e != api.OK {
			t.Fatalf("New of %d pages: %v, %d", pages, m, e)
		}
		if n := m.Size(); n != pages*pageWords {
			t.Fatalf("Size of %d pages: %d", pages, n)
		}
	}
}

func TestNewDoesNotTouchTheHeap(t *testing.T) {
	h := newHeap(t, 3)
	list(t, h, data(t, h, 1), 0, 7)
	was, used := h.Objects(), h.Used()
	over(t, h, 1)
	if !reflect.DeepEqual(h.Objects(), was) || h.Used() != used || h.Classes() != len(refs) {
		t.Error("New: the heap is changed")
	}
}

// 17.1 Mark: what is given

func TestHeapWithoutObjects(t *testing.T) {
	for _, pages := range []int{1, 2, 5, maxPages} {
		h := newHeap(t, pages)
		each(t, h, func(p pair) {
			p.mark(t)
			p.mark(t, far...)
			p.mark(t, upTo(h.Len()+3)...)
			is(t, p.Tracer)
		})
	}
}

func upTo(n int) []int {
	l := make([]int, n)
	for i := range l {
		l[i] = i
	}
	return l
}

func TestMarkOfNothing(t *testing.T) {
	h := newHeap(t, 4)
	a := data(t, h, 1)
	b := list(t, h, a)
	each(t, h, func(p pair) {
		p.mark(t)
		p.mark(t, nil...)
		p.mark(t, []int{}...)
		is(t, p.Tracer)
		p.mark(t, b)
		p.mark(t)
		is(t, p.Tracer, a, b)
	})
}

func TestMarkOfOne(t *testing.T) {
	h := newHeap(t, 4)
	a, b := data(t, h, 1), data(t, h)
	marks(t, h, []int{a}, a)
	marks(t, h, []int{b}, b)
}

func TestMarkOfManyAtOnce(t *testing.T) {
	h := newHeap(t, 8)
	var all []int
	for range 100 {
		all = append(all, data(t, h, len(all)))
	}
	marks(t, h, all, all...)
	falling := slices.Clone(all)
	slices.Reverse(falling)
	marks(t, h, falling, all...)
	marks(t, h, all[10:20], all[10:20]...)
}

func TestMarkOfOneGivenTwice(t *testing.T) {
	h := newHeap(t, 4)
	a := data(t, h, 1)
	b := list(t, h, a)
	marks(t, h, []int{a, a}, a)
	marks(t, h, []int{b, a, b, b, a}, a, b)
	marks(t, h, []int{a, b, a}, a, b)
	each(t, h, func(p pair) {
		p.mark(t, slices.Repeat([]int{a}, 5000)...)
		if p.Deep() != 1 {
			t.Errorf("Deep of one, given often: %d", p.Deep())
		}
	})
}

func TestMarkOfOneThatIsMarked(t *testing.T) {
	h := newHeap(t, 4)
	a := data(t, h, 1)
	b := list(t, h, a)
	c := list(t, h, b)
	each(t, h, func(p pair) {
		p.mark(t, b)
		p.mark(t, b)
		p.mark(t, a)
		p.mark(t, a, b, b)
		is(t, p.Tracer, a, b)
		p.mark(t, b, c)
		is(t, p.Tracer, a, b, c)
		p.mark(t, c)
		is(t, p.Tracer, a, b, c)
	})
}

func TestMarkWhereNoObjectBegins(t *testing.T) {
	h := newHeap(t, 6)
	a := list(t, h, 0, 0, 0)
	b := data(t, h, make([]int, 100)...)
	c := list(t, h, a, b)
	for at := -3; at < h.Len()+3; at++ {
		if at != a && at != b && at != c {
			m, _ := mark.New(h, 1)
			m.Mark(at)
			is(t, m)
			if m.Deep() != 0 {
				t.Fatalf("Deep of no object: %d", m.Deep())
			}
			m.Mark(at, c, at)
			is(t, m, a, b, c)
		}
	}
	for _, at := range far {
		marks(t, h, []int{at})
		marks(t, h, []int{at, a, at}, a)
	}
	marks(t, h, slices.Concat(far, []int{b}, far), b)
}

func TestMarkOfWhatIsFreed(t *testing.T) {
	h := newHeap(t, 4)
	a := data(t, h, 1)
	b := list(t, h, a)
	c := list(t, h, b, a)
	frees(t, h, b)
	marks(t, h, []int{b})
	marks(t, h, []int{b, c}, a, c)
	each(t, h, func(p pair) { p.mark(t, upTo(h.Len())...) })
}

func TestMarkInSeveralCalls(t *testing.T) {
	h, all := tangle(t, 60, 4)
	for start := range 6 {
		some := all[start*7 : start*7+9]
		each(t, h, func(p pair) {
			p.mark(t, some...)
			one := over(t, h, p.room)
			for _, x := range some {
				one.mark(t, x)
			}
			three := over(t, h, p.room)
			three.mark(t, some[:4]...)
			three.mark(t)
			three.mark(t, some[2:]...)
			is(t, one.Tracer, p.All()...)
			is(t, three.Tracer, p.All()...)
		})
	}
}

// tangle answers a heap with n objects of all kinds, which lead to one another
// by a fixed rule.
func tangle(t *testing.T, n int, seed uint64) (*object.Heap, []int) {
	t.Helper()
	h := newHeap(t, 10+n/4)
	below := numbersBelow(seed)
	var all []int
	for range n {
		all = append(all, makesAny(t, h, below))
	}
	for _, x := range h.Objects() {
		for i := range x.Words {
			puts(t, h, x.At, i, toward(all, below))
		}
	}
	return h, all
}

// makesAny makes an object of some kind, all fields 0.
func makesAny(t *testing.T, h *object.Heap, below func(int) int) int {
	t.Helper()
	switch below(6) {
	case 0:
		return data(t, h, make([]int, below(9))...)
	case 1:
		return ref(t, h, 1+below(3), make([]int, refFields)...)
	case 2, 3:
		id := below(len(refs))
		return plain(t, h, id+1, make([]int, refs[id].fields)...)
	}
	return list(t, h, make([]int, below(7))...)
}

// toward answers mostly one of these, and otherwise what leads nowhere.
func toward(all []int, below func(int) int) int {
	x := all[below(len(all))]
	switch below(4) {
	case 0:
		return []int{0, x + 1, -x, x + 1<<32, far[below(len(far))]}[below(5)]
	}
	return x
}

// 17.1 Mark: what leads

func TestDataLeadsNowhere(t *testing.T) {
	h := newHeap(t, 10)
	a := data(t, h)
	b := data(t, h, a, a, a, a, a)
	c := data(t, h, slices.Repeat([]int{a, b}, 50)...)
	marks(t, h, []int{b}, b)
	marks(t, h, []int{c}, c)
	puts(t, h, b, 0, b, c)
	marks(t, h, []int{b}, b)
	d := list(t, h, b)
	marks(t, h, []int{d}, b, d)
}

func TestPlainOnesLeadByTheirClass(t *testing.T) {
	for id, c := range refs {
		h := newHeap(t, 10)
		to := make([]int, c.fields)
		for i := range to {
			to[i] = data(t, h, i)
		}
		x := plain(t, h, id+1, to...)
		want := []int{x}
		for _, i := range c.refs {
			want = append(want, to[i])
		}
		marks(t, h, []int{x}, want...)
	}
}

func TestPlainOnesOfTheGreatestClass(t *testing.T) {
	for _, some := range [][]int{nil, {0}, {maxFields - 1}, {0, 511, maxFields - 1}, upTo(maxFields)} {
		h, e := object.New(60)
		if e != api.OK {
			t.Fatal(e)
		}
		if _, e := h.Of(maxFields, some...); e != api.OK {
			t.Fatal(e)
		}
		to := make([]int, maxFields)
		for i := range to {
			to[i] = data(t, h, i)
		}
		x := plain(t, h, 1, to...)
		want := []int{x}
		for _, i := range some {
			want = append(want, to[i])
		}
		for _, n := range rooms {
			m, _ := mark.New(h, n)
			m.Mark(x)
			is(t, m, want...)
			if d := m.Deep(); d != min(n, max(1, len(some))) {
				t.Errorf("Deep of %d, in a room of %d: %d", len(some), n, d)
			}
		}
	}
}

func TestListsLeadByAllFields(t *testing.T) {
	for _, n := range []int{0, 1, 2, 3, 31, 32, 100, 500, maxFields} {
		h := newHeap(t, 60)
		to := make([]int, n)
		for i := range to {
			to[i] = data(t, h)
		}
		x := list(t, h, to...)
		marks(t, h, []int{x}, append([]int{x}, to...)...)
	}
}

func TestEachFieldOfAList(t *testing.T) {
	h := newHeap(t, 10)
	a := data(t, h)
	for n := 1; n <= 70; n++ {
		x := list(t, h, make([]int, n)...)
		for i := range n {
			puts(t, h, x, i, a)
			m, _ := mark.New(h, 1)
			m.Mark(x)
			is(t, m, a, x)
			puts(t, h, x, i, 0)
		}
		frees(t, h, x)
	}
}

func TestReferencesLeadByNextAlone(t *testing.T) {
	for _, strength := range []int{api.Soft, api.Weak, api.Phantom} {
		h := newHeap(t, 10)
		a := data(t, h)
		x := ref(t, h, strength, a, a, 0, a, a)
		marks(t, h, []int{x}, x)
		for _, i := range []int{fReferent, fQueue, fStamp, fSerial} {
			puts(t, h, x, i, list(t, h, a))
			marks(t, h, []int{x}, x)
		}
		puts(t, h, x, fNext, a)
		marks(t, h, []int{x}, a, x)
		y := ref(t, h, strength, x, -1, x, 5, 1)
		z := ref(t, h, 4-strength, a, 1, y, 5, 1)
		marks(t, h, []int{y}, a, x, y)
		marks(t, h, []int{z}, a, x, y, z)
		puts(t, h, x, fNext, z)
		marks(t, h, []int{x}, x, y, z)
	}
}

func TestFinalOnesLeadAsOthersDo(t *testing.T) {
	h := newHeap(t, 10)
	a := data(t, h, 7)
	b := plain(t, h, 1, a, a)
	c := list(t, h, b)
	d := plain(t, h, 1, 0, c)
	for _, x := range []int{a, b, c, d} {
		if e := h.Final(x); e != api.OK {
			t.Fatal(e)
		}
	}
	marks(t, h, []int{a}, a)
	marks(t, h, []int{c}, a, b, c)
	marks(t, h, []int{d}, d)
}

func TestBlocksWithoutAHead(t *testing.T) {
	h := newHeap(t, 10)
	a := data(t, h)
	x, e := h.Alloc(5)
	if e != api.OK {
		t.Fatal(e)
	}
	h.Store(x+1, a)
	b := list(t, h, x)
	marks(t, h, []int{x}, x)
	marks(t, h, []int{b}, x, b)
}

func TestFieldsThatLeadNowhere(t *testing.T) {
	h := newHeap(t, 10)
	a := list(t, h, 0, 0, 0)
	b := data(t, h, 1, 2, 3)
	x := list(t, h, slices.Concat(far, []int{a + 1, a + 3, b + 1, a - 1, -a, a + 1<<32, a - 1<<32, a + 1<<62, a + math.MinInt})...)
	marks(t, h, []int{x}, x)
	puts(t, h, x, len(far), b)
	marks(t, h, []int{x}, b, x)
	y := plain(t, h, 4, a+1, b, -1)
	marks(t, h, []int{y}, b, y)
	z := ref(t, h, api.Weak, b, 0, a+2, b, b)
	marks(t, h, []int{z}, z)
}

func TestFieldsThatLeadToWhatIsFreed(t *testing.T) {
	h := newHeap(t, 10)
	a := data(t, h)
	b := list(t, h, a)
	x := list(t, h, b)
	frees(t, h, b)
	marks(t, h, []int{x}, x)
	if y := list(t, h, x); y != b {
		t.Fatalf("Make: %d, want %d", y, b)
	}
	marks(t, h, []int{x}, b, x)
}

func TestOnesThatLeadToThemselves(t *testing.T) {
	h := newHeap(t, 10)
	a := list(t, h, 0, 0)
	puts(t, h, a, 0, a, a)
	b := plain(t, h, 1, 0, 0)
	puts(t, h, b, 0, b)
	c := ref(t, h, api.Soft, 0, 0, 0, 0, 0)
	puts(t, h, c, fNext, c)
	marks(t, h, []int{a}, a)
	marks(t, h, []int{b}, b)
	marks(t, h, []int{c}, c)
	marks(t, h, []int{a, b, c}, a, b, c)
}

func TestRings(t *testing.T) {
	for n := 2; n <= 60; n++ {
		h := newHeap(t, 20)
		ring := row(t, h, n, func(i int) int { return i })
		puts(t, h, ring[n-1], 0, ring[0])
		for _, at := range []int{0, 1, n / 2, n - 1} {
			marks(t, h, []int{ring[at]}, ring...)
		}
	}
}

// row makes n lists of one field, each of which leads to the next one of them;
// the one that is made as the i-th has the place of(i).
func row(t *testing.T, h *object.Heap, n int, of func(i int) int) []int {
	t.Helper()
	at := make([]int, n)
	for i := range n {
		at[of(i)] = list(t, h, 0)
	}
	for i := range n - 1 {
		puts(t, h, at[i], 0, at[i+1])
	}
	return at
}

func TestTwiceToOne(t *testing.T) {
	h := newHeap(t, 10)
	a := data(t, h)
	b := list(t, h, a, a, 0, a)
	c := list(t, h, b, a, b)
	marks(t, h, []int{b}, a, b)
	marks(t, h, []int{c}, a, b, c)
}

func TestManyThatLeadToOne(t *testing.T) {
	h := newHeap(t, 20)
	a := data(t, h)
	var all []int
	for range 100 {
		all = append(all, list(t, h, a))
	}
	x := list(t, h, all...)
	marks(t, h, all, append([]int{a}, all...)...)
	marks(t, h, []int{x}, append([]int{a, x}, all...)...)
}

// orders are how rows lie: rising, falling, to and fro.
func orders(n int) []func(i int) int {
	return []func(i int) int{
		func(i int) int { return i },
		func(i int) int { return n - 1 - i },
		func(i int) int {
			if i%2 == 0 {
				return i / 2
			}
			return n - 1 - i/2
		},
		func(i int) int { return i * 7 % n },
	}
}

func TestLongRows(t *testing.T) {
	const n = 500
	for _, of := range orders(n) {
		h := newHeap(t, 60)
		at := row(t, h, n, of)
		lone := list(t, h, at[0])
		marks(t, h, []int{at[0]}, at...)
		marks(t, h, []int{at[n-1]}, at[n-1])
		marks(t, h, []int{at[n/3], lone}, append([]int{lone}, at...)...)
		for _, room := range rooms {
			p := over(t, h, room)
			p.mark(t, at[n/2])
			if p.Deep() != 1 {
				t.Errorf("Deep of a row: %d", p.Deep())
			}
		}
	}
}

// TestRowsOfMany has each of a row lead to many and, at each place of a few, to
// the next one.
func TestRowsOfMany(t *testing.T) {
	const n, wide = 41, 9
	for _, of := range orders(n) {
		for way := range wide {
			h := newHeap(t, 200)
			at := make([]int, n)
			for i := range n {
				to := make([]int, wide)
				for k := range to {
					to[k] = list(t, h, data(t, h))
				}
				at[of(i)] = list(t, h, to...)
			}
			for i := range n - 1 {
				puts(t, h, at[i], way, at[i+1])
			}
			each(t, h, func(p pair) {
				p.mark(t, at[0])
				for _, x := range at {
					if !p.Marked(x) {
						t.Fatalf("Marked(%d) of a row, in a room of %d", x, p.room)
					}
				}
			})
		}
	}
}

func TestTrees(t *testing.T) {
	for _, wide := range []int{2, 3, 5} {
		h := newHeap(t, maxPages)
		all := []int{data(t, h)}
		// Those at the top lie behind, as it is made from below.
		level := slices.Clone(all)
		for len(all) < 900 {
			var next []int
			for i := 0; i < 243; i += wide {
				to := make([]int, wide)
				for k := range to {
					to[k] = level[(i+k)%len(level)]
				}
				next = append(next, list(t, h, to...))
			}
			level = next
			all = append(all, next...)
		}
		each(t, h, func(p pair) { p.mark(t, level...) })
		each(t, h, func(p pair) { p.mark(t, level[0]) })
	}
}

func TestFullHeap(t *testing.T) {
	h, e := object.New(maxPages)
	if e != api.OK {
		t.Fatal(e)
	}
	const n = (maxPages - 1) * pageWords / 2
	at := row(t, h, n, func(i int) int { return n - 1 - i })
	if _, e := h.Make(api.Head{Kind: api.KData}); e != api.ErrFull {
		t.Fatalf("Make: %d, want %d", e, api.ErrFull)
	}
	for _, room := range []int{1, 2, most} {
		p := over(t, h, room)
		p.mark(t, at[0])
		if len(p.All()) != n {
			t.Fatalf("All: %d, want %d", len(p.All()), n)
		}
		q := over(t, h, room)
		q.mark(t, at...)
		q.mark(t, at...)
		if d := q.Deep(); d > room || len(q.All()) != n {
			t.Fatalf("Deep: %d, of %d", d, room)
		}
	}
}

// TestFullHeapThatIsHardToFollow has each of a long row lead to something else
// first, while there is room for one.
func TestFullHeapThatIsHardToFollow(t *testing.T) {
	for _, first := range []bool{true, false} {
		h, e := object.New(maxPages)
		if e != api.OK {
			t.Fatal(e)
		}
		next := 0
		n := 0
		for {
			junk, e := h.Make(api.Head{Kind: api.KData})
			if e != api.OK {
				break
			}
			n++
			at, e := h.Make(api.Head{Kind: api.KRefs, Len: 3})
			if e != api.OK {
				break
			}
			n++
			if first {
				puts(t, h, at, 0, next, junk, next)
			} else {
				puts(t, h, at, 0, junk, next, junk)
			}
			next = at
		}
		for _, room := range []int{1, 2, 3} {
			p := over(t, h, room)
			p.mark(t, next)
			if got := len(p.All()); got < n-1 {
				t.Fatalf("All, in a room of %d: %d of %d", room, got, n)
			}
		}
	}
}

// 17.1 Mark: from now on

func TestFieldsThatArePutBehindMark(t *testing.T) {
	h := newHeap(t, 10)
	a, b, c := data(t, h), list(t, h, 0), list(t, h, 0, 0)
	d := list(t, h, b)
	try := func(at ...int) {
		t.Helper()
		each(t, h, func(p pair) {
			puts(t, h, b, 0, 0)
			puts(t, h, c, 0, 0, 0)
			p.mark(t, c, d)
			is(t, p.Tracer, b, c, d)
			puts(t, h, b, 0, a)
			p.same(t)
			is(t, p.Tracer, b, c, d)
			p.mark(t, at...)
			is(t, p.Tracer, a, b, c, d)
			puts(t, h, b, 0, 0)
			p.mark(t, at...)
			is(t, p.Tracer, a, b, c, d)
		})
	}
	try()
	try(b)
	try(c)
	try(d)
	try(-1)
	try(a)
}

func TestMarkedStaysSo(t *testing.T) {
	h := newHeap(t, 10)
	a := data(t, h)
	b := list(t, h, a)
	c := list(t, h, b)
	each(t, h, func(p pair) {
		p.mark(t, c)
		puts(t, h, c, 0, 0)
		puts(t, h, b, 0, 0)
		p.mark(t, a)
		p.mark(t)
		is(t, p.Tracer, a, b, c)
		puts(t, h, b, 0, a)
		puts(t, h, c, 0, b)
	})
}

func TestMarkedOnesThatAreFreed(t *testing.T) {
	for _, room := range rooms {
		h := newHeap(t, 10)
		a := data(t, h)
		b := list(t, h, a)
		c := list(t, h, 0)
		p := over(t, h, room)
		p.mark(t, b)
		frees(t, h, b)
		p.same(t)
		p.mark(t, b)
		is(t, p.Tracer, a, b)
		frees(t, h, a)
		p.mark(t)
		is(t, p.Tracer, a, b)
		// What is made there anew is marked as it is, so what it leads to is, too.
		if x := list(t, h, c); x != a {
			t.Fatalf("Make: %d, want %d", x, a)
		}
		p.mark(t)
		is(t, p.Tracer, a, b, c)
	}
}

func TestObjectsThatAreMadeBehindNew(t *testing.T) {
	h := newHeap(t, 10)
	for _, room := range rooms {
		p := over(t, h, room)
		a := data(t, h)
		b := list(t, h, a)
		p.same(t)
		p.mark(t, b)
		is(t, p.Tracer, a, b)
		c := list(t, h, b)
		p.mark(t)
		is(t, p.Tracer, a, b)
		p.mark(t, c)
		is(t, p.Tracer, a, b, c)
		frees(t, h, a)
		frees(t, h, b)
		frees(t, h, c)
	}
}

// 17.2 All and Deep

func TestAllIsByAddress(t *testing.T) {
	h := newHeap(t, 20)
	// Blocks of several sizes: what is made later may lie ahead.
	a := data(t, h, make([]int, 20)...)
	b := list(t, h, a)
	c := data(t, h, make([]int, 100)...)
	d := list(t, h, c, b, a)
	e := data(t, h, make([]int, 30)...)
	f := list(t, h, e, d)
	each(t, h, func(p pair) {
		p.mark(t, f)
		want := []int{a, b, c, d, e, f}
		slices.Sort(want)
		all := p.All()
		if !slices.Equal(all, want) || !slices.IsSorted(all) {
			t.Fatalf("All: %v, want %v", all, want)
		}
	})
}

func TestAllAtTheEdges(t *testing.T) {
	h, e := object.New(2)
	if e != api.OK {
		t.Fatal(e)
	}
	var all []int
	for range pageWords / 2 {
		all = append(all, data(t, h))
	}
	first, last := all[0], all[len(all)-1]
	if first != 64 || last != 126 {
		t.Fatalf("Make: %d, %d", first, last)
	}
	marks(t, h, []int{last}, last)
	marks(t, h, []int{first}, first)
	marks(t, h, []int{last, first}, first, last)
	marks(t, h, all, all...)
}

func TestDeepIsOfAllThatWas(t *testing.T) {
	h := newHeap(t, 20)
	var to []int
	for range 100 {
		to = append(to, data(t, h))
	}
	a, b := list(t, h, to...), data(t, h)
	for n := 1; n <= 130; n++ {
		p := over(t, h, n)
		p.mark(t, b)
		if p.Deep() != 1 {
			t.Fatalf("Deep of one, in a room of %d: %d", n, p.Deep())
		}
		p.mark(t, a)
		if d := p.Deep(); d != min(n, 100) {
			t.Fatalf("Deep of many, in a room of %d: %d", n, d)
		}
		p.mark(t, a, b)
		p.mark(t)
		if d := p.Deep(); d != min(n, 100) {
			t.Fatalf("Deep of many, in a room of %d: %d", n, d)
		}
	}
}

func TestDeepOfWhatIsNoObject(t *testing.T) {
	h := newHeap(t, 20)
	x := list(t, h, far...)
	each(t, h, func(p pair) {
		p.mark(t, far...)
		if p.Deep() != 0 {
			t.Errorf("Deep of no objects: %d", p.Deep())
		}
		p.mark(t, x)
		if p.Deep() != 1 {
			t.Errorf("Deep of one: %d", p.Deep())
		}
	})
}

// 17.3

// TestEachSmallGraph goes through all heaps of three lists of two fields, from
// each of them and from several, in each small room.
func TestEachSmallGraph(t *testing.T) {
	h := newHeap(t, 3)
	at := []int{list(t, h, 0, 0), list(t, h, 0, 0), list(t, h, 0, 0)}
	to := append([]int{0}, at...)
	for g := range 1 << 12 {
		for f := range 6 {
			puts(t, h, at[f/2], f%2, to[g>>(2*f)&3])
		}
		for some := range 8 {
			var from []int
			for i, x := range at {
				if some>>i&1 == 1 {
					from = append(from, x)
				}
			}
			want := &model{h, map[int]struct{}{}}
			want.mark(from...)
			for room := 1; room <= 3; room++ {
				m, _ := mark.New(h, room)
				m.Mark(from...)
				pair{m, want, room}.tells(t)
			}
		}
	}
}

func TestManyGraphs(t *testing.T) {
	for seed := range uint64(40) {
		h, all := tangle(t, 20+int(seed)*5, 100+seed)
		below := numbersBelow(seed)
		var from []int
		for range below(5) {
			from = append(from, toward(all, below))
		}
		each(t, h, func(p pair) { p.mark(t, from...) })
		each(t, h, func(p pair) { p.mark(t, all[below(len(all))]) })
	}
}

func TestEachRoomMarksTheSame(t *testing.T) {
	h, all := tangle(t, 300, 9)
	want := &model{h, map[int]struct{}{}}
	want.mark(all[:25]...)
	if n := len(want.marked); n < 100 {
		t.Fatalf("the heap leads to %d alone", n)
	}
	for n := 1; n <= 400; n++ {
		m, e := mark.New(h, n)
		if e != api.OK {
			t.Fatal(e)
		}
		m.Mark(all[:25]...)
		pair{m, want, n}.tells(t)
	}
}

// TestLongRowsOfCalls has heaps change between the calls.
func TestLongRowsOfCalls(t *testing.T) {
	for seed := range uint64(12) {
		h, all := tangle(t, 40, 1000+seed)
		below := numbersBelow(seed)
		var pairs []pair
		for _, n := range []int{1, 2, 3, 8, most} {
			pairs = append(pairs, over(t, h, n))
		}
		for range 120 {
			all = step(t, h, all, below)
			from := make([]int, below(4))
			for i := range from {
				from[i] = toward(all, below)
			}
			if below(3) > 0 {
				continue
			}
			for _, p := range pairs {
				p.mark(t, from...)
				is(t, p.Tracer, pairs[0].All()...)
			}
		}
	}
}

// step changes a heap by one call, right or wrong: what may be there now.
func step(t *testing.T, h *object.Heap, all []int, below func(int) int) []int {
	t.Helper()
	x := toward(all, below)
	switch below(5) {
	case 0:
		return append(all, makesAny(t, h, below))
	case 1:
		if below(3) == 0 {
			h.Free(x)
		}
	case 2:
		h.Final(x)
	default:
		h.Put(x, below(6), toward(all, below))
	}
	return all
}

// The rules of all calls

func TestWhatIsGivenIsNotKept(t *testing.T) {
	h := newHeap(t, 10)
	a, b, c := data(t, h), data(t, h), data(t, h)
	each(t, h, func(p pair) {
		// Spare room behind the list has numbers of its own.
		l := []int{a, -1, b, c, 77, 78}
		p.mark(t, l[:3]...)
		if !slices.Equal(l, []int{a, -1, b, c, 77, 78}) {
			t.Fatalf("Mark: the list is %v", l)
		}
		for i := range l {
			l[i] = c
		}
		p.same(t)
		p.mark(t)
		is(t, p.Tracer, a, b)
	})
}

func TestWhatIsToldIsNewMemory(t *testing.T) {
	h := newHeap(t, 10)
	var all []int
	for range 11 {
		all = append(all, data(t, h))
	}
	x := list(t, h, all...)
	each(t, h, func(p pair) {
		p.mark(t, x)
		one, two := p.All(), p.All()
		for i := range one {
			one[i] = -5
		}
		one = append(one, 1, 2, 3)
		one = one[:cap(one)]
		for i := range one {
			one[i] = -6
		}
		if !slices.Equal(two, p.All()) {
			t.Fatalf("All: %v, want %v", p.All(), two)
		}
		p.same(t)
		_ = append(two, 9)
		p.mark(t)
		p.same(t)
	})
}

func TestTwoTracersOfOneHeap(t *testing.T) {
	h := newHeap(t, 10)
	a := data(t, h)
	b := list(t, h, a)
	c := list(t, h, b)
	one, two, three := over(t, h, 1), over(t, h, 1), over(t, h, 5)
	one.mark(t, b)
	two.same(t)
	two.mark(t, a)
	one.same(t)
	three.mark(t, c)
	one.same(t)
	two.same(t)
	if e := one.Set(false, b); e != api.OK {
		t.Fatal(e)
	}
	two.same(t)
	three.same(t)
	is(t, one.Tracer, a)
	is(t, two.Tracer, a)
	is(t, three.Tracer, a, b, c)
}

func TestTwoHeaps(t *testing.T) {
	g, h := newHeap(t, 10), newHeap(t, 10)
	a := list(t, g, 0)
	b := list(t, g, a)
	if x := data(t, h); x != a {
		t.Fatalf("Make: %d, want %d", x, a)
	}
	one, two := over(t, g, 3), over(t, h, 3)
	one.mark(t, b)
	two.same(t)
	two.mark(t, a, b)
	is(t, one.Tracer, a, b)
	is(t, two.Tracer, a)
}

// TestTheSameCallsTellTheSame has two heaps that are made alike.
func TestTheSameCallsTellTheSame(t *testing.T) {
	tell := func(room int) [][]int {
		h, all := tangle(t, 80, 5)
		p := over(t, h, room)
		var told [][]int
		for i := 0; i+3 < len(all); i += 13 {
			p.mark(t, all[i:i+3]...)
			told = append(told, p.All(), []int{p.Deep(), p.Count(), p.Next(70, true), p.Run(70, 3)})
		}
		return told
	}
	for _, room := range rooms {
		if one, two := tell(room), tell(room); !reflect.DeepEqual(one, two) {
			t.Fatalf("in a room of %d: %v, and %v", room, one, two)
		}
	}
}

func TestMethodsOfNil(t *testing.T) {
	var m *mark.Tracer
	for range 2 {
		m.Mark()
		m.Mark(64, 0, -1)
		m.Mark(far...)
		for _, at := range append([]int{64}, far...) {
			if m.Marked(at) {
				t.Errorf("Marked(%d) of nil", at)
			}
		}
		if all := m.All(); len(all) != 0 {
			t.Errorf("All of nil: %v", all)
		}
		if n := m.Deep(); n != 0 {
			t.Errorf("Deep of nil: %d", n)
		}
	}
}

// TestWhatNewDidNotMake holds that no call panics: more is not said of them.
func TestWhatNewDidNotMake(t *testing.T) {
	m := &mark.Tracer{}
	m.Mark()
	m.Mark(far...)
	is(t, m)
	if m.Marked(64) || m.Deep() != 0 {
		t.Error("Marked of a Tracer that New did not make")
	}
	b, _ := bits.New(200)
	m = &mark.Tracer{Bits: b}
	m.Mark(64)
	is(t, m)
	// Of a ring, part of which has no place: the call ends all the same.
	h := newHeap(t, 6)
	ring := row(t, h, 40, func(i int) int { return i })
	puts(t, h, ring[39], 0, ring[0])
	for _, n := range rooms {
		m, _ := mark.New(h, n)
		m.Bits, _ = bits.New(ring[20])
		m.Mark(ring...)
		is(t, m, ring[:20]...)
	}
	for _, h := range []*object.Heap{{}, {Space: &space.Space{}}, {Table: class.New()}} {
		m, e := mark.New(h, 1)
		if m == nil || e != api.OK {
			t.Fatalf("New: %v, %d", m, e)
		}
		m.Mark(far...)
		m.Mark(64)
		is(t, m)
		if m.Marked(64) || m.Deep() != 0 || m.Size() != 0 {
			t.Error("Mark of a heap that New did not make")
		}
	}
}

// TestWhatIsSaidOfNothing holds that each call ends and none panics, whatever
// was stored where a head stands, and whichever pages and bits were set.
func TestWhatIsSaidOfNothing(t *testing.T) {
	for _, x := range []int{0, -1, 1, 2 + 65536*maxFields, 4 + 16*2 + 65536*refFields, 1 + 16*4 + 65536*3, 1 + 16*200 + 65536*3, math.MaxInt, math.MinInt} {
		h := newHeap(t, 4)
		a := list(t, h, 0)
		b := list(t, h, a, a)
		puts(t, h, a, 0, b)
		h.Store(a, x)
		for _, n := range rooms {
			m, _ := mark.New(h, n)
			m.Mark(b, a)
			m.Mark(upTo(h.Len())...)
			if !m.Marked(a) || !m.Marked(b) {
				t.Errorf("Mark where %d stands: %v", x, m.All())
			}
		}
	}
	h := newHeap(t, 4)
	h.Set(false, 0)
	a := list(t, h, 0)
	m, _ := mark.New(h, 1)
	m.Mark(a)
	is(t, m, a)
}

// 'Ways'

func TestATracerEmbedsBits(t *testing.T) {
	f, ok := reflect.TypeOf(mark.Tracer{}).FieldByName("Bits")
	if !ok || !f.Anonymous || f.Type != reflect.TypeOf((*bits.Bits)(nil)) {
		t.Fatal("a Tracer does not embed a *bits.Bits")
	}
	if n := reflect.TypeOf((*mark.Tracer)(nil)).NumMethod(); n != 10 {
		t.Errorf("a Tracer has %d methods, want its 4 and those of Bits", n)
	}
	if !reflect.TypeOf((*mark.Tracer).Mark).IsVariadic() {
		t.Error("Mark is not variadic")
	}
}

func TestWhatIsPromoted(t *testing.T) {
	h := newHeap(t, 6)
	a, b, c := data(t, h), data(t, h), data(t, h)
	d := list(t, h, c, a)
	each(t, h, func(p pair) {
		if p.Next(0, true) != -1 || p.Next(5, false) != 5 || p.Run(0, h.Len()) != 0 || p.Run(0, h.Len()+1) != -1 {
			t.Fatal("Next or Run, where nothing is marked")
		}
		p.mark(t, d)
		if p.Count() != 3 || !p.Has(a) || p.Has(b) || !p.Has(c) || !p.Has(d) || p.Has(a+1) || p.Has(-1) {
			t.Fatalf("Has, Count: %d", p.Count())
		}
		if x := p.Next(0, true); x != a {
			t.Fatalf("Next: %d, want %d", x, a)
		}
		if x := p.Next(a+1, true); x != c {
			t.Fatalf("Next: %d, want %d", x, c)
		}
		if x := p.Next(d+1, true); x != -1 {
			t.Fatalf("Next: %d, want none", x)
		}
		if x := p.Run(a, c-a-1); x != a+1 {
			t.Fatalf("Run: %d, want %d", x, a+1)
		}
		if p.Tracer.Bits.Count() != 3 {
			t.Fatal("Bits are not those of the Tracer")
		}
	})
}

func TestWhatIsSetByWhatIsPromoted(t *testing.T) {
	h := newHeap(t, 6)
	a := data(t, h)
	b := list(t, h, a)
	c := list(t, h, b)
	each(t, h, func(p pair) {
		p.mark(t, c)
		if e := p.Set(false, b, a); e != api.OK {
			t.Fatal(e)
		}
		is(t, p.Tracer, c)
		if p.Marked(b) || !p.Marked(c) {
			t.Fatal("Marked, behind Set")
		}
		p.Mark()
		is(t, p.Tracer, a, b, c)
		p.Set(false, a, b, c)
		is(t, p.Tracer)
		p.Mark(a)
		is(t, p.Tracer, a)
		p.Set(true, c)
		is(t, p.Tracer, a, c)
		if !p.Marked(c) {
			t.Fatal("Marked, behind Set")
		}
		p.Mark()
		is(t, p.Tracer, a, b, c)
		if e := p.Set(true, h.Len()); e != api.ErrNone {
			t.Fatalf("Set behind the end: %d", e)
		}
	})
}

// The document's example

func TestExample(t *testing.T) {
	h := newHeap(t, 6)
	list(t, h, data(t, h))
	m, _ := mark.New(h, 1)
	m.Mark()
	is(t, m)
	if m.Deep() != 0 || m.Count() != 0 {
		t.Error("Mark of nothing")
	}
}
