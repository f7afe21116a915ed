package ref_test

import (
	"math"
	"reflect"
	"slices"
	"testing"

	"gloaming/api"
	"gloaming/object"
	"gloaming/queue"
	"gloaming/ref"
)

// The document's numbers, written out.
const (
	soft      = 1
	weak      = 2
	phantom   = 3
	maxQueues = 8

	referent  = 0 // the fields of a reference
	inQueue   = 1
	next      = 2
	stamp     = 3
	serial    = 4
	refFields = 5
)

var strengths = []int{soft, weak, phantom}

// noStrengths are numbers that are none, those of kinds and fields among them.
var noStrengths = []int{0, -1, -2, -3, 4, 5, 6, 7, 8, 16, 17, 257, 1 << 16, 1<<16 + 1, 1 << 31, 1<<31 + 1, -1 << 31, 1 << 32, 1<<32 + 1, 1<<32 + 2, 1<<32 + 3, -1 << 32, -1<<32 + 1, 1 << 62, 1<<62 + 2, math.MaxInt - 1, math.MaxInt, math.MinInt, math.MinInt + 1, math.MinInt + 2, math.MinInt + 3}

// noQueues are numbers that no queue has, however many there are, and that are
// not -1 either.
var noQueues = []int{-2, -3, -7, -8, -9, -16, 8, 9, 15, 16, 64, 255, 256, 1 << 31, 1<<31 + 3, 1<<31 - 1, -1 << 31, 1 << 32, 1<<32 + 1, 1<<32 - 1, -1 << 32, -1<<32 + 1, -1<<32 - 1, 1 << 62, math.MaxInt - 7, math.MaxInt - 1, math.MaxInt, math.MinInt, math.MinInt + 1, math.MinInt + 8}

// far are numbers at which no object of these tests begins.
var far = []int{0, 1, 2, 63, 65, -1, -2, -63, -64, -65, -128, 16384, 16448, 1 << 31, 1 << 32, 1<<32 + 64, 1<<32 + 128, -1 << 32, -1<<32 + 64, 1 << 62, 1<<62 + 64, math.MaxInt - 63, math.MaxInt - 1, math.MaxInt, math.MinInt, math.MinInt + 1, math.MinInt + 64}

// numbers are what a clock, and a field, may be.
var numbers = []int{7, 0, 1, -1, 64, 72, -64, 1 << 32, -1 << 32, math.MaxInt - 1, math.MaxInt, math.MinInt, math.MinInt + 1}

// model is the document's words over the layers below: a heap and queues of
// its own, which go through the same calls.
type model struct {
	*queue.Queues
	made int
}

func (m *model) begins(at int) bool {
	return slices.ContainsFunc(m.Objects(), func(o api.Obj) bool { return o.At == at })
}

func (m *model) isRef(at int) bool {
	return slices.ContainsFunc(m.Objects(), func(o api.Obj) bool { return o.At == at && o.Head.Kind == api.KRef })
}

func (m *model) hasQueue(i int) bool {
	for n := range m.Queues.Queues() {
		if n == i {
			return true
		}
	}
	return false
}

func (m *model) field(at, i int) int {
	x, _ := m.Field(at, i)
	return x
}

func (m *model) refer(strength, to, queue, clock int) (int, api.Errno) {
	switch {
	case !slices.Contains(strengths, strength):
		return 0, api.ErrArg
	case queue != -1 && !m.hasQueue(queue):
		return 0, api.ErrNone
	case strength == phantom && queue == -1:
		return 0, api.ErrArg
	case !m.begins(to):
		return 0, api.ErrNone
	}
	at, e := m.Make(head(strength))
	if e != api.OK {
		return 0, e
	}
	m.made++
	for i, x := range []int{to, queue + 1, 0, clock, m.made} {
		m.Put(at, i, x)
	}
	return at, api.OK
}

func (m *model) referent(at, clock int) (int, api.Errno) {
	if !m.isRef(at) {
		return 0, api.ErrKind
	}
	x, _ := m.Head(at)
	to := m.field(at, referent)
	switch x.Class {
	case phantom:
		return 0, api.OK
	case soft:
		if to != 0 {
			m.Put(at, stamp, clock)
		}
	}
	return to, api.OK
}

func (m *model) clear(at ...int) api.Errno {
	for _, x := range at {
		if !m.isRef(x) {
			return api.ErrKind
		}
	}
	for _, x := range at {
		m.Put(x, referent, 0)
	}
	return api.OK
}

func (m *model) enqueue(at int) (bool, api.Errno) {
	if !m.isRef(at) {
		return false, api.ErrKind
	}
	m.Put(at, referent, 0)
	q := m.field(at, inQueue)
	if q > 0 {
		m.Push(q-1, at)
		m.Put(at, inQueue, -1)
		return true, api.OK
	}
	return false, api.OK
}

// isIn tells whether a reference is in a queue.
func (m *model) isIn(at int) bool {
	for i := range m.Queues.Queues() {
		if l, _ := m.List(i); slices.Contains(l, at) {
			return true
		}
	}
	return false
}

// pair is references beside their model, through the same calls.
type pair struct {
	*ref.Refs
	m *model
}

func newHeap(t *testing.T, pages int) *object.Heap {
	t.Helper()
	h, e := object.New(pages)
	if e != api.OK {
		t.Fatalf("New of a heap of %d: %d", pages, e)
	}
	return h
}

// newPair answers references over a heap of so many pages, with three classes,
// of which so many queues are open.
func newPair(t *testing.T, pages, queues int) pair {
	t.Helper()
	p := pair{ref.New(newHeap(t, pages)), &model{Queues: queue.New(newHeap(t, pages))}}
	if p.Refs == nil {
		t.Fatal("New: nil")
	}
	for range 3 {
		p.Of(refFields, 2)
		p.m.Of(refFields, 2)
	}
	for range queues {
		p.open(t)
	}
	p.same(t)
	return p
}

// withRefs answers references of each strength by turns, all to one object,
// of the queues by turns.
func withRefs(t *testing.T, queues, refs int) (pair, []int, int) {
	t.Helper()
	p := newPair(t, 4+refs/8, queues)
	to := p.make(t, api.Head{Kind: api.KData, Len: 3}, 1, 2, 3)
	at := make([]int, refs)
	for i := range at {
		at[i] = p.refer(t, strengths[i%3], to, i%queues, 100+i)
	}
	p.same(t)
	return p, at, to
}

func head(strength int) api.Head {
	return api.Head{Kind: api.KRef, Class: strength, Len: refFields}
}

// make makes an object with some fields, by the heap alone.
func (p pair) make(t *testing.T, x api.Head, fields ...int) int {
	t.Helper()
	at, e := p.Make(x)
	if want, f := p.m.Make(x); at != want || e != api.OK || f != api.OK {
		t.Fatalf("Make(%v): %d, %d, want %d, %d", x, at, e, want, f)
	}
	for i, f := range fields {
		p.put(t, at, i, f)
	}
	return at
}

// put changes a field from without.
func (p pair) put(t *testing.T, at, i, x int) {
	t.Helper()
	if e, f := p.Put(at, i, x), p.m.Put(at, i, x); e != api.OK || f != api.OK {
		t.Fatalf("Put(%d, %d, %d): %d, %d", at, i, x, e, f)
	}
}

func (p pair) free(t *testing.T, at ...int) {
	t.Helper()
	for _, x := range at {
		if e, f := p.Free(x), p.m.Free(x); e != api.OK || f != api.OK {
			t.Fatalf("Free(%d): %d, %d", x, e, f)
		}
	}
}

func (p pair) open(t *testing.T) {
	t.Helper()
	want, e := p.m.Open()
	if i, f := p.Open(); i != want || f != e {
		t.Fatalf("Open: %d, %d, want %d, %d", i, f, want, e)
	}
}

func (p pair) poll(t *testing.T, i int) int {
	t.Helper()
	want, e := p.m.Poll(i)
	at, f := p.Poll(i)
	if at != want || f != e {
		t.Fatalf("Poll(%d): %d, %d, want %d, %d", i, at, f, want, e)
	}
	return at
}

func (p pair) refer(t *testing.T, strength, to, queue, clock int) int {
	t.Helper()
	want, e := p.m.refer(strength, to, queue, clock)
	at, f := p.Refer(strength, to, queue, clock)
	if at != want || f != e {
		t.Fatalf("Refer(%d, %d, %d, %d): %d, %d, want %d, %d", strength, to, queue, clock, at, f, want, e)
	}
	return at
}

func (p pair) referent(t *testing.T, at, clock int) int {
	t.Helper()
	want, e := p.m.referent(at, clock)
	x, f := p.Referent(at, clock)
	if x != want || f != e {
		t.Fatalf("Referent(%d, %d): %d, %d, want %d, %d", at, clock, x, f, want, e)
	}
	return x
}

func (p pair) clear(t *testing.T, at ...int) {
	t.Helper()
	want := p.m.clear(at...)
	if e := p.Clear(at...); e != want {
		t.Fatalf("Clear(%v): %d, want %d", at, e, want)
	}
}

func (p pair) enqueue(t *testing.T, at int) bool {
	t.Helper()
	want, e := p.m.enqueue(at)
	is, f := p.Enqueue(at)
	if is != want || f != e {
		t.Fatalf("Enqueue(%d): %v, %d, want %v, %d", at, is, f, want, e)
	}
	return is
}

// same looks at all that there is to see of references, of their queues and of
// their heap.
func (p pair) same(t *testing.T) {
	t.Helper()
	if n := p.Serial(); n != p.m.made {
		t.Fatalf("Serial: %d, want %d", n, p.m.made)
	}
	queues := p.m.Queues.Queues()
	if n := p.Queues.Queues(); n != queues {
		t.Fatalf("Queues: %d, want %d", n, queues)
	}
	for i := range queues {
		want, _ := p.m.List(i)
		if l, e := p.List(i); !slices.Equal(l, want) || e != api.OK {
			t.Fatalf("List(%d): %v, %d, want %v", i, l, e, want)
		}
	}
	if got, want := p.Objects(), p.m.Objects(); !sameObjects(got, want) {
		t.Fatalf("Objects: %v, want %v", got, want)
	}
	if p.Used() != p.m.Used() || p.Left() != p.m.Left() {
		t.Fatalf("Used, Left: %d, %d, want %d, %d", p.Used(), p.Left(), p.m.Used(), p.m.Left())
	}
}

func sameObjects(a, b []api.Obj) bool {
	return slices.EqualFunc(a, b, func(x, y api.Obj) bool {
		return x.At == y.At && x.Head == y.Head && slices.Equal(x.Words, y.Words)
	})
}

// has looks at all of a reference.
func (p pair) has(t *testing.T, at, strength int, fields ...int) {
	t.Helper()
	if x, e := p.Head(at); x != head(strength) || e != api.OK {
		t.Fatalf("Head(%d): %v, %d, want that of a reference of %d", at, x, e, strength)
	}
	if len(fields) != refFields {
		t.Fatalf("%d fields", len(fields))
	}
	for i, want := range fields {
		if x, e := p.Field(at, i); x != want || e != api.OK {
			t.Fatalf("Field(%d, %d): %d, %d, want %d", at, i, x, e, want)
		}
	}
}

func (p pair) inRow(t *testing.T, i int, at ...int) {
	t.Helper()
	if l, e := p.List(i); !slices.Equal(l, at) || e != api.OK {
		t.Fatalf("List(%d): %v, %d, want %v", i, l, e, at)
	}
}

// refuseRefer asks for the error by its number, and that all is as it was.
func (p pair) refuseRefer(t *testing.T, strength, to, queue, clock int, want api.Errno) {
	t.Helper()
	if at, e := p.Refer(strength, to, queue, clock); at != 0 || e != want {
		t.Fatalf("Refer(%d, %d, %d, %d): %d, %d, want 0, %d", strength, to, queue, clock, at, e, want)
	}
	p.same(t)
}

// refuse asks all that can be asked where no reference begins.
func refuse(t *testing.T, r *ref.Refs, at ...int) {
	t.Helper()
	for _, x := range at {
		if to, e := r.Referent(x, 9); to != 0 || e != api.ErrKind {
			t.Fatalf("Referent(%d): %d, %d, want 0, %d", x, to, e, api.ErrKind)
		}
		if e := r.Clear(x); e != api.ErrKind {
			t.Fatalf("Clear(%d): %d, want %d", x, e, api.ErrKind)
		}
		if is, e := r.Enqueue(x); is || e != api.ErrKind {
			t.Fatalf("Enqueue(%d): %v, %d, want false, %d", x, is, e, api.ErrKind)
		}
	}
}

// others makes objects of each kind but a reference, whose fields are what
// those of a reference may be; it answers where they begin.
func others(t *testing.T, p pair) []int {
	t.Helper()
	var at []int
	for id := range 3 {
		at = append(at, p.make(t, api.Head{Kind: api.KPlain, Class: id + 1, Len: refFields}, 64, 1, 64, 0, 1))
	}
	for _, kind := range []int{api.KRefs, api.KData} {
		for _, n := range []int{0, 1, refFields, 40, 70} {
			at = append(at, p.make(t, api.Head{Kind: kind, Len: n}))
		}
		at = append(at, p.make(t, api.Head{Kind: kind, Len: refFields}, 327700, 327716, 327732, 1, 1))
	}
	for _, x := range []int{at[0], at[4]} {
		if e, f := p.Final(x), p.m.Final(x); e != api.OK || f != api.OK {
			t.Fatalf("Final(%d): %d, %d", x, e, f)
		}
	}
	return at
}

// 13.1 New

func TestNewOfNil(t *testing.T) {
	if r := ref.New(nil); r != nil {
		t.Errorf("New(nil): %v", r)
	}
}

func TestNewHasNoReferences(t *testing.T) {
	h := newHeap(t, 4)
	h.Make(head(weak))
	h.Make(api.Head{Kind: api.KData, Len: 2})
	was := h.Objects()
	r := ref.New(h)
	if r == nil {
		t.Fatal("New: nil")
	}
	if n := r.Serial(); n != 0 {
		t.Errorf("Serial: %d", n)
	}
	if n := r.Queues.Queues(); n != 0 {
		t.Errorf("Queues: %d", n)
	}
	if l, e := r.List(0); len(l) != 0 || e != api.ErrNone {
		t.Errorf("List(0): %v, %d", l, e)
	}
	if !sameObjects(h.Objects(), was) {
		t.Errorf("Objects: %v, were %v", h.Objects(), was)
	}
}

// What the heap alone made is a reference as any other, but is not counted.
func TestReferencesOfTheHeapAlone(t *testing.T) {
	p := newPair(t, 4, 2)
	to := p.make(t, api.Head{Kind: api.KData, Len: 1})
	a := p.make(t, head(soft), 0, 0, 0, 5, 0)
	b := p.make(t, head(weak), to, 2, 9, 6, 40)
	c := p.make(t, head(soft), to, 0, 8, 7, 41)
	if p.Serial() != 0 {
		t.Fatalf("Serial: %d", p.Serial())
	}
	if x := p.referent(t, a, 30); x != 0 {
		t.Errorf("Referent: %d", x)
	}
	p.has(t, a, soft, 0, 0, 0, 5, 0)
	if x := p.referent(t, c, 30); x != to {
		t.Errorf("Referent: %d, want %d", x, to)
	}
	p.has(t, c, soft, to, 0, 8, 30, 41)
	if !p.enqueue(t, b) {
		t.Error("Enqueue: false")
	}
	p.has(t, b, weak, 0, -1, 0, 6, 40)
	p.inRow(t, 1, b)
	p.clear(t, a, c)
	p.same(t)
	at := p.refer(t, weak, a, -1, 3)
	p.has(t, at, weak, a, 0, 0, 3, 1)
}

// References of one heap share its objects, not how many were made nor the
// queues.
func TestNewTwiceOfOneHeap(t *testing.T) {
	h := newHeap(t, 4)
	a, b := ref.New(h), ref.New(h)
	to, _ := h.Make(api.Head{Kind: api.KData, Len: 1})
	a.Open()
	for range 3 {
		a.Refer(weak, to, 0, 5)
	}
	if a.Serial() != 3 || b.Serial() != 0 {
		t.Errorf("Serial: %d and %d", a.Serial(), b.Serial())
	}
	if at, e := b.Refer(weak, to, 0, 5); at != 0 || e != api.ErrNone {
		t.Errorf("Refer: %d, %d", at, e)
	}
	at, e := b.Refer(soft, to, -1, 6)
	if e != api.OK || a.Serial() != 3 || b.Serial() != 1 {
		t.Errorf("Refer: %d; Serial: %d and %d", e, a.Serial(), b.Serial())
	}
	if x, _ := h.Field(at, serial); x != 1 {
		t.Errorf("FSerial: %d", x)
	}
	if x, e := a.Referent(at, 8); x != to || e != api.OK {
		t.Errorf("Referent: %d, %d", x, e)
	}
	if x, _ := h.Field(at, stamp); x != 8 {
		t.Errorf("FStamp: %d", x)
	}
	next, e := a.Refer(weak, to, 0, 5)
	if x, _ := h.Field(next, serial); x != 4 || e != api.OK {
		t.Errorf("FSerial: %d, %d", x, e)
	}
}

// 13.1 Refer

func TestReferOfEachStrength(t *testing.T) {
	for _, strength := range strengths {
		p := newPair(t, 4, 2)
		to := p.make(t, api.Head{Kind: api.KData, Len: 1}, 42)
		at, e := p.Refer(strength, to, 1, 50)
		if want, _ := p.m.refer(strength, to, 1, 50); at != want || at == 0 || e != api.OK {
			t.Fatalf("Refer: %d, %d, want %d", at, e, want)
		}
		p.has(t, at, strength, to, 2, 0, 50, 1)
		p.same(t)
		// It is in no queue by that.
		p.inRow(t, 0)
		p.inRow(t, 1)
	}
}

func TestReferOfNoStrength(t *testing.T) {
	p := newPair(t, 4, 2)
	to := p.make(t, api.Head{Kind: api.KData, Len: 1})
	for _, strength := range noStrengths {
		for _, q := range []int{-1, 0, 1} {
			p.refuseRefer(t, strength, to, q, 5, api.ErrArg)
		}
	}
	for strength := -300; strength <= 300; strength++ {
		if !slices.Contains(strengths, strength) {
			p.refuseRefer(t, strength, to, 0, 5, api.ErrArg)
		}
	}
}

func TestReferOfEachQueue(t *testing.T) {
	for queues := range maxQueues + 1 {
		p := newPair(t, 8, queues)
		to := p.make(t, api.Head{Kind: api.KRefs, Len: 1})
		n := 0
		for _, strength := range strengths {
			for i := -1; i < queues; i++ {
				if strength == phantom && i == -1 {
					continue
				}
				n++
				at := p.refer(t, strength, to, i, 5)
				if at == 0 {
					t.Fatalf("Refer(%d, %d, %d): none", strength, to, i)
				}
				p.has(t, at, strength, to, i+1, 0, 5, n)
			}
			p.refuseRefer(t, strength, to, queues, 5, api.ErrNone)
			p.refuseRefer(t, strength, to, queues+1, 5, api.ErrNone)
		}
		p.same(t)
	}
}

func TestReferOfAQueueThatThereIsNot(t *testing.T) {
	for queues := range maxQueues + 1 {
		p := newPair(t, 4, queues)
		to := p.make(t, api.Head{Kind: api.KRefs, Len: 1})
		for _, strength := range strengths {
			for i := queues; i < 40; i++ {
				p.refuseRefer(t, strength, to, i, 5, api.ErrNone)
			}
			for _, i := range noQueues {
				p.refuseRefer(t, strength, to, i, 5, api.ErrNone)
			}
		}
	}
}

// A queue that is opened is one from then on.
func TestReferOfAQueueThatIsOpenedLater(t *testing.T) {
	p := newPair(t, 6, 0)
	to := p.make(t, api.Head{Kind: api.KRefs, Len: 1})
	for i := range maxQueues {
		p.refuseRefer(t, phantom, to, i, 5, api.ErrNone)
		p.open(t)
		at := p.refer(t, phantom, to, i, 5)
		p.has(t, at, phantom, to, i+1, 0, 5, i+1)
	}
	p.refuseRefer(t, phantom, to, maxQueues, 5, api.ErrNone)
}

func TestReferOfAPhantomWithoutAQueue(t *testing.T) {
	for queues := range maxQueues + 1 {
		p := newPair(t, 4, queues)
		to := p.make(t, api.Head{Kind: api.KRefs, Len: 1})
		for _, x := range append([]int{to, to + 1}, far...) {
			p.refuseRefer(t, phantom, x, -1, 5, api.ErrArg)
		}
		for _, strength := range []int{soft, weak} {
			if at := p.refer(t, strength, to, -1, 5); at == 0 {
				t.Errorf("Refer(%d, %d, -1): none", strength, to)
			}
		}
	}
}

func TestReferToAnObjectOfEachKind(t *testing.T) {
	p := newPair(t, 40, 2)
	to := others(t, p)
	for _, strength := range strengths {
		to = append(to, p.make(t, head(strength)), p.refer(t, strength, to[0], 0, 5))
	}
	n := p.Serial()
	for i, x := range to {
		for k, strength := range strengths {
			at := p.refer(t, strength, x, k%2, i)
			n++
			if at == 0 {
				t.Fatalf("Refer(%d, %d, %d): none", strength, x, k%2)
			}
			p.has(t, at, strength, x, k%2+1, 0, i, n)
		}
	}
	p.same(t)
}

// References refer to references, in a long row.
func TestReferToWhatWasMadeJustAhead(t *testing.T) {
	p := newPair(t, 8, 1)
	at := p.make(t, api.Head{Kind: api.KData})
	for i := range 40 {
		made := p.refer(t, strengths[i%3], at, 0, i)
		p.has(t, made, strengths[i%3], at, 1, 0, i, i+1)
		at = made
	}
	p.same(t)
}

func TestReferToEachNumberAboutTheWords(t *testing.T) {
	p := newPair(t, 30, 2)
	begins := others(t, p)
	for i := range 5 {
		begins = append(begins, p.refer(t, strengths[i%3], begins[i], 0, 5))
	}
	for to := -200; to < p.Len()+200; to++ {
		if !slices.Contains(begins, to) {
			if at, e := p.Refer(weak, to, -1, 5); at != 0 || e != api.ErrNone {
				t.Fatalf("Refer(%d): %d, %d", to, at, e)
			}
			if at, e := p.Refer(phantom, to, 1, 5); at != 0 || e != api.ErrNone {
				t.Fatalf("Refer(%d): %d, %d", to, at, e)
			}
		}
	}
	p.same(t)
}

func TestReferToFarNumbers(t *testing.T) {
	p := newPair(t, 8, 1)
	// An object begins at 64, the first word that one may have.
	to := p.make(t, api.Head{Kind: api.KData, Len: refFields})
	for _, x := range far {
		p.refuseRefer(t, soft, x, -1, 5, api.ErrNone)
		p.refuseRefer(t, weak, x, 0, 5, api.ErrNone)
		p.refuseRefer(t, phantom, x, 0, 5, api.ErrNone)
	}
	for bit := range 64 {
		p.refuseRefer(t, weak, to^1<<bit, 0, 5, api.ErrNone)
	}
	p.refuseRefer(t, weak, -to, 0, 5, api.ErrNone)
	p.refuseRefer(t, weak, ^to, 0, 5, api.ErrNone)
}

func TestReferToWhatWasFreed(t *testing.T) {
	p := newPair(t, 6, 1)
	a := p.make(t, api.Head{Kind: api.KData, Len: 3})
	b := p.make(t, api.Head{Kind: api.KData, Len: 3})
	big := p.make(t, api.Head{Kind: api.KRefs, Len: 100})
	r := p.refer(t, weak, a, 0, 5)
	p.free(t, a, big)
	for _, strength := range strengths {
		p.refuseRefer(t, strength, a, 0, 5, api.ErrNone)
		p.refuseRefer(t, strength, big, 0, 5, api.ErrNone)
	}
	// What was referred to ahead is told as it was: nobody cleared it.
	if x := p.referent(t, r, 9); x != a {
		t.Errorf("Referent: %d, want %d", x, a)
	}
	p.free(t, r)
	p.refuseRefer(t, soft, r, 0, 5, api.ErrNone)
	// What counts is what is there now.
	if x := p.make(t, api.Head{Kind: api.KRefs, Len: 2}); x != a {
		t.Fatalf("Make: %d, want %d", x, a)
	}
	if at := p.refer(t, soft, a, 0, 6); at == 0 {
		t.Error("Refer: none")
	}
	if at := p.refer(t, soft, b, 0, 7); at == 0 {
		t.Error("Refer: none")
	}
	p.same(t)
}

func TestReferWithEachClock(t *testing.T) {
	for _, clock := range numbers {
		for i, strength := range strengths {
			p := newPair(t, 4, 3)
			to := p.make(t, api.Head{Kind: api.KData, Len: 1})
			at := p.refer(t, strength, to, i, clock)
			p.has(t, at, strength, to, i+1, 0, clock, 1)
			again := p.refer(t, strength, to, 2, clock)
			p.has(t, again, strength, to, 3, 0, clock, 2)
			p.has(t, at, strength, to, i+1, 0, clock, 1)
			p.same(t)
		}
	}
}

// FNext is 0 also where another reference, that was in a row, had been.
func TestReferWhereAnotherOneWas(t *testing.T) {
	p, at, to := withRefs(t, 1, 6)
	for _, x := range at {
		p.enqueue(t, x)
	}
	p.poll(t, 0)
	p.has(t, at[1], weak, 0, -1, at[2], 101, 2)
	for _, i := range numbers {
		p.put(t, at[0], next, i)
		p.put(t, at[0], inQueue, i)
		p.free(t, at[0])
		if x := p.refer(t, weak, to, -1, 4); x != at[0] {
			t.Fatalf("Refer: %d, want %d", x, at[0])
		}
		p.has(t, at[0], weak, to, 0, 0, 4, p.m.made)
		p.same(t)
	}
}

func TestReferWithoutRoom(t *testing.T) {
	for _, pages := range []int{2, 3, 4, 9} {
		p := newPair(t, pages, 2)
		to := p.make(t, api.Head{Kind: api.KData, Len: 1})
		n := 8 * (pages - 2)
		var at []int
		for i := range n {
			at = append(at, p.refer(t, strengths[i%3], to, i%2, i))
			if at[i] == 0 {
				t.Fatalf("%d pages: no room for reference %d", pages, i)
			}
		}
		for _, strength := range strengths {
			p.refuseRefer(t, strength, to, 1, 5, api.ErrFull)
			p.refuseRefer(t, strength, to, 0, 5, api.ErrFull)
		}
		p.refuseRefer(t, soft, to, -1, 5, api.ErrFull)
		if p.Serial() != n {
			t.Fatalf("Serial: %d, want %d", p.Serial(), n)
		}
		if n == 0 {
			continue
		}
		// Behind one that goes there is room for one, which is counted on.
		p.free(t, at[n/2])
		if x := p.refer(t, weak, to, 0, 6); x != at[n/2] {
			t.Fatalf("Refer: %d, want %d", x, at[n/2])
		}
		p.has(t, at[n/2], weak, to, 1, 0, 6, n+1)
		p.refuseRefer(t, weak, to, 0, 6, api.ErrFull)
	}
}

// Each error counts ahead of those that the chapter names behind it.
func TestTheOrderOfRefersErrors(t *testing.T) {
	p := newPair(t, 3, 2)
	to := p.make(t, api.Head{Kind: api.KData, Len: 1})
	orders := func(full api.Errno) {
		t.Helper()
		for _, x := range append([]int{to, to + 1}, far...) {
			for _, strength := range noStrengths {
				for _, q := range []int{-1, 0, 1, 2, -2, math.MaxInt, math.MinInt} {
					p.refuseRefer(t, strength, x, q, 5, api.ErrArg)
				}
			}
			for _, strength := range strengths {
				for _, q := range append([]int{2, 3, 7}, noQueues...) {
					p.refuseRefer(t, strength, x, q, 5, api.ErrNone)
				}
			}
			p.refuseRefer(t, phantom, x, -1, 5, api.ErrArg)
			if x == to {
				continue
			}
			for _, strength := range strengths {
				p.refuseRefer(t, strength, x, 0, 5, api.ErrNone)
				p.refuseRefer(t, strength, x, 1, 5, api.ErrNone)
			}
			p.refuseRefer(t, soft, x, -1, 5, api.ErrNone)
			p.refuseRefer(t, weak, x, -1, 5, api.ErrNone)
		}
		if full == api.ErrFull {
			p.refuseRefer(t, soft, to, -1, 5, full)
			p.refuseRefer(t, phantom, to, 0, 5, full)
		}
	}
	orders(api.OK)
	for p.refer(t, weak, to, -1, 5) != 0 {
	}
	orders(api.ErrFull)
}

// 13.1 Serial, 13.3

func TestSerial(t *testing.T) {
	p := newPair(t, 12, 1)
	to := p.make(t, api.Head{Kind: api.KData, Len: 1})
	for i := range 50 {
		if n := p.Serial(); n != i {
			t.Fatalf("Serial: %d, want %d", n, i)
		}
		at := p.refer(t, strengths[i%3], to, 0, 5)
		if x, e := p.Field(at, serial); x != i+1 || e != api.OK {
			t.Fatalf("FSerial: %d, %d, want %d", x, e, i+1)
		}
		p.refuseRefer(t, 0, to, 0, 5, api.ErrArg)
		p.refuseRefer(t, weak, to, 1, 5, api.ErrNone)
		p.refuseRefer(t, phantom, to, -1, 5, api.ErrArg)
		p.refuseRefer(t, weak, to+1, 0, 5, api.ErrNone)
		if n := p.Serial(); n != i+1 {
			t.Fatalf("Serial: %d, want %d", n, i+1)
		}
	}
}

// How many were made, not how many there are: none that goes is taken off.
func TestSerialCountsWhatWasFreed(t *testing.T) {
	p := newPair(t, 3, 1)
	to := p.make(t, api.Head{Kind: api.KData, Len: 1})
	for i := range 200 {
		at := p.refer(t, strengths[i%3], to, 0, 5)
		p.has(t, at, strengths[i%3], to, 1, 0, 5, i+1)
		if i%5 == 0 {
			p.clear(t, at)
		}
		if i%7 == 0 {
			p.enqueue(t, at)
			p.poll(t, 0)
		}
		p.free(t, at)
		if p.Serial() != i+1 {
			t.Fatalf("Serial: %d, want %d", p.Serial(), i+1)
		}
	}
}

// The field is a field: what is put there changes nothing in what is counted.
func TestSerialDoesNotGoByFSerial(t *testing.T) {
	for _, x := range numbers {
		p, at, to := withRefs(t, 1, 4)
		for _, r := range at {
			p.put(t, r, serial, x)
		}
		p.same(t)
		p.has(t, p.refer(t, soft, to, 0, 3), soft, to, 1, 0, 3, 5)
	}
}

// 13.2 Referent

func TestReferentOfEachStrength(t *testing.T) {
	for _, clock := range numbers {
		p := newPair(t, 4, 1)
		to := p.make(t, api.Head{Kind: api.KRefs, Len: 1})
		a := p.refer(t, soft, to, -1, 50)
		b := p.refer(t, weak, a, -1, 60)
		c := p.refer(t, phantom, b, 0, 70)
		for i, r := range []struct{ at, want int }{{a, to}, {b, a}, {c, 0}} {
			if x, e := p.Referent(r.at, clock); x != r.want || e != api.OK {
				t.Fatalf("Referent of %d: %d, %d, want %d", i, x, e, r.want)
			}
		}
		p.has(t, a, soft, to, 0, 0, clock, 1)
		p.has(t, b, weak, a, 0, 0, 60, 2)
		p.has(t, c, phantom, b, 1, 0, 70, 3)
	}
}

// FStamp is the clock of the last call, also where it is less than it was.
func TestReferentOfASoftByEachClock(t *testing.T) {
	p, at, to := withRefs(t, 2, 6)
	for _, clock := range slices.Concat(numbers, []int{5, 4, 6, 6, -6}) {
		if x := p.referent(t, at[3], clock); x != to {
			t.Fatalf("Referent: %d, want %d", x, to)
		}
		p.has(t, at[3], soft, to, 2, 0, clock, 4)
		p.same(t)
	}
	p.has(t, at[0], soft, to, 1, 0, 100, 1)
}

func TestReferentOfOneThatIsCleared(t *testing.T) {
	p, at, _ := withRefs(t, 1, 6)
	p.clear(t, at...)
	for _, clock := range numbers {
		for i, x := range at {
			if to := p.referent(t, x, clock); to != 0 {
				t.Fatalf("Referent: %d", to)
			}
			p.has(t, x, strengths[i%3], 0, 1, 0, 100+i, i+1)
		}
	}
	p.same(t)
}

func TestReferentOfOneThatIsInItsQueue(t *testing.T) {
	p, at, _ := withRefs(t, 1, 6)
	for i, x := range at {
		p.enqueue(t, x)
		if to := p.referent(t, x, 9); to != 0 {
			t.Fatalf("Referent: %d", to)
		}
		p.has(t, x, strengths[i%3], 0, -1, 0, 100+i, i+1)
	}
	p.same(t)
}

// FReferent is told as it is; only of a Soft, where it is not 0, is there a
// stamp.
func TestReferentOfEachFReferent(t *testing.T) {
	for _, x := range numbers {
		p, at, _ := withRefs(t, 1, 3)
		for i, r := range at {
			p.put(t, r, referent, x)
			want := []int{x, x, 0}[i]
			if to := p.referent(t, r, 900+i); to != want {
				t.Fatalf("Referent: %d, want %d", to, want)
			}
		}
		wantStamp := 900
		if x == 0 {
			wantStamp = 100
		}
		p.has(t, at[0], soft, x, 1, 0, wantStamp, 1)
		p.has(t, at[1], weak, x, 1, 0, 101, 2)
		p.has(t, at[2], phantom, x, 1, 0, 102, 3)
		p.same(t)
	}
}

func TestTheExample(t *testing.T) {
	p, at, _ := withRefs(t, 1, 3)
	for range 3 {
		if x, e := p.Referent(at[2], 5); x != 0 || e != api.OK {
			t.Errorf("Referent of a Phantom: %d, %d", x, e)
		}
	}
}

// 13.2, 13.3: of what is no reference

func TestOfAnObjectOfAnotherKind(t *testing.T) {
	p := newPair(t, 30, 2)
	at := others(t, p)
	for i := range 4 {
		p.refer(t, strengths[i%3], at[i], 1, 5)
	}
	for _, x := range at {
		refuse(t, p.Refs, x)
		p.same(t)
	}
}

// Only where a reference begins there is one: not within it, not behind it,
// and not where a field has the word of one.
func TestOfEachNumberAboutTheWords(t *testing.T) {
	p := newPair(t, 30, 2)
	data := others(t, p)
	var at []int
	for i := range 11 {
		at = append(at, p.refer(t, strengths[i%3], data[i], 0, 327700))
		p.put(t, at[i], referent, 327716)
		p.put(t, at[i], serial, 327732)
	}
	p.free(t, at[4])
	at = slices.Delete(at, 4, 5)
	for x := -200; x < p.Len()+200; x++ {
		if !slices.Contains(at, x) {
			refuse(t, p.Refs, x)
		}
	}
	p.same(t)
}

func TestOfFarNumbers(t *testing.T) {
	p, at, _ := withRefs(t, 2, 12)
	refuse(t, p.Refs, far...)
	for _, r := range at {
		for bit := range 64 {
			if x := r ^ 1<<bit; !slices.Contains(at, x) {
				refuse(t, p.Refs, x)
			}
		}
		refuse(t, p.Refs, -r, ^r)
	}
	p.same(t)
}

func TestOfAReferenceThatWasFreed(t *testing.T) {
	p, at, _ := withRefs(t, 2, 6)
	p.free(t, at[1], at[5])
	refuse(t, p.Refs, at[1], at[5])
	p.same(t)
	if x := p.make(t, api.Head{Kind: api.KData, Len: refFields}, 1, 2, 3, 4, 5); x != at[1] {
		t.Fatalf("Make: %d, want %d", x, at[1])
	}
	refuse(t, p.Refs, at[1])
	p.same(t)
	p.enqueue(t, at[0])
	p.poll(t, 0)
	p.free(t, at[0])
	refuse(t, p.Refs, at[0])
	p.same(t)
}

// A block that Alloc alone took is no reference.
func TestOfABlockWithoutAHead(t *testing.T) {
	p, _, _ := withRefs(t, 2, 3)
	at, e := p.Alloc(refFields + 1)
	p.m.Alloc(refFields + 1)
	if e != api.OK {
		t.Fatal(e)
	}
	refuse(t, p.Refs, at)
	p.same(t)
}

// 13.2 Clear

func TestClearOfNone(t *testing.T) {
	p, _, _ := withRefs(t, 2, 6)
	for _, none := range [][]int{nil, {}} {
		if e := p.Clear(none...); e != api.OK {
			t.Errorf("Clear of none: %d", e)
		}
		p.same(t)
	}
	if e := p.Clear(); e != api.OK {
		t.Errorf("Clear(): %d", e)
	}
	p.same(t)
	if e := newPair(t, 2, 0).Clear(); e != api.OK {
		t.Errorf("Clear() without references: %d", e)
	}
}

func TestClearOfOne(t *testing.T) {
	for i := range 6 {
		p, at, to := withRefs(t, 2, 6)
		if e := p.Clear(at[i]); e != api.OK {
			t.Fatalf("Clear: %d", e)
		}
		p.m.clear(at[i])
		for k, x := range at {
			want := to
			if k == i {
				want = 0
			}
			p.has(t, x, strengths[k%3], want, k%2+1, 0, 100+k, k+1)
		}
		p.same(t)
	}
}

// Each of these parts of the references is cleared, the others stay.
func TestClearOfMany(t *testing.T) {
	const n = 6
	for part := range 1 << n {
		p, at, to := withRefs(t, 2, n)
		var list []int
		for k := range n {
			if part>>k&1 == 1 {
				list = append(list, at[k])
			}
		}
		if part%2 == 0 {
			slices.Reverse(list)
		}
		p.clear(t, list...)
		for k, x := range at {
			want := to
			if part>>k&1 == 1 {
				want = 0
			}
			p.has(t, x, strengths[k%3], want, k%2+1, 0, 100+k, k+1)
		}
		p.same(t)
	}
}

func TestClearOfOneTwice(t *testing.T) {
	p, at, to := withRefs(t, 1, 4)
	p.clear(t, at[1], at[1])
	p.clear(t, at[2], at[0], at[2], at[2], at[0])
	for i := range 3 {
		p.has(t, at[i], strengths[i], 0, 1, 0, 100+i, i+1)
	}
	p.has(t, at[3], soft, to, 1, 0, 103, 4)
	// And where it is cleared already.
	p.clear(t, at...)
	p.clear(t, at...)
	p.same(t)
}

// Where one of them is none, none is cleared, whichever it is.
func TestClearWhereOneIsNoReference(t *testing.T) {
	p, at, to := withRefs(t, 2, 5)
	gone := p.refer(t, weak, to, 0, 5)
	p.free(t, gone)
	for _, wrong := range append([]int{to, gone, at[0] + 1, at[0] - 1}, far...) {
		for i := range len(at) + 1 {
			list := slices.Insert(slices.Clone(at), i, wrong)
			if e := p.Clear(list...); e != api.ErrKind {
				t.Fatalf("Clear(%v): %d, want %d", list, e, api.ErrKind)
			}
			p.same(t)
		}
		for _, list := range [][]int{{wrong}, {wrong, wrong}, {wrong, at[0], wrong}, {at[0], at[0], wrong}} {
			if e := p.Clear(list...); e != api.ErrKind {
				t.Fatalf("Clear(%v): %d, want %d", list, e, api.ErrKind)
			}
			p.same(t)
		}
	}
	p.clear(t, at...)
	p.same(t)
}

// What is cleared goes to no queue by that, and stays in the one where it is.
func TestClearLeavesTheQueues(t *testing.T) {
	p, at, _ := withRefs(t, 2, 8)
	p.clear(t, at[0], at[1])
	p.inRow(t, 0)
	p.inRow(t, 1)
	p.enqueue(t, at[2])
	p.enqueue(t, at[4])
	p.enqueue(t, at[3])
	p.clear(t, at...)
	p.inRow(t, 0, at[2], at[4])
	p.inRow(t, 1, at[3])
	p.has(t, at[2], phantom, 0, -1, at[4], 102, 3)
	p.same(t)
}

func TestClearOfAWholeHeap(t *testing.T) {
	r := ref.New(newHeap(t, api.MaxPages))
	to, _ := r.Make(api.Head{Kind: api.KData, Len: 1})
	var at []int
	for {
		x, e := r.Refer(weak, to, -1, 5)
		if e != api.OK {
			break
		}
		at = append(at, x)
	}
	if len(at) != 254*8 || r.Serial() != len(at) {
		t.Fatalf("%d references, Serial: %d", len(at), r.Serial())
	}
	if e := r.Clear(append(at, to)...); e != api.ErrKind {
		t.Fatalf("Clear: %d", e)
	}
	for _, x := range at {
		if y, e := r.Referent(x, 9); y != to || e != api.OK {
			t.Fatalf("Referent(%d): %d, %d", x, y, e)
		}
	}
	if e := r.Clear(at...); e != api.OK {
		t.Fatalf("Clear: %d", e)
	}
	for i, x := range at {
		if y, e := r.Referent(x, 9); y != 0 || e != api.OK {
			t.Fatalf("Referent(%d): %d, %d", x, y, e)
		}
		if y, e := r.Field(x, serial); y != i+1 || e != api.OK {
			t.Fatalf("FSerial of %d: %d, %d, want %d", x, y, e, i+1)
		}
	}
}

// 13.3 Enqueue

func TestEnqueueOfOneWithAQueue(t *testing.T) {
	for _, strength := range strengths {
		for i := range 3 {
			p := newPair(t, 4, 3)
			to := p.make(t, api.Head{Kind: api.KData, Len: 1})
			at := p.refer(t, strength, to, i, 50)
			if is, e := p.Enqueue(at); !is || e != api.OK {
				t.Fatalf("Enqueue: %v, %d", is, e)
			}
			p.m.enqueue(at)
			p.has(t, at, strength, 0, -1, 0, 50, 1)
			for k := range 3 {
				if k == i {
					p.inRow(t, k, at)
				} else {
					p.inRow(t, k)
				}
			}
			p.same(t)
		}
	}
}

func TestEnqueueOfOneWithoutAQueue(t *testing.T) {
	for queues := range maxQueues + 1 {
		for _, strength := range []int{soft, weak} {
			p := newPair(t, 4, queues)
			to := p.make(t, api.Head{Kind: api.KData, Len: 1})
			at := p.refer(t, strength, to, -1, 50)
			for range 3 {
				if is, e := p.Enqueue(at); is || e != api.OK {
					t.Fatalf("Enqueue: %v, %d", is, e)
				}
				p.m.enqueue(at)
				p.has(t, at, strength, 0, 0, 0, 50, 1)
				p.same(t)
			}
		}
	}
}

// The first queue and the last one, and each between.
func TestEnqueueToEachOfTheMostQueues(t *testing.T) {
	p, at, _ := withRefs(t, maxQueues, 3*maxQueues)
	for k, x := range at {
		if !p.enqueue(t, x) {
			t.Fatalf("Enqueue of %d: false", k)
		}
		p.same(t)
	}
	for i := range maxQueues {
		p.inRow(t, i, at[i], at[i+maxQueues], at[i+2*maxQueues])
		p.has(t, at[i], strengths[i%3], 0, -1, at[i+maxQueues], 100+i, i+1)
	}
}

// FNext of the one ahead is the one that came, that of the one that came is 0.
func TestEnqueueInARow(t *testing.T) {
	p, at, to := withRefs(t, 1, 6)
	order := []int{4, 0, 5, 1, 3, 2}
	for k, i := range order {
		p.put(t, at[i], next, 77)
		p.enqueue(t, at[i])
		p.has(t, at[i], strengths[i%3], 0, -1, 0, 100+i, i+1)
		if k > 0 {
			ahead := order[k-1]
			p.has(t, at[ahead], strengths[ahead%3], 0, -1, at[i], 100+ahead, ahead+1)
		}
		p.same(t)
	}
	for _, i := range order {
		if x := p.poll(t, 0); x != at[i] {
			t.Fatalf("Poll: %d, want %d", x, at[i])
		}
		p.has(t, at[i], strengths[i%3], 0, -1, 0, 100+i, i+1)
	}
	if x := p.poll(t, 0); x != 0 {
		t.Errorf("Poll: %d", x)
	}
	p.refer(t, weak, to, 0, 1)
	p.same(t)
}

func TestEnqueueOfOneThatIsClearedAhead(t *testing.T) {
	p, at, to := withRefs(t, 2, 6)
	p.clear(t, at...)
	loose := p.refer(t, weak, to, -1, 9)
	p.clear(t, loose)
	for i, x := range at {
		if !p.enqueue(t, x) {
			t.Fatalf("Enqueue of %d: false", i)
		}
		p.has(t, x, strengths[i%3], 0, -1, 0, 100+i, i+1)
	}
	if p.enqueue(t, loose) {
		t.Error("Enqueue of one without a queue: true")
	}
	p.has(t, loose, weak, 0, 0, 0, 9, 7)
	p.same(t)
}

// The field is what counts: 0 and what is below is none.
func TestEnqueueGoesByFQueue(t *testing.T) {
	for _, x := range []int{0, -1, -2, -8, -9, math.MinInt, math.MinInt + 1, -1 << 32, -1<<32 + 1} {
		p, at, _ := withRefs(t, 2, 3)
		for i, r := range at {
			p.put(t, r, inQueue, x)
			if p.enqueue(t, r) {
				t.Fatalf("Enqueue of FQueue %d: true", x)
			}
			p.has(t, r, strengths[i%3], 0, x, 0, 100+i, i+1)
			p.same(t)
		}
	}
	p, at, _ := withRefs(t, 3, 3)
	p.put(t, at[0], inQueue, 3)
	p.put(t, at[2], inQueue, 1)
	for _, r := range at {
		p.enqueue(t, r)
	}
	p.inRow(t, 0, at[2])
	p.inRow(t, 1, at[1])
	p.inRow(t, 2, at[0])
	p.same(t)
}

// Where FQueue was put from without to a queue that there is not, the call
// goes by the words all the same, and once.
func TestEnqueueOfAQueueThatThereIsNot(t *testing.T) {
	for _, x := range []int{3, 4, 8, 9, 10, 1 << 31, 1 << 32, 1<<32 + 1, math.MaxInt - 1, math.MaxInt} {
		p, at, _ := withRefs(t, 2, 3)
		p.put(t, at[1], inQueue, x)
		p.put(t, at[1], next, 5)
		if !p.enqueue(t, at[1]) {
			t.Fatalf("Enqueue of FQueue %d: false", x)
		}
		p.has(t, at[1], weak, 0, -1, 5, 101, 2)
		p.inRow(t, 0)
		p.inRow(t, 1)
		if p.enqueue(t, at[1]) {
			t.Fatalf("Enqueue of FQueue %d, once more: true", x)
		}
		p.same(t)
	}
}

// 13.4

func TestAReferenceIsPutToItsQueueOnce(t *testing.T) {
	for _, strength := range strengths {
		p := newPair(t, 4, 2)
		to := p.make(t, api.Head{Kind: api.KData, Len: 1})
		at, other := p.refer(t, strength, to, 1, 50), p.refer(t, weak, to, 1, 50)
		if !p.enqueue(t, at) {
			t.Fatal("Enqueue: false")
		}
		again := func() {
			t.Helper()
			for range 3 {
				if is, e := p.Enqueue(at); is || e != api.OK {
					t.Fatalf("Enqueue once more: %v, %d", is, e)
				}
				p.same(t)
			}
		}
		again()
		p.inRow(t, 1, at)
		p.enqueue(t, other)
		again()
		p.inRow(t, 1, at, other)
		p.has(t, at, strength, 0, -1, other, 50, 1)
		if x := p.poll(t, 1); x != at {
			t.Fatalf("Poll: %d, want %d", x, at)
		}
		again()
		p.inRow(t, 1, other)
		p.clear(t, at)
		p.referent(t, at, 9)
		p.put(t, at, referent, to)
		p.enqueue(t, at)
		p.has(t, at, strength, 0, -1, 0, 50, 1)
		again()
		p.poll(t, 1)
		again()
		p.inRow(t, 1)
	}
}

// However often each of many is put to its queue, each comes once.
func TestEachOfManyComesOnce(t *testing.T) {
	below := numbersBelow()
	p, at, _ := withRefs(t, 3, 30)
	was := make(map[int]int)
	for range 600 {
		x := at[below(len(at))]
		if p.enqueue(t, x) {
			was[x]++
		}
		if below(4) == 0 {
			p.poll(t, below(3))
		}
		p.same(t)
	}
	for _, x := range at {
		if was[x] != 1 {
			t.Errorf("%d was put to its queue %d times", x, was[x])
		}
	}
}

// Rows of calls

// numbersBelow answers numbers from a fixed rule, each from 0 to below what is
// asked.
func numbersBelow() func(below int) int {
	seed := uint64(1)
	return func(below int) int {
		seed = seed*6364136223846793005 + 1442695040888963407
		return int(seed>>33) % below
	}
}

func TestManyOverSeveralQueuesByTurns(t *testing.T) {
	p, at, _ := withRefs(t, 5, 60)
	rows := make([][]int, 5)
	for k := range at {
		i := k * 7 % len(at)
		p.enqueue(t, at[i])
		rows[i%5] = append(rows[i%5], at[i])
		if k%4 == 3 {
			q := k % 5
			want := 0
			if len(rows[q]) > 0 {
				want, rows[q] = rows[q][0], rows[q][1:]
			}
			if x := p.poll(t, q); x != want {
				t.Fatalf("Poll(%d): %d, want %d", q, x, want)
			}
		}
		for q := range rows {
			p.inRow(t, q, rows[q]...)
		}
		p.same(t)
	}
}

// TestALongRow holds references against their model through rows of right and
// wrong calls, from a fixed rule.
func TestALongRow(t *testing.T) {
	below := numbersBelow()
	for _, pages := range []int{2, 3, 5, 9} {
		for queues := range maxQueues + 1 {
			p := newPair(t, pages, queues)
			for range 400 {
				step(t, p, below)
				p.same(t)
			}
		}
	}
}

// step is one call on both. The model answers what is due.
func step(t *testing.T, p pair, below func(int) int) {
	t.Helper()
	var at, refs []int
	for _, o := range p.m.Objects() {
		at = append(at, o.At)
		if o.Head.Kind == api.KRef {
			refs = append(refs, o.At)
		}
	}
	pick := func(of []int) int {
		if len(of) == 0 || below(12) == 0 {
			return far[below(len(far))]
		}
		return of[below(len(of))] + below(40)/39
	}
	i := below(p.m.Queues.Queues()+2) - 1
	clock := numbers[below(len(numbers))]
	switch below(12) {
	case 0:
		stepOfTheHeap(t, p, pick(at), below)
	case 1:
		p.refer(t, noStrengths[below(len(noStrengths))], pick(at), i, clock)
	case 2:
		p.refer(t, 1+below(3), pick(at), noQueues[below(len(noQueues))], clock)
	case 3, 4, 5:
		p.refer(t, 1+below(3), pick(at), i, clock)
	case 6, 7:
		p.referent(t, pick(refs), clock)
	case 8:
		p.clear(t, pick(refs), pick(refs), pick(refs))
	case 9:
		p.poll(t, i)
	default:
		p.enqueue(t, pick(refs))
	}
}

// stepOfTheHeap has an object go, unless it is in a queue, or has one come.
func stepOfTheHeap(t *testing.T, p pair, at int, below func(int) int) {
	t.Helper()
	if p.m.isIn(at) || below(2) == 0 {
		x := api.Head{Kind: api.KData, Len: below(9)}
		p.Make(x)
		p.m.Make(x)
		return
	}
	p.Free(at)
	p.m.Free(at)
}

// R3

func TestWhatIsHandedInStays(t *testing.T) {
	p, at, to := withRefs(t, 2, 6)
	for _, list := range [][]int{{at[2], at[0], at[2]}, {at[1], to, at[3]}, {to}, {}} {
		wide := make([]int, len(list), len(list)+4)
		copy(wide, list)
		behind := wide[:cap(wide)]
		for i := len(list); i < len(behind); i++ {
			behind[i] = at[4]
		}
		p.clear(t, wide...)
		if !slices.Equal(wide, list) || slices.ContainsFunc(behind[len(list):], func(x int) bool { return x != at[4] }) {
			t.Errorf("Clear wrote into what it was given: %v, %v", wide, behind)
		}
		p.same(t)
		for i := range behind {
			behind[i] = at[5]
		}
		p.same(t)
	}
	p.has(t, at[4], weak, to, 1, 0, 104, 5)
	p.has(t, at[5], phantom, to, 2, 0, 105, 6)
}

// spoil writes into a list, and into the room behind it.
func spoil(l []int) {
	wide := l[:cap(l)]
	for i := range wide {
		wide[i] = -7
	}
	_ = append(l, -8)
	_ = append(l[:0], -9)
}

func TestWhatIsToldIsNewMemory(t *testing.T) {
	p, at, to := withRefs(t, 2, 12)
	for _, x := range at {
		p.enqueue(t, x)
		for i := range 2 {
			l, _ := p.List(i)
			spoil(l)
		}
		for _, o := range p.Objects() {
			spoil(o.Words)
		}
		spoil(p.Heap.Refs(x))
		spoil(p.Each())
		p.same(t)
	}
	l, _ := p.List(0)
	want := slices.Clone(l)
	p.poll(t, 0)
	p.enqueue(t, p.refer(t, weak, to, 0, 5))
	if !slices.Equal(l, want) {
		t.Errorf("List told ahead: %v, want %v", l, want)
	}
}

// R5

func TestTwoOverTwoHeapsDoNotTouch(t *testing.T) {
	a, at, to := withRefs(t, 2, 6)
	b, bt, bto := withRefs(t, 2, 6)
	if !slices.Equal(at, bt) || to != bto {
		t.Fatalf("the heaps are not alike: %v, %v", at, bt)
	}
	a.clear(t, at[0], at[1])
	b.same(t)
	a.referent(t, at[3], 9)
	b.same(t)
	b.enqueue(t, bt[0])
	b.enqueue(t, bt[2])
	a.same(t)
	a.refer(t, weak, to, 1, 5)
	b.same(t)
	if a.Serial() != 7 || b.Serial() != 6 {
		t.Errorf("Serial: %d and %d", a.Serial(), b.Serial())
	}
	a.enqueue(t, at[4])
	b.poll(t, 0)
	a.same(t)
	b.same(t)
	b.has(t, b.refer(t, weak, to, 1, 5), weak, to, 2, 0, 5, 7)
	a.same(t)
}

func TestTheSameCallsTellTheSame(t *testing.T) {
	row := func() []any {
		r := ref.New(newHeap(t, 6))
		below := numbersBelow()
		to, _ := r.Make(api.Head{Kind: api.KData, Len: 1})
		at := []int{to}
		var told []any
		tell := func(x ...any) { told = append(told, x...) }
		for range 600 {
			x, clock := at[below(len(at))], numbers[below(len(numbers))]
			switch below(7) {
			case 0:
				i, e := r.Open()
				tell(i, e)
			case 1, 2:
				made, e := r.Refer(below(5), x, below(4)-1, clock)
				if e == api.OK {
					at = append(at, made)
				}
				tell(made, e)
			case 3:
				y, e := r.Referent(x, clock)
				tell(y, e)
			case 4:
				tell(r.Clear(x, at[below(len(at))]))
			case 5:
				is, e := r.Enqueue(x)
				tell(is, e)
			default:
				y, e := r.Poll(below(4))
				tell(y, e)
			}
			l, e := r.List(0)
			tell(l, e, r.Serial(), r.Objects())
		}
		return told
	}
	if a, b := row(), row(); !reflect.DeepEqual(a, b) {
		t.Error("two rows of the same calls differ")
	}
}

// Methods of nil, and what is due whatever is done

func TestMethodsOfNil(t *testing.T) {
	var none *ref.Refs
	for range 2 {
		if n := none.Serial(); n != 0 {
			t.Errorf("Serial: %d", n)
		}
		if e := none.Clear(); e != api.ErrKind {
			t.Errorf("Clear: %d", e)
		}
		if e := none.Clear(64, 72); e != api.ErrKind {
			t.Errorf("Clear: %d", e)
		}
		refuse(t, none, append([]int{64, 72}, far...)...)
		for _, strength := range append(slices.Clone(strengths), noStrengths...) {
			for _, to := range append([]int{64, 72}, far...) {
				for _, q := range append([]int{-1, 0, 7}, noQueues...) {
					if at, e := none.Refer(strength, to, q, 5); at != 0 || e != api.ErrNone {
						t.Fatalf("Refer(%d, %d, %d): %d, %d", strength, to, q, at, e)
					}
				}
			}
		}
	}
}

// References without a heap, or of one without a space, are none.
func TestRefsOfNoHeap(t *testing.T) {
	for _, r := range []*ref.Refs{{}, {Queues: &queue.Queues{}}, ref.New(&object.Heap{}), {Queues: queue.New(&object.Heap{})}} {
		refuse(t, r, append([]int{64, 72}, far...)...)
		if e := r.Clear(); e != api.OK {
			t.Errorf("Clear of none: %d", e)
		}
		if r.Queues != nil {
			r.Open()
			if at, e := r.Refer(phantom, 64, 0, 5); at != 0 || e != api.ErrNone {
				t.Errorf("Refer: %d, %d", at, e)
			}
		}
		for _, to := range append([]int{64, 72}, far...) {
			for _, q := range append([]int{-1, 7}, noQueues...) {
				if at, e := r.Refer(weak, to, q, 5); at != 0 || e != api.ErrNone {
					t.Fatalf("Refer(%d, %d): %d, %d", to, q, at, e)
				}
			}
			if at, e := r.Refer(phantom, to, -1, 5); at != 0 || e != api.ErrArg {
				t.Fatalf("Refer(%d): %d, %d", to, at, e)
			}
			if at, e := r.Refer(0, to, -1, 5); at != 0 || e != api.ErrArg {
				t.Fatalf("Refer(%d): %d, %d", to, at, e)
			}
		}
		if n := r.Serial(); n != 0 {
			t.Errorf("Serial: %d", n)
		}
	}
}

// Of a reference that is freed while it is in a queue nothing is said, nor of
// words that are written from without: but each call ends, and none panics.
func TestEachCallEndsWhateverIsDone(t *testing.T) {
	below := numbersBelow()
	for _, refs := range []int{1, 2, 5, 17} {
		p, at, to := withRefs(t, 2, refs)
		for range 4000 {
			x := at[below(len(at))]
			switch below(9) {
			case 0:
				p.Free(x)
			case 1:
				p.Make(api.Head{Kind: api.KData, Len: refFields})
			case 2:
				p.Refer(1+below(3), to, below(3)-1, below(9))
			case 3:
				p.Store(x+below(7), below(1<<20))
			case 4:
				p.Put(x, below(refFields), numbers[below(len(numbers))])
			case 5:
				p.Poll(below(2))
			case 6:
				p.Push(below(2), x)
			default:
				p.Enqueue(x)
			}
			p.Referent(x, below(9))
			p.Clear(x, at[below(len(at))])
		}
	}
}

// Ways

func TestRefsEmbedQueues(t *testing.T) {
	f, ok := reflect.TypeFor[ref.Refs]().FieldByName("Queues")
	if !ok || !f.Anonymous || f.Type != reflect.TypeFor[*queue.Queues]() {
		t.Errorf("Queues is %v", f)
	}
	h := newHeap(t, 2)
	if r := ref.New(h); r.Queues == nil || r.Heap != h {
		t.Error("the heap is not the one that was handed in")
	}
}

// How many were made is the Refs' own: nobody from without reaches it.
func TestRefsShowTheirQueuesAlone(t *testing.T) {
	of := reflect.TypeFor[ref.Refs]()
	for i := range of.NumField() {
		if f := of.Field(i); f.IsExported() && f.Name != "Queues" {
			t.Errorf("%s", f.Name)
		}
	}
	// All but Queues itself, which is the name of the field, too.
	queues := reflect.TypeFor[*queue.Queues]().NumMethod() - 1
	if n := reflect.TypeFor[*ref.Refs]().NumMethod(); n != queues+5 {
		t.Errorf("%d methods, %d of queues", n, queues)
	}
}

func TestClearIsVariadic(t *testing.T) {
	if !reflect.TypeOf((*ref.Refs).Clear).IsVariadic() {
		t.Error("Clear is not variadic")
	}
}

// What is called here of references is their queues' and their heap's.
func TestTheQueuesAndTheHeapArePromoted(t *testing.T) {
	h := newHeap(t, 4)
	r := ref.New(h)
	if i, e := r.Open(); i != 0 || e != api.OK || r.Queues.Queues() != 1 {
		t.Errorf("Open: %d, %d", i, e)
	}
	if id, e := r.Of(2, 1); id != 1 || e != api.OK || h.Classes() != 1 {
		t.Errorf("Of: %d, %d", id, e)
	}
	to, e := r.Make(api.Head{Kind: api.KPlain, Class: 1, Len: 2})
	if to != 64 || e != api.OK {
		t.Fatalf("Make: %d, %d", to, e)
	}
	if l := r.Refs(to); !slices.Equal(l, []int{1}) || r.Final(to) != api.OK {
		t.Errorf("Refs: %v", l)
	}
	a, _ := r.Refer(weak, to, -1, 5)
	if x, e := h.Head(a); x != head(weak) || e != api.OK {
		t.Errorf("Head: %v, %d", x, e)
	}
	if e := r.Push(0, a); e != api.OK {
		t.Errorf("Push: %d", e)
	}
	if l, e := r.Queues.List(0); !slices.Equal(l, []int{a}) || e != api.OK {
		t.Errorf("List: %v, %d", l, e)
	}
	if x, e := r.Poll(0); x != a || e != api.OK {
		t.Errorf("Poll: %d, %d", x, e)
	}
	if e := r.Put(to, 0, 9); e != api.OK || len(r.Objects()) != 2 {
		t.Errorf("Put: %d, %v", e, r.Objects())
	}
	if x, e := h.Field(to, 0); x != 9 || e != api.OK {
		t.Errorf("Field: %d, %d", x, e)
	}
	if r.Used() != 12 || r.Cap() != 192 || r.Left() != 1 || r.Len() != 256 || !slices.Equal(r.Each(), []int{to, a}) {
		t.Errorf("Used, Cap, Left, Len, Each: %d, %d, %d, %d, %v", r.Used(), r.Cap(), r.Left(), r.Len(), r.Each())
	}
	if r.Free(a) != api.OK || len(h.Objects()) != 1 {
		t.Errorf("Free: %v", h.Objects())
	}
}

// The numbers that stand in the document are those of package api.
func TestLimits(t *testing.T) {
	if api.Soft != soft || api.Weak != weak || api.Phantom != phantom || api.MaxQueues != maxQueues {
		t.Errorf("Soft, Weak, Phantom: %d, %d, %d, %d queues", api.Soft, api.Weak, api.Phantom, api.MaxQueues)
	}
	fields := []int{api.FReferent, api.FQueue, api.FNext, api.FStamp, api.FSerial, api.RefFields}
	if !slices.Equal(fields, []int{referent, inQueue, next, stamp, serial, refFields}) {
		t.Errorf("fields: %v", fields)
	}
}
