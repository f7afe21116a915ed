package queue_test

import (
	"math"
	"reflect"
	"slices"
	"testing"

	"gloaming/api"
	"gloaming/object"
	"gloaming/queue"
)

// The document's numbers, written out.
const (
	maxQueues = 8
	refFields = 5
	next      = 2 // the field of the one behind it
)

// noQueues are numbers that no queue has, however many there are.
var noQueues = []int{-1, -2, -7, -8, -9, -16, 8, 9, 15, 16, 64, 255, 256, 1 << 31, 1<<31 + 3, -1 << 31, 1 << 32, 1<<32 + 1, -1 << 32, -1<<32 + 1, 1 << 62, math.MaxInt - 7, math.MaxInt - 1, math.MaxInt, math.MinInt, math.MinInt + 1, math.MinInt + 8}

// far are numbers at which no object of these tests begins.
var far = []int{0, 1, 2, 63, 65, -1, -2, -63, -64, -65, -128, 16384, 16448, 1 << 31, 1 << 32, 1<<32 + 64, 1<<32 + 128, -1 << 32, -1<<32 + 64, 1 << 62, 1<<62 + 64, math.MaxInt - 63, math.MaxInt - 1, math.MaxInt, math.MinInt, math.MinInt + 1, math.MinInt + 64}

// numbers are what a field may be.
var numbers = []int{0, 1, -1, 64, 72, -64, 1 << 32, math.MaxInt, math.MinInt}

var strengths = []int{api.Soft, api.Weak, api.Phantom}

// model is the document's words: all fields of all objects, and who is in
// which queue.
type model struct {
	objs []api.Obj // by address
	rows [][]int
}

// fields are those of the object that begins at at; nil: there is none.
func (m *model) fields(at int) []int {
	for _, o := range m.objs {
		if o.At == at {
			return o.Words
		}
	}
	return nil
}

func (m *model) isRef(at int) bool {
	return slices.ContainsFunc(m.objs, func(o api.Obj) bool { return o.At == at && o.Head.Kind == api.KRef })
}

func (m *model) hasQueue(i int) bool {
	for n := range m.rows {
		if n == i {
			return true
		}
	}
	return false
}

func (m *model) open() (int, api.Errno) {
	if len(m.rows) == maxQueues {
		return 0, api.ErrFull
	}
	m.rows = append(m.rows, []int{})
	return len(m.rows) - 1, api.OK
}

func (m *model) push(i, at int) api.Errno {
	if !m.hasQueue(i) {
		return api.ErrNone
	}
	if !m.isRef(at) {
		return api.ErrKind
	}
	m.fields(at)[next] = 0
	if n := len(m.rows[i]); n > 0 {
		m.fields(m.rows[i][n-1])[next] = at
	}
	m.rows[i] = append(m.rows[i], at)
	return api.OK
}

func (m *model) poll(i int) (int, api.Errno) {
	if !m.hasQueue(i) {
		return 0, api.ErrNone
	}
	if len(m.rows[i]) == 0 {
		return 0, api.OK
	}
	at := m.rows[i][0]
	m.fields(at)[next] = 0
	m.rows[i] = slices.Delete(m.rows[i], 0, 1)
	return at, api.OK
}

// isIn tells whether a reference is in a queue: such a one is pushed to none.
func (m *model) isIn(at int) bool {
	return slices.ContainsFunc(m.rows, func(row []int) bool { return slices.Contains(row, at) })
}

// pair is queues beside their model, through the same calls.
type pair struct {
	*queue.Queues
	h *object.Heap
	m *model
}

func newHeap(t *testing.T, pages int) *object.Heap {
	t.Helper()
	h, e := object.New(pages)
	if e != api.OK {
		t.Fatalf("New of a heap of %d: %d", pages, e)
	}
	return h
}

// over answers queues of a heap, as it is, of which so many are open.
func over(t *testing.T, h *object.Heap, queues int) pair {
	t.Helper()
	p := pair{queue.New(h), h, &model{objs: h.Objects()}}
	if p.Queues == nil {
		t.Fatal("New: nil")
	}
	for range queues {
		p.open(t)
	}
	p.same(t)
	return p
}

// of answers queues of a heap with references alone, of each strength by turns.
func of(t *testing.T, queues, refs int) (pair, []int) {
	t.Helper()
	h := newHeap(t, 2+refs/8)
	at := make([]int, refs)
	for i := range at {
		at[i] = makes(t, h, ref(strengths[i%3]), 100+i, 200+i, 300+i, 400+i, 500+i)
	}
	return over(t, h, queues), at
}

func ref(strength int) api.Head {
	return api.Head{Kind: api.KRef, Class: strength, Len: refFields}
}

// makes an object with some fields.
func makes(t *testing.T, h *object.Heap, x api.Head, fields ...int) int {
	t.Helper()
	at, e := h.Make(x)
	if e != api.OK {
		t.Fatalf("Make(%v): %d", x, e)
	}
	for i, f := range fields {
		if e := h.Put(at, i, f); e != api.OK {
			t.Fatalf("Put(%d, %d, %d): %d", at, i, f, e)
		}
	}
	return at
}

func (p pair) open(t *testing.T) {
	t.Helper()
	want, e := p.m.open()
	if i, f := p.Open(); i != want || f != e {
		t.Fatalf("Open: %d, %d, want %d, %d", i, f, want, e)
	}
}

func (p pair) push(t *testing.T, i int, at ...int) {
	t.Helper()
	for _, x := range at {
		want := p.m.push(i, x)
		if e := p.Push(i, x); e != want {
			t.Fatalf("Push(%d, %d): %d, want %d", i, x, e, want)
		}
	}
}

func (p pair) poll(t *testing.T, i int) int {
	t.Helper()
	want, e := p.m.poll(i)
	at, f := p.Poll(i)
	if at != want || f != e {
		t.Fatalf("Poll(%d): %d, %d, want %d, %d", i, at, f, want, e)
	}
	return at
}

// put changes a field from without.
func (p pair) put(t *testing.T, at, i, x int) {
	t.Helper()
	p.m.fields(at)[i] = x
	if e := p.h.Put(at, i, x); e != api.OK {
		t.Fatalf("Put(%d, %d, %d): %d", at, i, x, e)
	}
}

// same looks at all that there is to see of queues, and of their heap.
func (p pair) same(t *testing.T) {
	t.Helper()
	if n := p.Queues.Queues(); n != len(p.m.rows) {
		t.Fatalf("Queues: %d, want %d", n, len(p.m.rows))
	}
	for i, want := range p.m.rows {
		if l, e := p.List(i); !slices.Equal(l, want) || e != api.OK {
			t.Fatalf("List(%d): %v, %d, want %v", i, l, e, want)
		}
	}
	if l, e := p.List(len(p.m.rows)); len(l) != 0 || e != api.ErrNone {
		t.Fatalf("List(%d): %v, %d", len(p.m.rows), l, e)
	}
	if got := p.h.Objects(); !sameObjects(got, p.m.objs) {
		t.Fatalf("Objects: %v, want %v", got, p.m.objs)
	}
}

func sameObjects(a, b []api.Obj) bool {
	return slices.EqualFunc(a, b, func(x, y api.Obj) bool {
		return x.At == y.At && x.Head == y.Head && slices.Equal(x.Words, y.Words)
	})
}

// linked looks at FNext of all that are in queues: the one behind, 0 of the last.
func (p pair) linked(t *testing.T) {
	t.Helper()
	for i := range p.m.rows {
		l, _ := p.List(i)
		for k, at := range l {
			want := 0
			if k+1 < len(l) {
				want = l[k+1]
			}
			hasNext(t, p.h, at, want)
		}
	}
}

func hasNext(t *testing.T, h *object.Heap, at, want int) {
	t.Helper()
	if x, e := h.Field(at, next); x != want || e != api.OK {
		t.Fatalf("FNext of %d: %d, %d, want %d", at, x, e, want)
	}
}

func refusePush(t *testing.T, q *queue.Queues, i, at int, want api.Errno) {
	t.Helper()
	if e := q.Push(i, at); e != want {
		t.Fatalf("Push(%d, %d): %d, want %d", i, at, e, want)
	}
}

// noQueue asks all that can be asked of a queue that there is not.
func noQueue(t *testing.T, q *queue.Queues, i int, at ...int) {
	t.Helper()
	for _, x := range at {
		refusePush(t, q, i, x, api.ErrNone)
	}
	if x, e := q.Poll(i); x != 0 || e != api.ErrNone {
		t.Fatalf("Poll(%d): %d, %d, want 0, %d", i, x, e, api.ErrNone)
	}
	if l, e := q.List(i); len(l) != 0 || e != api.ErrNone {
		t.Fatalf("List(%d): %v, %d, want none, %d", i, l, e, api.ErrNone)
	}
}

// 12.1 New

func TestNewOfNil(t *testing.T) {
	if q := queue.New(nil); q != nil {
		t.Errorf("New(nil): %v", q)
	}
}

func TestNewHasNoQueues(t *testing.T) {
	h := newHeap(t, 4)
	at := makes(t, h, ref(api.Weak), 1, 2, 3, 4, 5)
	makes(t, h, api.Head{Kind: api.KData, Len: 2}, 6, 7)
	was := h.Objects()
	q := queue.New(h)
	if q == nil {
		t.Fatal("New: nil")
	}
	if n := q.Queues(); n != 0 {
		t.Errorf("Queues: %d", n)
	}
	for _, i := range append([]int{0, 1, 7}, noQueues...) {
		noQueue(t, q, i, at, 0)
	}
	if !sameObjects(h.Objects(), was) {
		t.Errorf("Objects: %v, were %v", h.Objects(), was)
	}
}

// Queues of one heap share its objects, not their numbers and rows.
func TestNewTwiceOfOneHeap(t *testing.T) {
	h := newHeap(t, 4)
	a, b := makes(t, h, ref(api.Soft)), makes(t, h, ref(api.Weak))
	p := over(t, h, 2)
	p.push(t, 1, a)
	r := over(t, h, 0)
	noQueue(t, r.Queues, 0, b)
	r.open(t)
	r.push(t, 0, b)
	r.same(t)
	p.same(t)
	if at := p.poll(t, 0); at != 0 {
		t.Errorf("Poll: %d", at)
	}
}

// 12.1 Open

func TestOpen(t *testing.T) {
	q := queue.New(newHeap(t, 2))
	for i := range maxQueues {
		if n, e := q.Open(); n != i || e != api.OK {
			t.Fatalf("Open: %d, %d, want %d", n, e, i)
		}
		if n := q.Queues(); n != i+1 {
			t.Fatalf("Queues: %d, want %d", n, i+1)
		}
		for k := range i + 1 {
			if l, e := q.List(k); len(l) != 0 || e != api.OK {
				t.Fatalf("List(%d): %v, %d", k, l, e)
			}
			if at, e := q.Poll(k); at != 0 || e != api.OK {
				t.Fatalf("Poll(%d): %d, %d", k, at, e)
			}
		}
		noQueue(t, q, i+1, 64)
	}
	for range 3 {
		if n, e := q.Open(); n != 0 || e != api.ErrFull {
			t.Fatalf("Open: %d, %d, want 0, %d", n, e, api.ErrFull)
		}
		if n := q.Queues(); n != maxQueues {
			t.Fatalf("Queues: %d", n)
		}
		noQueue(t, q, maxQueues, 64)
	}
}

// What is in the queues that there are stays, where one is opened and where
// one more is refused.
func TestOpenLeavesTheOthersAsTheyWere(t *testing.T) {
	p, at := of(t, 0, 3*maxQueues)
	for i := range maxQueues {
		p.open(t)
		p.push(t, i, at[3*i:3*i+3]...)
		p.same(t)
	}
	p.open(t)
	p.same(t)
	for i := range maxQueues {
		p.poll(t, i)
	}
	p.open(t)
	p.same(t)
	p.linked(t)
}

// 12.1 Push

func TestPushOfEachStrength(t *testing.T) {
	for _, strength := range strengths {
		h := newHeap(t, 4)
		p := over(t, h, 1)
		a := makes(t, h, ref(strength), 11, 12, 13, 14, 15)
		b := makes(t, h, ref(strength), 21, 22, 23, 24, 25)
		p.m.objs = h.Objects()
		p.push(t, 0, a)
		p.same(t)
		p.push(t, 0, b)
		p.same(t)
		want := []api.Obj{{At: a, Head: ref(strength), Words: []int{11, 12, b, 14, 15}}, {At: b, Head: ref(strength), Words: []int{21, 22, 0, 24, 25}}}
		if !sameObjects(h.Objects(), want) {
			t.Errorf("Objects: %v, want %v", h.Objects(), want)
		}
	}
}

// The one that is pushed ends the row, whatever its FNext was.
func TestPushMakesFNext0(t *testing.T) {
	for _, x := range numbers {
		p, at := of(t, 2, 4)
		for _, r := range at {
			p.put(t, r, next, x)
		}
		p.push(t, 0, at[2])
		hasNext(t, p.h, at[2], 0)
		p.push(t, 0, at[0])
		hasNext(t, p.h, at[0], 0)
		p.push(t, 1, at[3])
		hasNext(t, p.h, at[3], 0)
		hasNext(t, p.h, at[1], x)
		p.same(t)
		p.linked(t)
	}
}

func TestPushMakesFNextOfTheOneAhead(t *testing.T) {
	p, at := of(t, 1, 9)
	order := []int{4, 8, 0, 1, 7, 2, 6, 5, 3}
	for k, i := range order {
		p.push(t, 0, at[i])
		hasNext(t, p.h, at[i], 0)
		if k > 0 {
			hasNext(t, p.h, at[order[k-1]], at[i])
		}
		p.same(t)
		p.linked(t)
	}
}

// The one ahead is the last one of that queue, not of another one.
func TestPushToTheFirstQueueAndTheLast(t *testing.T) {
	p, at := of(t, maxQueues, 6)
	p.push(t, 0, at[0])
	p.push(t, 7, at[1])
	hasNext(t, p.h, at[0], 0)
	p.push(t, 0, at[2])
	hasNext(t, p.h, at[1], 0)
	p.push(t, 7, at[3], at[4])
	p.push(t, 0, at[5])
	p.same(t)
	p.linked(t)
	for i := 1; i < 7; i++ {
		if l, e := p.List(i); len(l) != 0 || e != api.OK {
			t.Errorf("List(%d): %v, %d", i, l, e)
		}
	}
	if a, b := p.poll(t, 7), p.poll(t, 0); a != at[1] || b != at[0] {
		t.Errorf("Poll: %d and %d", a, b)
	}
	p.same(t)
}

func TestPushToEachQueueAlone(t *testing.T) {
	for queues := 1; queues <= maxQueues; queues++ {
		for i := range queues {
			p, at := of(t, queues, 3)
			p.push(t, i, at...)
			p.same(t)
			p.linked(t)
		}
	}
}

// others is a heap with objects of each kind but a reference, whose fields are
// what those of a reference may be; beside it where they begin.
func others(t *testing.T) (*object.Heap, []int) {
	t.Helper()
	h := newHeap(t, 20)
	for range 3 {
		h.Of(refFields, 2)
	}
	var at []int
	for id := range 3 {
		at = append(at, makes(t, h, api.Head{Kind: api.KPlain, Class: id + 1, Len: refFields}, 64, 1, 64, 0, 1))
	}
	for _, kind := range []int{api.KRefs, api.KData} {
		for _, n := range []int{0, 1, refFields, 40, 70} {
			at = append(at, makes(t, h, api.Head{Kind: kind, Len: n}))
		}
		at = append(at, makes(t, h, api.Head{Kind: kind, Len: refFields}, 327700, 327716, 327732, 4, 4))
	}
	if e := h.Final(at[0]); e != api.OK {
		t.Fatal(e)
	}
	return h, at
}

func TestPushOfAnObjectOfAnotherKind(t *testing.T) {
	h, at := others(t)
	a, b := makes(t, h, ref(api.Soft), 1, 2, 3, 4, 5), makes(t, h, ref(api.Weak), 1, 2, 3, 4, 5)
	p := over(t, h, 3)
	p.push(t, 1, a, b)
	for i := range 3 {
		for _, x := range at {
			refusePush(t, p.Queues, i, x, api.ErrKind)
			p.same(t)
		}
	}
}

// Only where a reference begins there is one: not within it, not behind it,
// and not where a field has the word of one.
func TestPushOfEachNumberAboutTheWords(t *testing.T) {
	h, _ := others(t)
	var refs []int
	for i := range 11 {
		refs = append(refs, makes(t, h, ref(strengths[i%3]), 327700, 327716, 327732, 327700, 327716))
	}
	h.Free(refs[4])
	refs = slices.Delete(refs, 4, 5)
	p := over(t, h, 2)
	p.push(t, 0, refs[:2]...)
	for at := -200; at < h.Len()+200; at++ {
		if !slices.Contains(refs, at) {
			refusePush(t, p.Queues, 0, at, api.ErrKind)
			refusePush(t, p.Queues, 1, at, api.ErrKind)
		}
	}
	p.same(t)
	p.push(t, 1, refs[2:]...)
	p.same(t)
	p.linked(t)
}

func TestPushOfFarNumbers(t *testing.T) {
	p, at := of(t, maxQueues, 4)
	for _, x := range far {
		if !slices.Contains(at, x) {
			refusePush(t, p.Queues, 0, x, api.ErrKind)
			refusePush(t, p.Queues, 7, x, api.ErrKind)
		}
	}
	p.push(t, 0, at[:2]...)
	p.push(t, 7, at[2:]...)
	for _, x := range far {
		if !slices.Contains(at, x) {
			refusePush(t, p.Queues, 0, x, api.ErrKind)
			refusePush(t, p.Queues, 7, x, api.ErrKind)
		}
	}
	p.same(t)
	p.linked(t)
}

// A number that is one bit from a reference's address is none's.
func TestPushOfNumbersOneBitFromAnAddress(t *testing.T) {
	p, at := of(t, 1, 8)
	for _, r := range at {
		for bit := range 64 {
			if x := r ^ 1<<bit; !slices.Contains(at, x) {
				refusePush(t, p.Queues, 0, x, api.ErrKind)
			}
		}
		refusePush(t, p.Queues, 0, -r, api.ErrKind)
		refusePush(t, p.Queues, 0, ^r, api.ErrKind)
	}
	p.same(t)
}

func TestPushOfAReferenceThatWasFreed(t *testing.T) {
	p, at := of(t, 2, 5)
	p.push(t, 0, at[0], at[1])
	for _, i := range []int{2, 4} {
		if e := p.h.Free(at[i]); e != api.OK {
			t.Fatalf("Free(%d): %d", at[i], e)
		}
	}
	p.m.objs = p.h.Objects()
	for _, i := range []int{2, 4} {
		refusePush(t, p.Queues, 0, at[i], api.ErrKind)
		refusePush(t, p.Queues, 1, at[i], api.ErrKind)
		p.same(t)
	}
	// One that was polled may be freed too.
	p.poll(t, 0)
	p.h.Free(at[0])
	p.m.objs = p.h.Objects()
	refusePush(t, p.Queues, 0, at[0], api.ErrKind)
	p.same(t)
}

// What counts is what is at an address now, not what was.
func TestPushOfWhatWasMadeAnewAtAnAddress(t *testing.T) {
	p, at := of(t, 1, 3)
	p.push(t, 0, at[0])
	p.h.Free(at[1])
	data := api.Head{Kind: api.KData, Len: refFields}
	if x := makes(t, p.h, data, 1, 2, 3, 4, 5); x != at[1] {
		t.Fatalf("Make: %d, want %d", x, at[1])
	}
	p.m.objs = p.h.Objects()
	refusePush(t, p.Queues, 0, at[1], api.ErrKind)
	p.same(t)
	p.h.Free(at[1])
	if x := makes(t, p.h, ref(api.Phantom), 1, 2, 3, 4, 5); x != at[1] {
		t.Fatalf("Make: %d, want %d", x, at[1])
	}
	p.m.objs = p.h.Objects()
	p.push(t, 0, at[1])
	p.same(t)
	p.linked(t)
}

// A block that Alloc alone took is no reference.
func TestPushOfABlockWithoutAHead(t *testing.T) {
	p, _ := of(t, 1, 2)
	at, e := p.h.Alloc(refFields + 1)
	if e != api.OK {
		t.Fatal(e)
	}
	p.m.objs = p.h.Objects()
	refusePush(t, p.Queues, 0, at, api.ErrKind)
	p.same(t)
}

func TestPushToAQueueThatThereIsNot(t *testing.T) {
	for queues := range maxQueues + 1 {
		p, at := of(t, queues, 2*maxQueues+1)
		for i := range queues {
			p.push(t, i, at[2*i], at[2*i+1])
		}
		last := at[2*maxQueues]
		for i := queues; i < 40; i++ {
			refusePush(t, p.Queues, i, last, api.ErrNone)
		}
		for _, i := range noQueues {
			refusePush(t, p.Queues, i, last, api.ErrNone)
		}
		p.same(t)
	}
}

// ErrNone ahead of ErrKind: it counts where no reference is there either.
func TestTheOrderOfPushsErrors(t *testing.T) {
	h, at := others(t)
	p := over(t, h, 2)
	for _, i := range append([]int{2, 3, 7}, noQueues...) {
		for _, x := range slices.Concat(at, far) {
			refusePush(t, p.Queues, i, x, api.ErrNone)
		}
	}
	for _, x := range slices.Concat(at, far) {
		refusePush(t, p.Queues, 0, x, api.ErrKind)
		refusePush(t, p.Queues, 1, x, api.ErrKind)
	}
	p.same(t)
}

// 12.1 Poll

func TestTheExample(t *testing.T) {
	q := queue.New(newHeap(t, 2))
	q.Open()
	for range 3 {
		if at, e := q.Poll(0); at != 0 || e != api.OK {
			t.Errorf("Poll: %d, %d", at, e)
		}
	}
}

func TestPollOfEachQueue(t *testing.T) {
	p, at := of(t, maxQueues, 3*maxQueues)
	for i := range maxQueues {
		p.push(t, i, at[3*i:3*i+3]...)
	}
	for k := range 3 {
		for i := range maxQueues {
			if x := p.poll(t, i); x != at[3*i+k] {
				t.Fatalf("Poll(%d): %d, want %d", i, x, at[3*i+k])
			}
			p.same(t)
			p.linked(t)
		}
	}
	for i := range maxQueues {
		if x := p.poll(t, i); x != 0 {
			t.Fatalf("Poll(%d): %d, want 0", i, x)
		}
	}
	p.same(t)
}

// FNext of what is polled is 0, of those that stay it is what it was.
func TestPollMakesFNext0(t *testing.T) {
	p, at := of(t, 2, 4)
	p.push(t, 0, at[3], at[1], at[0])
	p.push(t, 1, at[2])
	hasNext(t, p.h, at[3], at[1])
	p.poll(t, 0)
	hasNext(t, p.h, at[3], 0)
	hasNext(t, p.h, at[1], at[0])
	hasNext(t, p.h, at[0], 0)
	hasNext(t, p.h, at[2], 0)
	p.poll(t, 0)
	hasNext(t, p.h, at[1], 0)
	hasNext(t, p.h, at[0], 0)
	p.same(t)
}

func TestPollLeavesTheOtherFieldsAsTheyWere(t *testing.T) {
	for _, strength := range strengths {
		h := newHeap(t, 2)
		a, b := makes(t, h, ref(strength), 11, 12, 13, 14, 15), makes(t, h, ref(strength), 21, 22, 23, 24, 25)
		p := over(t, h, 1)
		p.push(t, 0, a, b)
		p.poll(t, 0)
		want := []api.Obj{{At: a, Head: ref(strength), Words: []int{11, 12, 0, 14, 15}}, {At: b, Head: ref(strength), Words: []int{21, 22, 0, 24, 25}}}
		if !sameObjects(h.Objects(), want) {
			t.Errorf("Objects: %v, want %v", h.Objects(), want)
		}
	}
}

func TestPollOfAQueueThatIsEmptyAgain(t *testing.T) {
	p, at := of(t, 3, 3)
	for _, rows := range [][]int{{0}, {1, 2}, {2, 0, 1}, {1}} {
		for _, i := range rows {
			p.push(t, 1, at[i])
		}
		for _, i := range rows {
			if x := p.poll(t, 1); x != at[i] {
				t.Fatalf("Poll: %d, want %d", x, at[i])
			}
		}
		for range 3 {
			if x := p.poll(t, 1); x != 0 {
				t.Fatalf("Poll: %d, want 0", x)
			}
			p.same(t)
		}
	}
}

// An empty queue's Poll changes nothing in the others, nor in the heap.
func TestPollOfAnEmptyQueueAmongOthers(t *testing.T) {
	p, at := of(t, 3, 5)
	p.push(t, 0, at[0], at[1])
	p.push(t, 2, at[2])
	for range 3 {
		if x := p.poll(t, 1); x != 0 {
			t.Fatalf("Poll: %d, want 0", x)
		}
		p.same(t)
	}
}

func TestPollOfAQueueThatThereIsNot(t *testing.T) {
	for queues := range maxQueues + 1 {
		p, at := of(t, queues, 2*maxQueues)
		for i := range queues {
			p.push(t, i, at[2*i], at[2*i+1])
		}
		for i := queues; i < 40; i++ {
			noQueue(t, p.Queues, i)
		}
		for _, i := range noQueues {
			noQueue(t, p.Queues, i)
		}
		p.same(t)
	}
}

func TestAReferenceThatWasPolledIsPushedAgain(t *testing.T) {
	p, at := of(t, 2, 3)
	p.push(t, 0, at...)
	// To the same queue, behind those that stayed.
	p.push(t, 0, p.poll(t, 0))
	p.same(t)
	p.linked(t)
	hasNext(t, p.h, at[2], at[0])
	// To another one.
	p.push(t, 1, p.poll(t, 0))
	p.push(t, 1, p.poll(t, 0))
	p.same(t)
	p.linked(t)
	// And back, alone in its queue.
	for range 20 {
		p.push(t, 0, p.poll(t, 1))
		p.push(t, 1, p.poll(t, 0))
		p.same(t)
		p.linked(t)
	}
}

func TestTheOnlyOnePolledAndPushedAgain(t *testing.T) {
	p, at := of(t, 1, 1)
	for range 5 {
		p.push(t, 0, at[0])
		hasNext(t, p.h, at[0], 0)
		p.same(t)
		if x := p.poll(t, 0); x != at[0] {
			t.Fatalf("Poll: %d, want %d", x, at[0])
		}
		p.same(t)
	}
}

// 12.2 List and Queues

func TestListOfNoneOfOneAndOfMany(t *testing.T) {
	p, at := of(t, 3, 12)
	order := []int{11, 0, 5, 4, 10, 1, 2, 9, 8, 3, 7, 6}
	for i := range 3 {
		if l, e := p.List(i); len(l) != 0 || e != api.OK {
			t.Errorf("List(%d): %v, %d", i, l, e)
		}
	}
	var want []int
	for _, i := range order {
		p.push(t, 1, at[i])
		want = append(want, at[i])
		if l, e := p.List(1); !slices.Equal(l, want) || e != api.OK {
			t.Errorf("List: %v, %d, want %v", l, e, want)
		}
	}
	for len(want) > 0 {
		p.poll(t, 1)
		want = want[1:]
		if l, e := p.List(1); !slices.Equal(l, want) || e != api.OK {
			t.Errorf("List: %v, %d, want %v", l, e, want)
		}
	}
}

// A row is what was pushed, also where FNext was put from without.
func TestListDoesNotGoByFNext(t *testing.T) {
	for _, x := range numbers {
		p, at := of(t, 2, 5)
		p.push(t, 0, at[0], at[1], at[2])
		p.push(t, 1, at[3])
		for i := range at {
			p.put(t, at[i], next, x)
			p.same(t)
		}
		p.put(t, at[2], next, at[0])
		p.put(t, at[0], next, at[0])
		p.same(t)
		p.push(t, 0, at[4])
		hasNext(t, p.h, at[2], at[4])
		p.same(t)
		for _, i := range []int{0, 1, 2, 4} {
			if y := p.poll(t, 0); y != at[i] {
				t.Fatalf("Poll: %d, want %d", y, at[i])
			}
			hasNext(t, p.h, at[i], 0)
			p.same(t)
		}
	}
}

func TestWhatIsAskedDoesNotChange(t *testing.T) {
	p, at := of(t, 3, 6)
	p.push(t, 0, at[:4]...)
	p.push(t, 2, at[4])
	for range 3 {
		for _, i := range append([]int{0, 1, 2, 3}, noQueues...) {
			p.List(i)
		}
		p.Queues.Queues()
		p.same(t)
		p.linked(t)
	}
}

// 12.3

// orders are all rows of all of these numbers.
func orders(of []int) [][]int {
	if len(of) == 0 {
		return [][]int{nil}
	}
	var all [][]int
	for i, x := range of {
		for _, rest := range orders(slices.Delete(slices.Clone(of), i, i+1)) {
			all = append(all, append([]int{x}, rest...))
		}
	}
	return all
}

func TestWhatWasPushedFirstIsPolledFirst(t *testing.T) {
	p, at := of(t, 1, 5)
	for _, order := range orders(at) {
		p.push(t, 0, order...)
		p.linked(t)
		for _, want := range append(order, 0, 0) {
			if x := p.poll(t, 0); x != want {
				t.Fatalf("Poll of %v: %d, want %d", order, x, want)
			}
		}
	}
	p.same(t)
}

// Rows of two queues go by themselves, whichever is polled first.
func TestTwoQueuesByTurns(t *testing.T) {
	p, at := of(t, 2, 6)
	for _, order := range orders(at) {
		for k, x := range order {
			p.push(t, k%2, x)
		}
		p.linked(t)
		for k := range order {
			i := (k + 1) % 2
			if x := p.poll(t, i); x != order[k/2*2+i] {
				t.Fatalf("Poll(%d) of %v: %d", i, order, x)
			}
		}
	}
	p.same(t)
}

// As many references as a heap has room for, in one queue.
func TestAllReferencesOfAWholeHeap(t *testing.T) {
	h := newHeap(t, api.MaxPages)
	var at []int
	for {
		x, e := h.Make(ref(api.Weak))
		if e != api.OK {
			break
		}
		at = append(at, x)
	}
	if len(at) != 255*8 {
		t.Fatalf("%d references", len(at))
	}
	slices.Reverse(at)
	p := over(t, h, 1)
	for _, x := range at {
		if e := p.Push(0, x); e != api.OK {
			t.Fatalf("Push(%d): %d", x, e)
		}
	}
	p.m.rows = [][]int{at}
	p.linked(t)
	if l, e := p.List(0); !slices.Equal(l, at) || e != api.OK {
		t.Fatalf("List: %v, %d", l, e)
	}
	for _, want := range append(at, 0) {
		if x, e := p.Poll(0); x != want || e != api.OK {
			t.Fatalf("Poll: %d, %d, want %d", x, e, want)
		}
	}
}

// numbersBelow answers numbers from a fixed rule, each from 0 to below what is
// asked.
func numbersBelow() func(below int) int {
	seed := uint64(1)
	return func(below int) int {
		seed = seed*6364136223846793005 + 1442695040888963407
		return int(seed>>33) % below
	}
}

// A row that only ever has a few in it, for long.
func TestALongRowOfPushesAndPolls(t *testing.T) {
	p, at := of(t, 2, 5)
	p.push(t, 0, at...)
	for range 20000 {
		p.push(t, 1, p.poll(t, 0))
		p.push(t, 0, p.poll(t, 1))
	}
	p.same(t)
	p.linked(t)
}

// TestALongRow holds queues against their model through rows of right and
// wrong calls, from a fixed rule.
func TestALongRow(t *testing.T) {
	below := numbersBelow()
	for _, refs := range []int{1, 2, 3, 8, 30} {
		for queues := range maxQueues + 1 {
			p, at := of(t, queues, refs)
			for range 300 {
				step(t, p, at, below)
				p.same(t)
			}
		}
	}
}

// step is one call on both. The model answers what is due.
func step(t *testing.T, p pair, at []int, below func(int) int) {
	t.Helper()
	i, x := below(len(p.m.rows)+2)-1, at[below(len(at))]
	switch below(12) {
	case 0:
		if below(10) == 0 {
			p.open(t)
		}
	case 1:
		p.put(t, x, below(refFields), numbers[below(len(numbers))])
	case 2:
		i = noQueues[below(len(noQueues))]
		p.push(t, i, x)
		p.poll(t, i)
	case 3:
		if x += below(refFields+4) - 3; !p.m.isRef(x) {
			p.push(t, i, x)
		}
	case 4, 5, 6, 7:
		p.poll(t, i)
	default:
		if !p.m.isIn(x) {
			p.push(t, i, x)
		}
	}
}

// R3

// spoil writes into a list, and into the room behind it.
func spoil(l []int) {
	wide := l[:cap(l)]
	for i := range wide {
		wide[i] = -7
	}
	_ = append(l, -8)
	_ = append(l[:0], -9)
}

func TestListIsNewMemory(t *testing.T) {
	for n := range 12 {
		for polled := range n + 1 {
			p, at := of(t, 2, 12)
			p.push(t, 0, at[:n]...)
			for range polled {
				p.poll(t, 0)
			}
			want := at[polled:n]
			a, _ := p.List(0)
			b, _ := p.List(0)
			spoil(a)
			if !slices.Equal(b, want) {
				t.Fatalf("List told ahead: %v, want %v", b, want)
			}
			p.same(t)
			c := append(b, 5)
			d, _ := p.List(0)
			_ = append(d, 6)
			if !slices.Equal(c[:len(want)], want) || c[len(want)] != 5 {
				t.Fatalf("List appended to: %v, want %v, 5", c, want)
			}
			// What is pushed from now on stands where it was appended to.
			p.push(t, 0, at[n:]...)
			if c[len(want)] != 5 {
				t.Fatalf("List appended to: %v", c)
			}
			_ = append(d, 7)
			p.same(t)
			for range at[polled:] {
				p.poll(t, 0)
			}
			p.same(t)
		}
	}
}

// The lists of two queues share nothing either.
func TestListsOfTwoQueuesAreNewMemory(t *testing.T) {
	p, at := of(t, 3, 6)
	p.push(t, 0, at[:3]...)
	p.push(t, 1, at[3:]...)
	for _, i := range []int{0, 1, 2} {
		l, _ := p.List(i)
		spoil(l)
		p.same(t)
	}
}

// What List told stays as it was, whatever is pushed and polled from then on.
func TestWhatListToldStays(t *testing.T) {
	p, at := of(t, 1, 8)
	p.push(t, 0, at[:4]...)
	told, _ := p.List(0)
	want := slices.Clone(told)
	for range 20 {
		p.push(t, 0, at[4:]...)
		for range 8 {
			p.poll(t, 0)
		}
		p.push(t, 0, at[3], at[2], at[1], at[0])
		if !slices.Equal(told, want) {
			t.Fatalf("List told ahead: %v, want %v", told, want)
		}
	}
}

// R5

func TestTwoOverTwoHeapsDoNotTouch(t *testing.T) {
	a, at := of(t, 2, 4)
	b, bt := of(t, 1, 4)
	if !slices.Equal(at, bt) {
		t.Fatalf("the heaps are not alike: %v, %v", at, bt)
	}
	a.push(t, 0, at[0], at[1])
	b.same(t)
	noQueue(t, b.Queues, 1, at[0])
	b.push(t, 0, at[1], at[0], at[3])
	a.same(t)
	a.push(t, 1, at[3])
	b.poll(t, 0)
	a.same(t)
	b.same(t)
	a.poll(t, 0)
	a.poll(t, 0)
	b.same(t)
	b.open(t)
	a.same(t)
	a.linked(t)
	b.linked(t)
}

func TestTheSameCallsTellTheSame(t *testing.T) {
	row := func() []any {
		p, at := of(t, 0, 20)
		below := numbersBelow()
		var told []any
		tell := func(x ...any) { told = append(told, x...) }
		for range 500 {
			i, x := below(10)-1, at[below(len(at))]+below(20)/19
			o, e := 0, api.OK
			if below(30) == 0 {
				o, e = p.Open()
			}
			tell(o, e)
			if !slices.ContainsFunc([]int{0, 1, 2, 3, 4, 5, 6, 7}, func(k int) bool {
				l, _ := p.List(k)
				return slices.Contains(l, x)
			}) {
				tell(p.Push(i, x))
			}
			if below(3) == 0 {
				at, f := p.Poll(i)
				tell(at, f)
			}
			l, g := p.List(i)
			tell(l, g, p.Queues.Queues(), p.h.Objects())
		}
		return told
	}
	if a, b := row(), row(); !reflect.DeepEqual(a, b) {
		t.Error("two rows of the same calls differ")
	}
}

// Methods of nil, and what is due whatever is done

func TestMethodsOfNil(t *testing.T) {
	var none *queue.Queues
	for range 2 {
		if i, e := none.Open(); i != 0 || e != api.ErrNone {
			t.Errorf("Open: %d, %d", i, e)
		}
		if n := none.Queues(); n != 0 {
			t.Errorf("Queues: %d", n)
		}
		for _, i := range append([]int{0, 1, 7}, noQueues...) {
			noQueue(t, none, i, append([]int{64, 72}, far...)...)
		}
	}
}

// Queues without a heap, or of one without a space, have no references.
func TestQueuesOfNoHeap(t *testing.T) {
	for _, q := range []*queue.Queues{{}, {Heap: &object.Heap{}}, queue.New(&object.Heap{})} {
		noQueue(t, q, 0, 64)
		for want := range maxQueues {
			if i, e := q.Open(); i != want || e != api.OK {
				t.Fatalf("Open: %d, %d, want %d", i, e, want)
			}
			for _, at := range append([]int{64, 72}, far...) {
				refusePush(t, q, want, at, api.ErrKind)
			}
			if at, e := q.Poll(want); at != 0 || e != api.OK {
				t.Fatalf("Poll: %d, %d", at, e)
			}
		}
		if i, e := q.Open(); i != 0 || e != api.ErrFull {
			t.Fatalf("Open: %d, %d", i, e)
		}
	}
}

// Nothing is said of a reference that is in a queue, and is pushed again, or
// freed: but each call ends, and none panics.
func TestEachCallEndsWhateverIsDone(t *testing.T) {
	below := numbersBelow()
	for _, refs := range []int{1, 2, 5, 17} {
		p, at := of(t, 2, refs)
		for range 3000 {
			i, x := below(4)-1, at[below(len(at))]
			switch below(8) {
			case 0:
				p.Free(x)
			case 1:
				p.Make(api.Head{Kind: api.KData, Len: refFields})
			case 2:
				p.Make(ref(api.Soft))
			case 3:
				p.Store(x, below(1<<20))
			case 4:
				p.Put(x, next, x)
			case 5:
				p.Poll(i)
			default:
				p.Push(i, x)
			}
			p.List(i)
		}
	}
}

// A field is what it was put to (9.3): where a reference was in a queue that
// was freed, an object of another kind keeps its fields.
func TestAnObjectOfAnotherKindKeepsItsFields(t *testing.T) {
	for _, i := range []int{0, 1, 2} {
		p, at := of(t, 1, 4)
		p.push(t, 0, at[:3]...)
		p.Free(at[i])
		data := makes(t, p.h, api.Head{Kind: api.KData, Len: refFields}, 1, 2, 3, 4, 5)
		if data != at[i] {
			t.Fatalf("Make: %d, want %d", data, at[i])
		}
		p.Push(0, at[3])
		hasNext(t, p.h, data, 3)
		for range 4 {
			p.Poll(0)
			hasNext(t, p.h, data, 3)
		}
	}
}

// Ways

func TestQueuesEmbedAHeap(t *testing.T) {
	f, ok := reflect.TypeFor[queue.Queues]().FieldByName("Heap")
	if !ok || !f.Anonymous || f.Type != reflect.TypeFor[*object.Heap]() {
		t.Errorf("Heap is %v", f)
	}
	h := newHeap(t, 2)
	if q := queue.New(h); q.Heap != h {
		t.Error("the heap is not the one that was handed in")
	}
}

// Rows are the Queues' own: nobody from without reaches them.
func TestQueuesShowTheirHeapAlone(t *testing.T) {
	of := reflect.TypeFor[queue.Queues]()
	for i := range of.NumField() {
		if f := of.Field(i); f.IsExported() && f.Name != "Heap" {
			t.Errorf("%s", f.Name)
		}
	}
	heap := reflect.TypeFor[*object.Heap]().NumMethod()
	if n := reflect.TypeFor[*queue.Queues]().NumMethod(); n != heap+5 {
		t.Errorf("%d methods, %d of a heap", n, heap)
	}
}

// What is called here of queues is their heap's, and of it alone.
func TestTheHeapIsPromoted(t *testing.T) {
	h := newHeap(t, 4)
	q := queue.New(h)
	q.Open()
	if id, e := q.Of(2, 1); id != 1 || e != api.OK || h.Classes() != 1 {
		t.Errorf("Of: %d, %d", id, e)
	}
	at, e := q.Make(ref(api.Weak))
	if at != 64 || e != api.OK {
		t.Fatalf("Make: %d, %d", at, e)
	}
	if x, e := h.Head(at); x != ref(api.Weak) || e != api.OK {
		t.Errorf("Head: %v, %d", x, e)
	}
	other, _ := q.Make(ref(api.Soft))
	q.Push(0, at)
	q.Push(0, other)
	if x, e := q.Field(at, next); x != other || e != api.OK {
		t.Errorf("Field: %d, %d", x, e)
	}
	if e := q.Put(at, 0, 9); e != api.OK || len(q.Objects()) != 2 {
		t.Errorf("Put: %d, %v", e, q.Objects())
	}
	if x, e := h.Field(at, 0); x != 9 || e != api.OK {
		t.Errorf("Field: %d, %d", x, e)
	}
	if l := q.Refs(at); !slices.Equal(l, []int{2}) || q.Final(at) != api.ErrKind {
		t.Errorf("Refs: %v", l)
	}
	if q.Used() != 16 || q.Cap() != 192 || q.Left() != 2 || q.Len() != 256 || !slices.Equal(q.Each(), []int{64, 72}) {
		t.Errorf("Used, Cap, Left, Len, Each: %d, %d, %d, %d, %v", q.Used(), q.Cap(), q.Left(), q.Len(), q.Each())
	}
	if x := makes(t, h, ref(api.Phantom)); q.Free(x) != api.OK || len(h.Objects()) != 2 {
		t.Errorf("Free(%d): %v", x, h.Objects())
	}
}

// The numbers that stand in the document are those of package api.
func TestLimits(t *testing.T) {
	if api.MaxQueues != maxQueues || api.RefFields != refFields || api.FNext != next {
		t.Errorf("%d queues, %d fields, FNext is %d", api.MaxQueues, api.RefFields, api.FNext)
	}
}
