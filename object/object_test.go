package object_test

import (
	"math"
	"reflect"
	"slices"
	"testing"

	"gloaming/api"
	"gloaming/class"
	"gloaming/object"
	"gloaming/space"
)

// The document's numbers, written out.
const (
	maxFields  = 1023
	maxClasses = 256
	refFields  = 5
)

// far are numbers that no Heap has a word, a class or a field for.
var far = []int{-1, -2, -63, -64, -65, -128, 16384, 16448, 1 << 32, 1<<32 + 64, -1 << 32, 1 << 62, math.MaxInt - 63, math.MaxInt - 1, math.MaxInt, math.MinInt, math.MinInt + 1, math.MinInt + 64}

// numbers are what a field may be.
var numbers = []int{0, 1, -1, 64, -64, 65536, 1 << 32, -1 << 32, math.MaxInt, math.MinInt, math.MinInt + 1}

func plain(class, fields int) api.Head {
	return api.Head{Kind: api.KPlain, Class: class, Len: fields}
}

func refs(fields int) api.Head { return api.Head{Kind: api.KRefs, Len: fields} }

func data(fields int) api.Head { return api.Head{Kind: api.KData, Len: fields} }

func ref(strength int) api.Head {
	return api.Head{Kind: api.KRef, Class: strength, Len: refFields}
}

func final(x api.Head) api.Head {
	x.Final = true
	return x
}

// word is a head's word, by the document's sum.
func word(x api.Head) int {
	n := x.Kind + 16*x.Class + 65536*x.Len
	if x.Final {
		n += 8
	}
	return n
}

func upTo(n int) []int {
	var all []int
	for i := range n {
		all = append(all, i)
	}
	return all
}

func made(t *testing.T, pages int) *object.Heap {
	t.Helper()
	h, e := object.New(pages)
	if h == nil || e != api.OK {
		t.Fatalf("New(%d): %v, %d", pages, h, e)
	}
	return h
}

func addClass(t *testing.T, h *object.Heap, want, fields int, refs ...int) {
	t.Helper()
	if id, e := h.Of(fields, refs...); id != want || e != api.OK {
		t.Fatalf("Of(%d, %v...): %d, %d, want %d", fields, refs, id, e, want)
	}
}

func makes(t *testing.T, h *object.Heap, x api.Head, want int) {
	t.Helper()
	if at, e := h.Make(x); at != want || e != api.OK {
		t.Fatalf("Make(%v): %d, %d, want %d", x, at, e, want)
	}
}

func refuseMake(t *testing.T, h *object.Heap, x api.Head, want api.Errno) {
	t.Helper()
	if at, e := h.Make(x); at != 0 || e != want {
		t.Fatalf("Make(%v): %d, %d, want 0, %d", x, at, e, want)
	}
}

func puts(t *testing.T, h *object.Heap, at, i, x int) {
	t.Helper()
	if e := h.Put(at, i, x); e != api.OK {
		t.Fatalf("Put(%d, %d, %d): %d", at, i, x, e)
	}
}

func finals(t *testing.T, h *object.Heap, at int, want api.Errno) {
	t.Helper()
	if e := h.Final(at); e != want {
		t.Fatalf("Final(%d): %d, want %d", at, e, want)
	}
}

func frees(t *testing.T, h *object.Heap, at int) {
	t.Helper()
	if e := h.Free(at); e != api.OK {
		t.Fatalf("Free(%d): %d", at, e)
	}
}

// noObject asks all that can be asked of an address where there is none.
func noObject(t *testing.T, h *object.Heap, at int) {
	t.Helper()
	if x, e := h.Head(at); x != (api.Head{}) || e != api.ErrNone {
		t.Fatalf("Head(%d): %v, %d", at, x, e)
	}
	for _, i := range []int{0, 1, -1, maxFields, math.MaxInt, math.MinInt} {
		if x, e := h.Field(at, i); x != 0 || e != api.ErrNone {
			t.Fatalf("Field(%d, %d): %d, %d", at, i, x, e)
		}
		if e := h.Put(at, i, 9); e != api.ErrNone {
			t.Fatalf("Put(%d, %d): %d", at, i, e)
		}
	}
	if l := h.Refs(at); len(l) != 0 {
		t.Fatalf("Refs(%d): %v", at, l)
	}
	finals(t, h, at, api.ErrNone)
}

// isObject looks at all that there is to see of one.
func isObject(t *testing.T, h *object.Heap, at int, x api.Head, words ...int) {
	t.Helper()
	if y, e := h.Head(at); y != x || e != api.OK {
		t.Fatalf("Head(%d): %v, %d, want %v", at, y, e, x)
	}
	if w, e := h.Load(at); w != word(x) || e != api.OK {
		t.Fatalf("Load(%d): %d, %d, want %d", at, w, e, word(x))
	}
	if len(words) != x.Len {
		t.Fatalf("%d words of %v", len(words), x)
	}
	for i, want := range words {
		w, e := h.Field(at, i)
		if v, _ := h.Load(at + 1 + i); w != want || e != api.OK || v != want {
			t.Fatalf("Field(%d, %d): %d, %d, the word is %d, want %d", at, i, w, e, v, want)
		}
	}
}

func hasRefs(t *testing.T, h *object.Heap, at int, want ...int) {
	t.Helper()
	if l := h.Refs(at); !slices.Equal(l, want) {
		t.Fatalf("Refs(%d): %v, want %v", at, l, want)
	}
}

func sameObjects(t *testing.T, got, want []api.Obj) {
	t.Helper()
	equal := func(a, b api.Obj) bool {
		return a.At == b.At && a.Head == b.Head && slices.Equal(a.Words, b.Words)
	}
	if !slices.EqualFunc(got, want, equal) {
		t.Fatalf("Objects: %v, want %v", got, want)
	}
}

func hasObjects(t *testing.T, h *object.Heap, want ...api.Obj) {
	t.Helper()
	sameObjects(t, h.Objects(), want)
}

// model is a Heap told by the document's words: objects by address, beside a
// Space that says where blocks are.
type model struct {
	*space.Space
	classes []api.Class
	objs    map[int]api.Obj
}

func newModel(t *testing.T, pages int) *model {
	t.Helper()
	s, e := space.New(pages)
	if e != api.OK {
		t.Fatal(e)
	}
	return &model{s, nil, map[int]api.Obj{}}
}

func (m *model) mayMake(x api.Head) api.Errno {
	fits := 0 <= x.Len && x.Len <= maxFields && !x.Final
	switch x.Kind {
	case api.KPlain:
		if !fits || x.Class < 1 || x.Class > maxClasses {
			return api.ErrArg
		}
		if x.Class > len(m.classes) {
			return api.ErrNone
		}
		fits = x.Len == m.classes[x.Class-1].Fields
	case api.KRefs, api.KData:
		fits = fits && x.Class == 0
	case api.KRef:
		fits = fits && 1 <= x.Class && x.Class <= 3 && x.Len == refFields
	default:
		fits = false
	}
	if !fits {
		return api.ErrArg
	}
	return api.OK
}

func (m *model) make(x api.Head) (int, api.Errno) {
	if e := m.mayMake(x); e != api.OK {
		return 0, e
	}
	at, e := m.Alloc(x.Len + 1)
	if e == api.OK {
		m.objs[at] = api.Obj{At: at, Head: x, Words: make([]int, x.Len)}
	}
	return at, e
}

func (m *model) put(at, i, x int) api.Errno {
	o, ok := m.objs[at]
	if !ok {
		return api.ErrNone
	}
	if i < 0 || i >= len(o.Words) {
		return api.ErrArg
	}
	o.Words[i] = x
	return api.OK
}

func (m *model) final(at int) api.Errno {
	o, ok := m.objs[at]
	if !ok {
		return api.ErrNone
	}
	if o.Head.Kind == api.KRef {
		return api.ErrKind
	}
	if o.Head.Final {
		return api.ErrHave
	}
	o.Head.Final = true
	m.objs[at] = o
	return api.OK
}

func (m *model) free(at int) api.Errno {
	delete(m.objs, at)
	return m.Free(at)
}

func (m *model) refs(at int) []int {
	switch o := m.objs[at]; o.Head.Kind {
	case api.KPlain:
		return m.classes[o.Head.Class-1].Refs
	case api.KRefs:
		return upTo(o.Head.Len)
	case api.KRef:
		return []int{2}
	}
	return nil
}

func (m *model) all() []api.Obj {
	var all []api.Obj
	for at := range m.Len() {
		if o, ok := m.objs[at]; ok {
			all = append(all, o)
		}
	}
	return all
}

// same looks at all that there is to see of a Heap.
func (m *model) same(t *testing.T, h *object.Heap) {
	t.Helper()
	sameObjects(t, h.Objects(), m.all())
	for at := range m.Len() {
		o, ok := m.objs[at]
		if !ok {
			noObject(t, h, at)
			continue
		}
		isObject(t, h, at, o.Head, o.Words...)
		hasRefs(t, h, at, m.refs(at)...)
	}
	if h.Used() != m.Used() || h.Left() != m.Left() || h.Cap() != m.Cap() || !slices.Equal(h.Each(), m.Each()) {
		t.Fatalf("Used, Left, Cap, Each: %d, %d, %d, %v", h.Used(), h.Left(), h.Cap(), h.Each())
	}
}

// 9.1 New

func TestNew(t *testing.T) {
	for _, n := range []int{1, 2, 3, 17, 255, 256} {
		h := made(t, n)
		if h.Len() != 64*n || h.Size() != n || h.Cap() != 64*(n-1) || h.Used() != 0 || h.Left() != n-1 || h.Classes() != 0 {
			t.Errorf("New(%d): %d words, %d pages, %d of %d used, %d left, %d classes", n, h.Len(), h.Size(), h.Used(), h.Cap(), h.Left(), h.Classes())
		}
		newModel(t, n).same(t, h)
		if _, e := h.Class(1); e != api.ErrNone {
			t.Errorf("Class(1): %d", e)
		}
	}
}

func TestNewRefuses(t *testing.T) {
	for _, n := range append([]int{0, 257, 258, 512}, far...) {
		if h, e := object.New(n); h != nil || e != api.ErrArg {
			t.Errorf("New(%d): %v, %d", n, h, e)
		}
	}
}

// 9.1 Make

func TestTheExample(t *testing.T) {
	makes(t, made(t, 2), data(1), 64)
}

func TestMakeOfEachKind(t *testing.T) {
	h := made(t, 8)
	addClass(t, h, 1, 3, 0, 2)
	makes(t, h, plain(1, 3), 64)
	makes(t, h, refs(3), 68)
	makes(t, h, data(3), 72)
	makes(t, h, ref(api.Soft), 128)
	makes(t, h, ref(api.Weak), 136)
	makes(t, h, ref(api.Phantom), 144)
	isObject(t, h, 64, plain(1, 3), 0, 0, 0)
	isObject(t, h, 68, refs(3), 0, 0, 0)
	isObject(t, h, 72, data(3), 0, 0, 0)
	for i, at := range []int{128, 136, 144} {
		isObject(t, h, at, ref(i+1), 0, 0, 0, 0, 0)
	}
}

// The words are the document's sums, worked out by hand.
func TestTheWordOfAHead(t *testing.T) {
	h := made(t, 20)
	for range maxClasses {
		h.Of(2)
	}
	for _, c := range []struct {
		x    api.Head
		word int
	}{
		{data(0), 3}, {data(1), 65539}, {refs(0), 2}, {refs(2), 131074}, {plain(1, 2), 131089}, {plain(256, 2), 135169},
		{ref(1), 327700}, {ref(2), 327716}, {ref(3), 327732}, {data(1023), 67043331},
	} {
		at, e := h.Make(c.x)
		if w, _ := h.Load(at); w != c.word || e != api.OK {
			t.Errorf("Make(%v): %d, the word is %d, want %d", c.x, e, w, c.word)
		}
	}
}

// Of each number of fields the block is that of one word more.
func TestMakeOfEachLen(t *testing.T) {
	for n := range maxFields + 1 {
		s, _ := space.New(36)
		h := made(t, 36)
		addClass(t, h, 1, n)
		for _, x := range []api.Head{data(n), refs(n), plain(1, n)} {
			want, e := s.Alloc(n + 1)
			if e != api.OK {
				break
			}
			makes(t, h, x, want)
			if y, e := h.Head(want); y != x || e != api.OK {
				t.Fatalf("Head of %v: %v, %d", x, y, e)
			}
			start, words, ok := h.Find(want + n)
			if wantStart, wantWords, _ := s.Find(want); start != wantStart || words != wantWords || !ok {
				t.Fatalf("Find of %v: %d, %d, %v", x, start, words, ok)
			}
		}
		if h.Used() != s.Used() || !slices.Equal(h.Each(), s.Each()) {
			t.Fatalf("%d fields: Used %d, Each %v", n, h.Used(), h.Each())
		}
	}
}

func TestMakeOfNoFields(t *testing.T) {
	h := made(t, 2)
	addClass(t, h, 1, 0)
	for i, x := range []api.Head{data(0), refs(0), plain(1, 0)} {
		at := 64 + 2*i
		makes(t, h, x, at)
		isObject(t, h, at, x)
		hasRefs(t, h, at)
		for _, i := range []int{0, 1, -1} {
			if _, e := h.Field(at, i); e != api.ErrArg || h.Put(at, i, 1) != api.ErrArg {
				t.Errorf("Field, Put(%d, %d): %d", at, i, e)
			}
		}
	}
}

func TestMakeOfTheMostFields(t *testing.T) {
	h := made(t, 49)
	addClass(t, h, 1, maxFields, maxFields-1)
	for i, x := range []api.Head{data(maxFields), refs(maxFields), plain(1, maxFields)} {
		at := 64 + 1024*i
		makes(t, h, x, at)
		isObject(t, h, at, x, make([]int, maxFields)...)
		puts(t, h, at, maxFields-1, i+7)
		if w, _ := h.Load(at + 1023); w != i+7 {
			t.Errorf("the last word of %d is %d", at, w)
		}
	}
	refuseMake(t, h, data(0), api.ErrFull)
	refuseMake(t, h, data(maxFields+1), api.ErrArg)
}

func TestMakeOfTheFirstAndTheLastClass(t *testing.T) {
	h := made(t, 200)
	for i := range maxClasses {
		refuseMake(t, h, plain(i+1, i%20), api.ErrNone)
		addClass(t, h, i+1, i%20)
		at, e := h.Make(plain(i+1, i%20))
		if e != api.OK {
			t.Fatalf("Make of class %d: %d", i+1, e)
		}
		isObject(t, h, at, plain(i+1, i%20), make([]int, i%20)...)
	}
	refuseMake(t, h, plain(257, 0), api.ErrArg)
	if len(h.Objects()) != maxClasses {
		t.Errorf("%d objects", len(h.Objects()))
	}
}

func TestMakeOfALenThatIsNotItsFields(t *testing.T) {
	for _, fields := range []int{0, 1, 2, 5, 31, 32, 63, 64, 1022, 1023} {
		h := made(t, 40)
		addClass(t, h, 1, fields)
		addClass(t, h, 2, maxFields-fields)
		for _, n := range []int{fields - 1, fields + 1, maxFields - fields, 0, -fields, maxFields, maxFields + 1} {
			if n != fields {
				refuseMake(t, h, plain(1, n), api.ErrArg)
			}
		}
		hasObjects(t, h)
		if h.Used() != 0 {
			t.Errorf("Used: %d", h.Used())
		}
		makes(t, h, plain(1, fields), 64)
	}
}

func TestMakeRefuses(t *testing.T) {
	h := made(t, 8)
	addClass(t, h, 1, 2, 1)
	addClass(t, h, 2, 5)
	wrong := []api.Head{
		{}, {Len: 1}, {Kind: 5}, {Kind: 5, Len: 2}, {Kind: -1}, {Kind: 8}, {Kind: 11}, {Kind: 17}, {Kind: math.MaxInt}, {Kind: math.MinInt},
		{Kind: api.KPlain}, plain(0, 2), plain(-1, 2), plain(257, 2), plain(1, -1), plain(1, 1024), plain(1, 1), plain(1, 3), plain(2, 2), plain(1, 5),
		{Kind: api.KRefs, Class: 1}, {Kind: api.KRefs, Class: -1, Len: 2}, refs(-1), refs(1024), refs(math.MaxInt), refs(math.MinInt),
		{Kind: api.KData, Class: 1}, {Kind: api.KData, Class: -1, Len: 2}, data(-1), data(1024), data(math.MaxInt), data(math.MinInt),
		ref(0), ref(4), ref(-1), ref(math.MaxInt), {Kind: api.KRef, Class: 1}, {Kind: api.KRef, Class: 1, Len: 4}, {Kind: api.KRef, Class: 1, Len: 6},
		final(plain(1, 2)), final(refs(2)), final(data(2)), final(data(0)), final(ref(1)), final(ref(2)), final(ref(3)), final(api.Head{}),
	}
	for _, n := range far {
		wrong = append(wrong, plain(1, n), refs(n), data(n), ref(n), plain(n, 2), api.Head{Kind: n, Len: 2}, api.Head{Kind: n, Class: n, Len: n})
	}
	for _, x := range wrong {
		refuseMake(t, h, x, api.ErrArg)
	}
	hasObjects(t, h)
	if h.Used() != 0 || h.Left() != 7 || h.Classes() != 2 {
		t.Errorf("Used, Left, Classes: %d, %d, %d", h.Used(), h.Left(), h.Classes())
	}
}

func TestMakeOfAClassThatThereIsNot(t *testing.T) {
	h := made(t, 4)
	for id := 1; id <= maxClasses; id++ {
		refuseMake(t, h, plain(id, 0), api.ErrNone)
		refuseMake(t, h, plain(id, maxFields), api.ErrNone)
	}
	addClass(t, h, 1, 2)
	refuseMake(t, h, plain(2, 2), api.ErrNone)
	refuseMake(t, h, plain(256, 2), api.ErrNone)
	hasObjects(t, h)
}

// full is a Heap without room for anything, with class 1 of 2 fields.
func full(t *testing.T) *object.Heap {
	t.Helper()
	h := made(t, 2)
	addClass(t, h, 1, 2)
	makes(t, h, data(63), 64)
	return h
}

func TestTheOrderOfMakesErrors(t *testing.T) {
	h := full(t)
	// May, or Final, ahead of the class.
	refuseMake(t, h, plain(257, 2), api.ErrArg)
	refuseMake(t, h, plain(2, 1024), api.ErrArg)
	refuseMake(t, h, plain(2, -1), api.ErrArg)
	refuseMake(t, h, final(plain(2, 2)), api.ErrArg)
	refuseMake(t, h, final(plain(2, 3)), api.ErrArg)
	// The class ahead of its fields, and both ahead of the room.
	refuseMake(t, h, plain(2, 2), api.ErrNone)
	refuseMake(t, h, plain(2, 3), api.ErrNone)
	refuseMake(t, h, plain(1, 3), api.ErrArg)
	refuseMake(t, h, final(plain(1, 2)), api.ErrArg)
	refuseMake(t, h, final(data(2)), api.ErrArg)
	refuseMake(t, h, data(1024), api.ErrArg)
	refuseMake(t, h, api.Head{}, api.ErrArg)
	refuseMake(t, h, ref(4), api.ErrArg)
	// Nothing but the room.
	for _, x := range []api.Head{plain(1, 2), refs(0), refs(1023), data(0), data(63), ref(1), ref(3)} {
		refuseMake(t, h, x, api.ErrFull)
	}
	hasObjects(t, h, api.Obj{At: 64, Head: data(63), Words: make([]int, 63)})
}

func TestMakeWhereThereIsNoRoom(t *testing.T) {
	h := made(t, 1)
	for _, x := range []api.Head{refs(0), data(0), data(1023), ref(2)} {
		refuseMake(t, h, x, api.ErrFull)
	}
	hasObjects(t, h)
	h = made(t, 16)
	refuseMake(t, h, data(1023), api.ErrFull)
	refuseMake(t, h, data(960), api.ErrFull)
	makes(t, h, data(959), 64)
	h = made(t, 17)
	makes(t, h, data(1023), 64)
	for _, n := range []int{0, 1, 3, 7, 15, 31} {
		m, h := newModel(t, 3), made(t, 3)
		for {
			want, e := m.make(data(n))
			if e != api.OK {
				break
			}
			makes(t, h, data(n), want)
		}
		refuseMake(t, h, data(n), api.ErrFull)
		m.same(t, h)
	}
}

func TestMakeWhereABlockWasFreed(t *testing.T) {
	h := made(t, 3)
	addClass(t, h, 1, 3)
	for i := range 16 {
		makes(t, h, refs(3), 64+4*i)
		for j := range 3 {
			puts(t, h, 64+4*i, j, -1)
		}
		finals(t, h, 64+4*i, api.OK)
	}
	for i, x := range []api.Head{plain(1, 3), data(2), refs(3), data(3)} {
		at := 64 + 4*(15-3*i)
		frees(t, h, at)
		makes(t, h, x, at)
		isObject(t, h, at, x, make([]int, x.Len)...)
		if w, _ := h.Load(at + 3); w != 0 {
			t.Errorf("the last word of %v is %d", x, w)
		}
	}
	makes(t, h, refs(2), 128)
	frees(t, h, 68)
	makes(t, h, refs(2), 68)
}

// Of all sizes: what others stood in is 0 again, behind the fields too.
func TestTheFieldsAreZeroAtFirst(t *testing.T) {
	for _, n := range []int{0, 1, 2, 3, 4, 6, 7, 8, 15, 16, 30, 31, 32, 62, 63, 64, 200, 1023} {
		h := made(t, 20)
		for at := range h.Len() {
			h.Store(at, -7)
		}
		for range 2 {
			makes(t, h, data(n), 64)
			isObject(t, h, 64, data(n), make([]int, n)...)
			_, words, _ := h.Find(64)
			for i := 1; i < words; i++ {
				if w, _ := h.Load(64 + i); w != 0 {
					t.Fatalf("word %d of %d fields is %d", i, n, w)
				}
			}
			for i := range n {
				puts(t, h, 64, i, i+1)
			}
			finals(t, h, 64, api.OK)
			frees(t, h, 64)
		}
	}
}

// 9.1 Head

func TestOnlyWhereABlockBegins(t *testing.T) {
	h := made(t, 12)
	addClass(t, h, 1, 5, 0, 4)
	heads := []api.Head{data(0), data(1), refs(3), plain(1, 5), ref(1), data(31), data(63), refs(130)}
	for i, x := range heads {
		at, e := h.Make(x)
		if e != api.OK {
			t.Fatalf("Make %d: %d", i, e)
		}
		for j := range x.Len {
			// Words that are addresses, and words that look like heads.
			puts(t, h, at, j, []int{64, word(data(1)), word(refs(2))}[j%3])
		}
	}
	before := h.Objects()
	begins := h.Each()
	for at := -130; at < h.Len()+130; at++ {
		if !slices.Contains(begins, at) {
			noObject(t, h, at)
		}
	}
	for _, at := range far {
		noObject(t, h, at)
	}
	hasObjects(t, h, before...)
	if len(before) != len(heads) {
		t.Errorf("%d objects", len(before))
	}
}

func TestWhatWasFreedIsGone(t *testing.T) {
	h := made(t, 8)
	makes(t, h, data(3), 64)
	makes(t, h, refs(3), 68)
	makes(t, h, data(100), 128)
	puts(t, h, 68, 1, 64)
	for _, at := range []int{64, 128, 68} {
		frees(t, h, at)
		noObject(t, h, at)
		if e := h.Free(at); e != api.ErrNone {
			t.Errorf("Free(%d) again: %d", at, e)
		}
	}
	hasObjects(t, h)
	if h.Used() != 0 || h.Left() != 7 {
		t.Errorf("Used, Left: %d, %d", h.Used(), h.Left())
	}
}

func TestFreeWithinAnObjectIsNone(t *testing.T) {
	h := made(t, 5)
	makes(t, h, data(7), 64)
	makes(t, h, data(100), 128)
	for _, at := range []int{65, 71, 72, 129, 192, 255, 0, -64} {
		if e := h.Free(at); e != api.ErrNone {
			t.Errorf("Free(%d): %d", at, e)
		}
	}
	isObject(t, h, 64, data(7), make([]int, 7)...)
	isObject(t, h, 128, data(100), make([]int, 100)...)
}

// 9.1 Field, Put; 9.3

func TestFieldAndPutAtTheEdges(t *testing.T) {
	for _, n := range []int{1, 2, 3, 4, 5, 7, 8, 31, 32, 63, 64, 1023} {
		h := made(t, 40)
		makes(t, h, data(n), 64)
		at, _ := h.Make(data(n))
		for _, i := range []int{0, n - 1} {
			puts(t, h, 64, i, 40+i)
			if x, e := h.Field(64, i); x != 40+i || e != api.OK {
				t.Errorf("Field(64, %d): %d, %d", i, x, e)
			}
		}
		before := h.Objects()
		for _, i := range append([]int{-1, -2, n, n + 1, n + 2, 1024, -n, -n - 1, at - 65, at - 64, -64, -65}, far...) {
			if 0 <= i && i < n {
				continue
			}
			if x, e := h.Field(64, i); x != 0 || e != api.ErrArg {
				t.Errorf("Field(64, %d) of %d: %d, %d", i, n, x, e)
			}
			if e := h.Put(64, i, 99); e != api.ErrArg {
				t.Errorf("Put(64, %d) of %d: %d", i, n, e)
			}
		}
		hasObjects(t, h, before...)
	}
}

// Behind the last field a block has words that are no fields.
func TestTheRestOfABlockIsNoField(t *testing.T) {
	h := made(t, 3)
	makes(t, h, data(4), 64)
	for i := 4; i < 8; i++ {
		if x, e := h.Field(64, i); x != 0 || e != api.ErrArg || h.Put(64, i, 5) != api.ErrArg {
			t.Errorf("Field(64, %d): %d, %d", i, x, e)
		}
	}
	for at := 69; at < 73; at++ {
		if w, _ := h.Load(at); w != 0 {
			t.Errorf("word %d is %d", at, w)
		}
	}
}

func TestAFieldIsWhatItWasPutTo(t *testing.T) {
	h := made(t, 8)
	addClass(t, h, 1, 4, 1)
	makes(t, h, plain(1, 4), 64)
	makes(t, h, refs(4), 72)
	makes(t, h, data(4), 80)
	makes(t, h, ref(api.Weak), 88)
	words := map[int][]int{64: make([]int, 4), 72: make([]int, 4), 80: make([]int, 4), 88: make([]int, 5)}
	for round, x := range numbers {
		for _, at := range []int{88, 64, 80, 72} {
			for i := range words[at] {
				words[at][i] = x + round*i
				puts(t, h, at, i, words[at][i])
				for _, other := range []int{64, 72, 80, 88} {
					for j, want := range words[other] {
						if y, e := h.Field(other, j); y != want || e != api.OK {
							t.Fatalf("behind Put(%d, %d): Field(%d, %d): %d, %d, want %d", at, i, other, j, y, e, want)
						}
					}
				}
			}
		}
	}
	isObject(t, h, 64, plain(1, 4), words[64]...)
	isObject(t, h, 72, refs(4), words[72]...)
	isObject(t, h, 80, data(4), words[80]...)
	isObject(t, h, 88, ref(api.Weak), words[88]...)
}

// A field stays, whatever is made, freed and refused beside it.
func TestAFieldStays(t *testing.T) {
	h := made(t, 6)
	makes(t, h, data(3), 64)
	makes(t, h, data(3), 68)
	makes(t, h, data(3), 72)
	for i := range 3 {
		puts(t, h, 68, i, 100+i)
	}
	for _, n := range []int{3, 2, 3, 70, 1, 200} {
		frees(t, h, 64)
		frees(t, h, 72)
		h.Make(data(n))
		h.Make(data(3))
		h.Make(data(3))
		h.Make(api.Head{})
		h.Put(68, 3, 1)
		h.Put(68, -1, 1)
		h.Put(67, 0, 1)
		isObject(t, h, 68, data(3), 100, 101, 102)
		for _, at := range h.Each() {
			if at != 64 && at != 68 && at != 72 {
				frees(t, h, at)
			}
		}
	}
}

// 9.2 Refs

func TestRefsOfAPlain(t *testing.T) {
	h := made(t, 60)
	for i, c := range []api.Class{
		{Fields: 0}, {Fields: 1}, {Fields: 1, Refs: []int{0}}, {Fields: 5}, {Fields: 5, Refs: []int{}}, {Fields: 5, Refs: []int{0}}, {Fields: 5, Refs: []int{4}},
		{Fields: 5, Refs: []int{1, 3}}, {Fields: 5, Refs: []int{0, 1, 2, 3, 4}}, {Fields: maxFields, Refs: []int{0, 1022}}, {Fields: maxFields, Refs: upTo(maxFields)},
	} {
		if id, e := h.Add(c); id != i+1 || e != api.OK {
			t.Fatalf("Add %d: %d, %d", i, id, e)
		}
		at, e := h.Make(plain(i+1, c.Fields))
		if e != api.OK {
			t.Fatalf("Make %d: %d", i, e)
		}
		hasRefs(t, h, at, c.Refs...)
		for j := range c.Fields {
			puts(t, h, at, j, 64)
		}
		finals(t, h, at, api.OK)
		hasRefs(t, h, at, c.Refs...)
	}
}

func TestRefsOfARefs(t *testing.T) {
	for _, n := range []int{0, 1, 2, 3, 31, 64, 1022, 1023} {
		h := made(t, 20)
		makes(t, h, refs(n), 64)
		hasRefs(t, h, 64, upTo(n)...)
		for i := range n {
			puts(t, h, 64, i, -i)
		}
		finals(t, h, 64, api.OK)
		hasRefs(t, h, 64, upTo(n)...)
	}
}

func TestRefsOfARef(t *testing.T) {
	for strength := api.Soft; strength <= api.Phantom; strength++ {
		h := made(t, 2)
		// A class of that number, too, says nothing of a reference.
		for range 3 {
			h.Of(5, 0, 1, 3, 4)
		}
		makes(t, h, ref(strength), 64)
		hasRefs(t, h, 64, 2)
		for i := range refFields {
			puts(t, h, 64, i, 64)
		}
		hasRefs(t, h, 64, 2)
	}
}

func TestRefsOfAData(t *testing.T) {
	for _, n := range []int{0, 1, 5, 63, 1023} {
		h := made(t, 20)
		makes(t, h, data(n), 64)
		hasRefs(t, h, 64)
		for i := range n {
			puts(t, h, 64, i, 64)
		}
		hasRefs(t, h, 64)
		finals(t, h, 64, api.OK)
		hasRefs(t, h, 64)
	}
}

// 9.2 Final

func TestFinal(t *testing.T) {
	h := made(t, 40)
	for id := 1; id < maxClasses; id++ {
		h.Of(1)
	}
	addClass(t, h, 256, 3, 1, 2)
	for _, x := range []api.Head{plain(256, 3), plain(1, 1), refs(0), refs(3), data(0), data(3), data(100), data(1023)} {
		at, e := h.Make(x)
		if e != api.OK {
			t.Fatalf("Make(%v): %d", x, e)
		}
		words := make([]int, x.Len)
		for i := range words {
			words[i] = -1 - i
			puts(t, h, at, i, words[i])
		}
		before := h.Objects()
		told := h.Refs(at)
		isObject(t, h, at, x, words...)
		finals(t, h, at, api.OK)
		isObject(t, h, at, final(x), words...)
		hasRefs(t, h, at, told...)
		for range 3 {
			finals(t, h, at, api.ErrHave)
			isObject(t, h, at, final(x), words...)
		}
		for i := range before {
			if before[i].At == at {
				before[i].Head.Final = true
			}
		}
		hasObjects(t, h, before...)
	}
}

func TestFinalOfARef(t *testing.T) {
	h := made(t, 2)
	for strength := api.Soft; strength <= api.Phantom; strength++ {
		at := 56 + 8*strength
		makes(t, h, ref(strength), at)
		for i := range refFields {
			puts(t, h, at, i, 10*i)
		}
		for range 2 {
			finals(t, h, at, api.ErrKind)
			isObject(t, h, at, ref(strength), 0, 10, 20, 30, 40)
		}
	}
}

func TestPutBehindFinal(t *testing.T) {
	h := made(t, 2)
	makes(t, h, data(2), 64)
	finals(t, h, 64, api.OK)
	puts(t, h, 64, 0, 5)
	puts(t, h, 64, 1, 6)
	isObject(t, h, 64, final(data(2)), 5, 6)
}

// What is made anew where an object with a finalizer was has none.
func TestFinalIsGoneWithItsObject(t *testing.T) {
	h := made(t, 2)
	for range 3 {
		makes(t, h, data(2), 64)
		isObject(t, h, 64, data(2), 0, 0)
		finals(t, h, 64, api.OK)
		finals(t, h, 64, api.ErrHave)
		frees(t, h, 64)
		finals(t, h, 64, api.ErrNone)
	}
}

// 9.2 Objects

func TestObjects(t *testing.T) {
	h := made(t, 10)
	hasObjects(t, h)
	makes(t, h, data(20), 64)
	hasObjects(t, h, api.Obj{At: 64, Head: data(20), Words: make([]int, 20)})
	addClass(t, h, 1, 2, 0)
	makes(t, h, plain(1, 2), 128)
	makes(t, h, ref(api.Soft), 192)
	makes(t, h, data(65), 256)
	makes(t, h, refs(0), 384)
	// These stand between the others: the order is the address's, not the time's.
	makes(t, h, refs(20), 96)
	makes(t, h, data(2), 132)
	puts(t, h, 128, 1, 11)
	puts(t, h, 132, 0, -12)
	puts(t, h, 192, 4, 13)
	finals(t, h, 128, api.OK)
	want := []api.Obj{
		{At: 64, Head: data(20), Words: make([]int, 20)},
		{At: 96, Head: refs(20), Words: make([]int, 20)},
		{At: 128, Head: final(plain(1, 2)), Words: []int{0, 11}},
		{At: 132, Head: data(2), Words: []int{-12, 0}},
		{At: 192, Head: ref(api.Soft), Words: []int{0, 0, 0, 0, 13}},
		{At: 256, Head: data(65), Words: make([]int, 65)},
		{At: 384, Head: refs(0)},
	}
	hasObjects(t, h, want...)
	for _, i := range []int{3, 0, 4, 2, 1, 1, 0} {
		frees(t, h, want[i].At)
		want = slices.Delete(want, i, i+1)
		hasObjects(t, h, want...)
	}
	hasObjects(t, h)
}

func TestObjectsOfAWholeHeap(t *testing.T) {
	h := made(t, 256)
	var want []api.Obj
	for at := 64; at < 16384; at += 2 {
		makes(t, h, data(1), at)
		puts(t, h, at, 0, -at)
		want = append(want, api.Obj{At: at, Head: data(1), Words: []int{-at}})
	}
	refuseMake(t, h, data(0), api.ErrFull)
	hasObjects(t, h, want...)
}

// TestALongRow holds heaps against their models through a long row of right
// and wrong calls, from a fixed rule.
func TestALongRow(t *testing.T) {
	seed := uint64(1)
	next := func(below int) int {
		seed = seed*6364136223846793005 + 1442695040888963407
		return int(seed>>33) % below
	}
	for _, n := range []int{2, 3, 5, 9} {
		for _, most := range []int{3, 16, 70, 300} {
			m, h := newModel(t, n), made(t, n)
			for range 300 {
				step(t, m, h, next, most)
				m.same(t, h)
			}
		}
	}
}

// step is one call on both.
func step(t *testing.T, m *model, h *object.Heap, next func(int) int, most int) {
	t.Helper()
	at := next(h.Len()+20) - 10
	if begins := m.Each(); len(begins) > 0 && next(4) > 0 {
		at = begins[next(len(begins))]
	}
	switch next(8) {
	case 0:
		c := api.Class{Fields: next(most)}
		for i := range c.Fields {
			if next(2) == 0 {
				c.Refs = append(c.Refs, i)
			}
		}
		m.classes = append(m.classes, c)
		addClass(t, h, len(m.classes), c.Fields, c.Refs...)
	case 1, 2, 3:
		x := api.Head{Kind: next(6), Len: next(most), Final: next(9) == 0}
		switch {
		case x.Kind == api.KPlain:
			x.Class = next(len(m.classes) + 2)
			if 1 <= x.Class && x.Class <= len(m.classes) && next(5) > 0 {
				x.Len = m.classes[x.Class-1].Fields
			}
		case x.Kind == api.KRef:
			x.Class, x.Len = next(5), 4+next(3)
		}
		wantAt, want := m.make(x)
		if at, e := h.Make(x); at != wantAt || e != want {
			t.Fatalf("Make(%v): %d, %d, want %d, %d", x, at, e, wantAt, want)
		}
	case 4, 5:
		i, x := next(most+2)-1, next(1000)-500
		if e, want := h.Put(at, i, x), m.put(at, i, x); e != want {
			t.Fatalf("Put(%d, %d, %d): %d, want %d", at, i, x, e, want)
		}
	case 6:
		finals(t, h, at, m.final(at))
	case 7:
		if e, want := h.Free(at), m.free(at); e != want {
			t.Fatalf("Free(%d): %d, want %d", at, e, want)
		}
	}
}

// R3

func TestRefsAreNewMemory(t *testing.T) {
	h := made(t, 8)
	handed := []int{0, 2, 3}
	addClass(t, h, 1, 5, handed...)
	clear(handed)
	makes(t, h, plain(1, 5), 64)
	makes(t, h, plain(1, 5), 72)
	makes(t, h, refs(6), 80)
	makes(t, h, ref(api.Weak), 88)
	makes(t, h, data(5), 96)
	want := map[int][]int{64: {0, 2, 3}, 72: {0, 2, 3}, 80: {0, 1, 2, 3, 4, 5}, 88: {2}, 96: nil}
	for _, at := range []int{64, 72, 80, 88, 96} {
		x, y := h.Refs(at), h.Refs(at)
		wide := x[:cap(x)]
		for i := range wide {
			wide[i] = -9
		}
		if !slices.Equal(y, want[at]) {
			t.Errorf("Refs(%d) told ahead: %v", at, y)
		}
		a, b := append(y, 1000), append(h.Refs(at), 2000)
		if a[len(a)-1] != 1000 || b[len(b)-1] != 2000 {
			t.Errorf("Refs(%d): two lists share the room behind them", at)
		}
		for other, l := range want {
			hasRefs(t, h, other, l...)
		}
	}
	if c, _ := h.Class(1); !slices.Equal(c.Refs, []int{0, 2, 3}) {
		t.Errorf("Class(1): %v", c)
	}
}

func TestObjectsAreNewMemory(t *testing.T) {
	h := made(t, 8)
	makes(t, h, data(3), 64)
	makes(t, h, refs(2), 68)
	makes(t, h, data(40), 128)
	makes(t, h, data(0), 192)
	puts(t, h, 64, 1, 5)
	puts(t, h, 68, 0, 64)
	want := h.Objects()
	told := h.Objects()
	for k := range told {
		wide := told[k].Words[:cap(told[k].Words)]
		for i := range wide {
			wide[i] = -100 - k
		}
		_ = append(told[k].Words, -1, -2, -3)
		for i, x := range told[k].Words {
			if x != -100-k {
				t.Errorf("word %d of object %d: %d", i, k, x)
			}
		}
		// What stands behind it is not written by what was appended.
		for j := k + 1; j < len(told); j++ {
			if !slices.Equal(told[j].Words, want[j].Words) {
				t.Errorf("object %d shares memory with %d", j, k)
			}
		}
		hasObjects(t, h, want...)
	}
	for i := range told {
		told[i] = api.Obj{At: -1}
	}
	all := told[:cap(told)]
	for i := range all {
		all[i].Head.Kind = 9
	}
	_ = append(told, api.Obj{At: 1})
	hasObjects(t, h, want...)
	// What was told ahead stays as it was told, whatever is put.
	for i := range 3 {
		puts(t, h, 64, i, 77)
	}
	finals(t, h, 64, api.OK)
	frees(t, h, 68)
	if want[0].Head.Final || !slices.Equal(want[0].Words, []int{0, 5, 0}) || want[1].At != 68 || !slices.Equal(want[1].Words, []int{64, 0}) {
		t.Errorf("told ahead: %v", want[:2])
	}
}

// R5

func TestTwoHeapsDoNotTouch(t *testing.T) {
	a, b := made(t, 4), made(t, 4)
	addClass(t, a, 1, 2, 0)
	makes(t, a, plain(1, 2), 64)
	refuseMake(t, b, plain(1, 2), api.ErrNone)
	hasObjects(t, b)
	noObject(t, b, 64)
	addClass(t, b, 1, 2, 1)
	makes(t, b, plain(1, 2), 64)
	puts(t, a, 64, 0, 5)
	puts(t, b, 64, 1, 6)
	finals(t, a, 64, api.OK)
	isObject(t, a, 64, final(plain(1, 2)), 5, 0)
	isObject(t, b, 64, plain(1, 2), 0, 6)
	hasRefs(t, a, 64, 0)
	hasRefs(t, b, 64, 1)
	frees(t, a, 64)
	isObject(t, b, 64, plain(1, 2), 0, 6)
	noObject(t, a, 64)
}

func TestTheSameCallsTellTheSame(t *testing.T) {
	row := func() []any {
		h := made(t, 6)
		var told []any
		tell := func(x ...any) { told = append(told, x...) }
		for i := range 60 {
			id, e := h.Of(i%9, upTo(i%9)...)
			at, f := h.Make(plain(i%70, i%9))
			other, g := h.Make(data(i * 3 % 50))
			y, k := h.Field(at, 1)
			tell(id, e, at, f, other, g, y, k, h.Put(other, i%5, i), h.Final(64+2*i), h.Refs(at))
			if i%4 == 0 {
				tell(h.Free(at))
			}
			tell(h.Objects())
		}
		return told
	}
	if a, b := row(), row(); !reflect.DeepEqual(a, b) {
		t.Error("two rows of the same calls differ")
	}
}

// Methods of nil

func TestMethodsOfNil(t *testing.T) {
	var h *object.Heap
	for _, x := range []api.Head{data(1), refs(0), ref(1), plain(1, 2), {}, final(data(1)), data(-1), data(math.MaxInt)} {
		refuseMake(t, h, x, api.ErrNone)
	}
	for _, at := range append([]int{0, 1, 64, 65, 128}, far...) {
		noObject(t, h, at)
	}
	if l := h.Objects(); len(l) != 0 {
		t.Errorf("Objects: %v", l)
	}
}

// A Heap that New did not make has no space and no classes: none, no panic.
func TestMethodsOfAnEmptyHeap(t *testing.T) {
	for _, h := range []*object.Heap{{}, {Space: &space.Space{}}, {Table: class.New()}, {Space: &space.Space{}, Table: &class.Table{}}} {
		for _, x := range []api.Head{data(1), refs(0), ref(1), plain(1, 2), data(63)} {
			refuseMake(t, h, x, api.ErrNone)
		}
		for _, at := range append([]int{0, 1, 64, 65, 128}, far...) {
			noObject(t, h, at)
		}
		if l := h.Objects(); len(l) != 0 {
			t.Errorf("Objects: %v", l)
		}
	}
}

// Ways

func TestAHeapEmbedsItsSpaceAndItsTable(t *testing.T) {
	heap := reflect.TypeFor[object.Heap]()
	for _, want := range []reflect.Type{reflect.TypeFor[*space.Space](), reflect.TypeFor[*class.Table]()} {
		embeds := false
		for f := range heap.NumField() {
			embeds = embeds || heap.Field(f).Anonymous && heap.Field(f).Type == want
		}
		if !embeds {
			t.Errorf("a Heap does not embed %v", want)
		}
	}
}

func TestTheSpaceIsPromoted(t *testing.T) {
	h := made(t, 6)
	makes(t, h, data(3), 64)
	makes(t, h, data(100), 128)
	puts(t, h, 64, 2, 9)
	if x, e := h.Load(67); x != 9 || e != api.OK || h.Len() != 384 {
		t.Errorf("Load, Len: %d, %d, %d", x, e, h.Len())
	}
	if x, e := h.Space.Load(128); x != word(data(100)) || e != api.OK {
		t.Errorf("Load of the space: %d, %d", x, e)
	}
	if start, words, ok := h.Find(67); start != 64 || words != 4 || !ok {
		t.Errorf("Find: %d, %d, %v", start, words, ok)
	}
	if h.Used() != 132 || h.Cap() != 320 || h.Left() != 2 || h.Size() != 6 || h.Count() != 4 || !slices.Equal(h.Each(), []int{64, 128}) {
		t.Errorf("Used, Cap, Left, Size, Count, Each: %d, %d, %d, %d, %d, %v", h.Used(), h.Cap(), h.Left(), h.Size(), h.Count(), h.Each())
	}
	if !h.Has(3) || h.Has(4) || h.Next(1, false) != 4 || h.Run(0, 2) != 4 || h.Run(0, 3) != -1 {
		t.Errorf("Has, Next, Run: %v, %v, %d, %d, %d", h.Has(3), h.Has(4), h.Next(1, false), h.Run(0, 2), h.Run(0, 3))
	}
}

func TestTheTableIsPromoted(t *testing.T) {
	h := made(t, 3)
	addClass(t, h, 1, 2, 0)
	if id, e := h.Add(api.Class{Fields: 3, Refs: []int{1, 2}}); id != 2 || e != api.OK || h.Classes() != 2 || h.Table.Classes() != 2 {
		t.Errorf("Add: %d, %d, %d classes", id, e, h.Classes())
	}
	if id, e := h.Table.Of(1); id != 3 || e != api.OK {
		t.Errorf("Of the table: %d, %d", id, e)
	}
	if c, e := h.Class(2); c.Fields != 3 || !slices.Equal(c.Refs, []int{1, 2}) || e != api.OK {
		t.Errorf("Class: %v, %d", c, e)
	}
	if id, e := h.Of(1, 1); id != 0 || e != api.ErrArg {
		t.Errorf("Of: %d, %d", id, e)
	}
	makes(t, h, plain(3, 1), 64)
	makes(t, h, plain(2, 3), 128)
}

// A block taken by Alloc alone begins with no head's word: "no block begins
// there" is not so of it, and its head is the zero one, without fields.
func TestABlockWithoutAHead(t *testing.T) {
	h := made(t, 4)
	makes(t, h, data(2), 64)
	if at, e := h.Alloc(3); at != 68 || e != api.OK {
		t.Fatalf("Alloc: %d, %d", at, e)
	}
	if x, e := h.Head(68); x != (api.Head{}) || e != api.OK {
		t.Errorf("Head: %v, %d", x, e)
	}
	for _, i := range []int{0, 1, -1, 3} {
		if x, e := h.Field(68, i); x != 0 || e != api.ErrArg || h.Put(68, i, 1) != api.ErrArg {
			t.Errorf("Field(68, %d): %d, %d", i, x, e)
		}
	}
	hasRefs(t, h, 68)
	// No error is named for it, and no word tells the zero head as final.
	finals(t, h, 68, api.OK)
	hasObjects(t, h, api.Obj{At: 64, Head: data(2), Words: []int{0, 0}}, api.Obj{At: 68})
	makes(t, h, data(2), 72)
	frees(t, h, 68)
	noObject(t, h, 68)
	makes(t, h, data(3), 68)
}

// Whatever is done from without, no call panics.
func TestAnythingFromWithout(t *testing.T) {
	seed := uint64(7)
	next := func(below int) int {
		seed = seed*6364136223846793005 + 1442695040888963407
		return int(seed>>33) % below
	}
	for n := 1; n <= 8; n++ {
		h := made(t, n)
		for range 3000 {
			at, i := next(64*n+8)-4, next(70)-2
			switch next(10) {
			case 0:
				h.Give(next(n+2), next(4))
			case 1:
				h.Set(next(2) == 0, next(n))
			case 2:
				h.Take(next(3))
			case 3:
				h.Free(at)
			case 4:
				h.Store(at, word(api.Head{Kind: next(6), Class: next(4), Len: next(1100), Final: next(2) == 0}))
			case 5:
				h.Fill(at, next(20))
			case 6:
				h.Alloc(next(200))
			default:
				h.Make(api.Head{Kind: next(6), Class: next(4), Len: next(100)})
			}
			h.Head(at)
			h.Field(at, i)
			h.Put(at, i, -i)
			h.Final(at)
			for _, r := range h.Refs(at) {
				h.Field(at, r)
			}
			if next(50) == 0 {
				h.Objects()
			}
		}
	}
}
