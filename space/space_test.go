package space_test

import (
	"math"
	"reflect"
	"slices"
	"testing"

	"gloaming/api"
	"gloaming/arena"
	"gloaming/pages"
	"gloaming/space"
)

// classes are the document's numbers, written out: the least and the most
// words of each class, and how many blocks of it a page has.
var classes = []struct{ least, most, many int }{{1, 2, 32}, {3, 4, 16}, {5, 8, 8}, {9, 16, 4}, {17, 32, 2}}

// far are numbers that no Space has a place, a page or a block for.
var far = []int{-1, -2, -63, -64, -65, -128, 1 << 32, 1<<32 + 64, -1 << 32, 1 << 62, math.MaxInt - 63, math.MaxInt - 1, math.MaxInt, math.MinInt, math.MinInt + 1, math.MinInt + 64}

// model is a Space told by the document's words, word by word: of which block
// each word is (by where it begins; -1: of none), and what it is.
type model struct {
	of    []int
	cells []int
	class []int // of each page the size of its blocks; 0: none; -1: a larger one's
}

func newModel(n int) *model {
	m := &model{slices.Repeat([]int{-1}, 64*n), make([]int, 64*n), make([]int, n)}
	m.class[0] = -1
	return m
}

// room is how many words a block of so many has; 0: there is no such one.
func room(words int) int {
	for _, c := range classes {
		if c.least <= words && words <= c.most {
			return c.most
		}
	}
	for most := 64; most <= 1024; most += 64 {
		if 33 <= words && words <= most {
			return most
		}
	}
	return 0
}

// alloc answers -1 where there is no room.
func (m *model) alloc(words int) int {
	n := room(words)
	at := m.place(n)
	if at < 0 {
		return -1
	}
	for i := at; i < at+n; i++ {
		m.of[i], m.cells[i] = at, 0
	}
	return at
}

func (m *model) place(n int) int {
	if n > 32 {
		return m.takePages(n/64, -1)
	}
	for at, of := range m.of {
		if m.class[at/64] == n && at%n == 0 && of < 0 {
			return at
		}
	}
	return m.takePages(1, n)
}

func (m *model) takePages(k, class int) int {
	for p := range m.class {
		end := p + k
		if end <= len(m.class) && !slices.ContainsFunc(m.class[p:end], func(c int) bool { return c != 0 }) {
			for i := p; i < end; i++ {
				m.class[i] = class
			}
			return 64 * p
		}
	}
	return -1
}

func (m *model) free(at int) bool {
	if at < 0 || at >= len(m.of) || m.of[at] != at {
		return false
	}
	for i, of := range m.of {
		if of == at {
			m.of[i] = -1
		}
	}
	for p := 1; p < len(m.class); p++ {
		if !slices.ContainsFunc(m.of[64*p:64*p+64], func(of int) bool { return of >= 0 }) {
			m.class[p] = 0
		}
	}
	return true
}

func (m *model) each() []int {
	var all []int
	for at, of := range m.of {
		if of == at {
			all = append(all, at)
		}
	}
	return all
}

func (m *model) words(at int) int {
	n := 0
	for _, of := range m.of {
		if of == at {
			n++
		}
	}
	return n
}

func (m *model) left() int {
	n := 0
	for _, c := range m.class {
		if c == 0 {
			n++
		}
	}
	return n
}

// same looks at all that there is to see of a Space.
func (m *model) same(t *testing.T, s *space.Space) {
	t.Helper()
	used := 0
	for at, of := range m.of {
		if x, e := s.Load(at); x != m.cells[at] || e != api.OK {
			t.Fatalf("Load(%d): %d, %d, want %d", at, x, e, m.cells[at])
		}
		if of < 0 {
			notFound(t, s, at)
			continue
		}
		used++
		if start, words, ok := s.Find(at); start != of || !ok || start == at && words != m.words(at) {
			t.Fatalf("Find(%d): %d, %d, %v, want %d", at, start, words, ok, of)
		}
	}
	state(t, s, used, m.left(), m.each()...)
	for p, c := range m.class {
		if s.Has(p) != (c != 0) {
			t.Fatalf("page %d is taken: %v", p, s.Has(p))
		}
	}
}

// pair is a Space beside its model, through the same calls.
type pair struct {
	*space.Space
	m *model
}

func newPair(t *testing.T, n int) pair {
	t.Helper()
	return pair{made(t, n), newModel(n)}
}

func (p pair) alloc(t *testing.T, words int) int {
	t.Helper()
	want := p.m.alloc(words)
	if want < 0 {
		refuseAlloc(t, p.Space, words, api.ErrFull)
	} else {
		alloc(t, p.Space, words, want)
	}
	return want
}

func (p pair) free(t *testing.T, at int) {
	t.Helper()
	if p.m.free(at) {
		free(t, p.Space, at)
	} else {
		refuseFree(t, p.Space, at)
	}
}

func (p pair) store(t *testing.T, at, x int) {
	t.Helper()
	if e := p.Store(at, x); e != api.OK {
		t.Fatalf("Store(%d, %d): %d", at, x, e)
	}
	p.m.cells[at] = x
}

// scribble writes into every word, so that one that is 0 was made so.
func (p pair) scribble(t *testing.T) {
	t.Helper()
	for at := range p.m.cells {
		p.store(t, at, 1000+at)
	}
}

func made(t *testing.T, n int) *space.Space {
	t.Helper()
	s, e := space.New(n)
	if s == nil || e != api.OK {
		t.Fatalf("New(%d): %v, %d", n, s, e)
	}
	return s
}

func alloc(t *testing.T, s *space.Space, words, want int) {
	t.Helper()
	if at, e := s.Alloc(words); at != want || e != api.OK {
		t.Fatalf("Alloc(%d): %d, %d, want %d", words, at, e, want)
	}
}

func refuseAlloc(t *testing.T, s *space.Space, words int, want api.Errno) {
	t.Helper()
	if at, e := s.Alloc(words); at != 0 || e != want {
		t.Fatalf("Alloc(%d): %d, %d, want 0, %d", words, at, e, want)
	}
}

func free(t *testing.T, s *space.Space, at int) {
	t.Helper()
	if e := s.Free(at); e != api.OK {
		t.Fatalf("Free(%d): %d", at, e)
	}
}

func refuseFree(t *testing.T, s *space.Space, at int) {
	t.Helper()
	if e := s.Free(at); e != api.ErrNone {
		t.Fatalf("Free(%d): %d", at, e)
	}
}

func found(t *testing.T, s *space.Space, at, wantStart, wantWords int) {
	t.Helper()
	if start, words, ok := s.Find(at); start != wantStart || words != wantWords || !ok {
		t.Fatalf("Find(%d): %d, %d, %v, want %d, %d", at, start, words, ok, wantStart, wantWords)
	}
}

func notFound(t *testing.T, s *space.Space, at int) {
	t.Helper()
	if start, words, ok := s.Find(at); start != 0 || words != 0 || ok {
		t.Fatalf("Find(%d): %d, %d, %v", at, start, words, ok)
	}
}

func state(t *testing.T, s *space.Space, used, left int, each ...int) {
	t.Helper()
	if s.Used() != used || s.Left() != left || s.Cap() != s.Len()-64 {
		t.Fatalf("Used, Left, Cap: %d, %d, %d, want %d, %d", s.Used(), s.Left(), s.Cap(), used, left)
	}
	if !slices.Equal(s.Each(), each) {
		t.Fatalf("Each: %v, want %v", s.Each(), each)
	}
}

// 6.1 New

func TestNew(t *testing.T) {
	for _, n := range []int{1, 2, 3, 17, 255, 256} {
		s := made(t, n)
		if s.Len() != 64*n || s.Size() != n || s.Cap() != 64*(n-1) {
			t.Errorf("Len, Size, Cap of %d pages: %d, %d, %d", n, s.Len(), s.Size(), s.Cap())
		}
		newModel(n).same(t, s)
	}
}

func TestNewRefuses(t *testing.T) {
	for _, n := range append([]int{0, 257, 258, 512}, far...) {
		if s, e := space.New(n); s != nil || e != api.ErrArg {
			t.Errorf("New(%d): %v, %d", n, s, e)
		}
	}
}

// 6.1 Alloc

func TestTheExample(t *testing.T) {
	alloc(t, made(t, 2), 3, 64)
}

func TestAllocOfEachNumberOfWords(t *testing.T) {
	for words := 1; words <= 1024; words++ {
		s := made(t, 18)
		alloc(t, s, words, 64)
		found(t, s, 64, 64, room(words))
		found(t, s, 63+room(words), 64, room(words))
		notFound(t, s, 64+room(words))
		state(t, s, room(words), 17-(room(words)+63)/64, 64)
	}
}

func TestAllocRefusesWords(t *testing.T) {
	for _, n := range []int{1, 2, 18, 256} {
		p := newPair(t, n)
		for _, words := range append([]int{0, 1025, 1026, 2048, 16384}, far...) {
			refuseAlloc(t, p.Space, words, api.ErrArg)
		}
		p.m.same(t, p.Space)
	}
}

func TestAllocRefusesWordsOfAFullSpaceToo(t *testing.T) {
	s := made(t, 2)
	alloc(t, s, 64, 64)
	for _, words := range []int{0, -1, 1025, math.MaxInt, math.MinInt} {
		refuseAlloc(t, s, words, api.ErrArg)
	}
}

func TestTheEdgesOfEachClass(t *testing.T) {
	for _, c := range classes {
		s := made(t, 3)
		alloc(t, s, c.least, 64)
		alloc(t, s, c.most, 64+c.most)
		found(t, s, 64, 64, c.most)
		found(t, s, 64+c.most, 64+c.most, c.most)
		alloc(t, s, c.most+1, 128)
		state(t, s, 2*c.most+room(c.most+1), 0, 64, 64+c.most, 128)
	}
}

func TestTheEdgesOfPages(t *testing.T) {
	for k := 1; k <= 16; k++ {
		p := newPair(t, 3*k+4)
		least := max(33, 64*k-63)
		p.alloc(t, least)
		p.alloc(t, 64*k)
		found(t, p.Space, 64, 64, 64*k)
		found(t, p.Space, 64+64*k, 64+64*k, 64*k)
		if k < 16 {
			alloc(t, p.Space, 64*k+1, 64+128*k)
			found(t, p.Space, 64+128*k, 64+128*k, 64*k+64)
		} else {
			refuseAlloc(t, p.Space, 64*k+1, api.ErrArg)
		}
	}
}

func TestThirtyTwoAndThirtyThree(t *testing.T) {
	s := made(t, 4)
	alloc(t, s, 32, 64)
	alloc(t, s, 33, 128)
	alloc(t, s, 32, 96)
	found(t, s, 96, 96, 32)
	found(t, s, 191, 128, 64)
	state(t, s, 128, 1, 64, 96, 128)
}

func TestOnePageHasRoomForNothing(t *testing.T) {
	p := newPair(t, 1)
	for words := 1; words <= 1024; words++ {
		refuseAlloc(t, p.Space, words, api.ErrFull)
	}
	for at := -1; at <= 65; at++ {
		refuseFree(t, p.Space, at)
		notFound(t, p.Space, at)
	}
	p.m.same(t, p.Space)
}

func TestFullOfEachSize(t *testing.T) {
	for _, n := range []int{2, 3, 9, 18} {
		for words := 1; words <= 1024; words += 1 + words/16*5 {
			p := newPair(t, n)
			for p.alloc(t, words) >= 0 {
			}
			refuseAlloc(t, p.Space, words, api.ErrFull)
			p.m.same(t, p.Space)
		}
	}
}

func TestTheWholeSpaceIsUsed(t *testing.T) {
	for _, c := range classes {
		s := made(t, 256)
		for at := 64; at < 16384; at += c.most {
			alloc(t, s, c.least, at)
		}
		refuseAlloc(t, s, c.least, api.ErrFull)
		if s.Used() != s.Cap() || len(s.Each()) != 255*c.many || s.Left() != 0 {
			t.Errorf("Used, Each, Left: %d, %d, %d", s.Used(), len(s.Each()), s.Left())
		}
	}
}

func TestFullForOneSizeWithRoomForAnother(t *testing.T) {
	for i, c := range classes {
		s := made(t, 2)
		alloc(t, s, c.most, 64)
		for j, other := range classes {
			if i != j {
				refuseAlloc(t, s, other.most, api.ErrFull)
			}
		}
		refuseAlloc(t, s, 33, api.ErrFull)
		alloc(t, s, c.most, 64+c.most)
		state(t, s, 2*c.most, 0, 64, 64+c.most)
	}
	s := made(t, 4)
	alloc(t, s, 64, 64)
	alloc(t, s, 64, 128)
	free(t, s, 64)
	refuseAlloc(t, s, 65, api.ErrFull)
	state(t, s, 64, 2, 128)
	alloc(t, s, 64, 64)
	alloc(t, s, 2, 192)
	refuseAlloc(t, s, 3, api.ErrFull)
	alloc(t, s, 1, 194)
}

// What is refused takes no page, and makes no page of a class.
func TestWhatIsRefusedChangesNothing(t *testing.T) {
	p := newPair(t, 4)
	p.alloc(t, 40)
	p.alloc(t, 5)
	p.alloc(t, 5)
	p.scribble(t)
	for _, words := range []int{65, 129, 1024, 0, -1, 1025} {
		if _, e := p.Alloc(words); e == api.OK {
			t.Fatalf("Alloc(%d): %d", words, e)
		}
		p.m.same(t, p.Space)
	}
	p.alloc(t, 20)
	refuseAlloc(t, p.Space, 1, api.ErrFull)
	p.m.same(t, p.Space)
}

func TestAPageOfAClassIsFilledAheadOfAnother(t *testing.T) {
	for _, c := range classes {
		p := newPair(t, 4)
		for i := range 2*c.many + 1 {
			if at := p.alloc(t, c.most); at != 64+i*c.most {
				t.Fatalf("block %d of %d words: %d", i, c.most, at)
			}
			p.m.same(t, p.Space)
		}
	}
}

// Of two pages of a class that have room the first one counts, whichever was
// taken first, and whichever was given something last.
func TestTheFirstPageWithRoomCounts(t *testing.T) {
	for _, c := range classes {
		for first := range c.many {
			for second := range c.many {
				s := made(t, 3)
				for at := 64; at < 192; at += c.most {
					alloc(t, s, c.most, at)
				}
				free(t, s, 64+first*c.most)
				free(t, s, 128+second*c.most)
				alloc(t, s, c.least, 64+first*c.most)
				alloc(t, s, c.least, 128+second*c.most)
				refuseAlloc(t, s, c.least, api.ErrFull)
			}
		}
	}
}

func TestAPageTakenLaterMayStandAhead(t *testing.T) {
	s := made(t, 4)
	alloc(t, s, 64, 64)
	alloc(t, s, 32, 128)
	alloc(t, s, 32, 160)
	free(t, s, 64)
	alloc(t, s, 32, 64)
	free(t, s, 160)
	alloc(t, s, 32, 96)
	alloc(t, s, 32, 160)
	alloc(t, s, 32, 192)
}

func TestPagesOfOtherClassesDoNotCount(t *testing.T) {
	s := made(t, 7)
	for i, c := range classes {
		alloc(t, s, c.most, 64+64*i)
	}
	for i, c := range classes {
		alloc(t, s, c.least, 64+64*i+c.most)
		found(t, s, 64+64*i+c.most, 64+64*i+c.most, c.most)
	}
	if s.Left() != 1 {
		t.Errorf("Left: %d", s.Left())
	}
}

func TestLargeOnesTakeTheFirstPagesSideBySide(t *testing.T) {
	s := made(t, 12)
	for _, at := range []int{64, 128, 192, 256, 320, 384} {
		alloc(t, s, 64, at)
	}
	free(t, s, 64)
	free(t, s, 192)
	free(t, s, 256)
	alloc(t, s, 129, 448)
	alloc(t, s, 65, 192)
	alloc(t, s, 33, 64)
	refuseAlloc(t, s, 193, api.ErrFull)
	alloc(t, s, 128, 640)
	state(t, s, 704, 0, 64, 128, 192, 320, 384, 448, 640)
}

func TestAllWordsOfABlockAreZero(t *testing.T) {
	for words := 1; words <= 1024; words += 1 + words/40*13 {
		p := newPair(t, 19)
		p.alloc(t, words)
		p.alloc(t, words)
		p.scribble(t)
		p.free(t, 64)
		p.m.same(t, p.Space)
		p.alloc(t, words)
		for at := 64; at < 64+room(words); at++ {
			if x, _ := p.Load(at); x != 0 {
				t.Fatalf("Alloc(%d): word %d is %d", words, at, x)
			}
		}
		p.m.same(t, p.Space)
	}
}

func TestAllWordsOfABlockThatWasNeverTakenAreZero(t *testing.T) {
	for _, words := range []int{1, 2, 3, 5, 9, 17, 32, 33, 64, 65, 1023, 1024} {
		p := newPair(t, 18)
		p.scribble(t)
		p.alloc(t, words)
		p.m.same(t, p.Space)
	}
}

// 6.2 Free

func TestFreeOfOnlyTheBeginning(t *testing.T) {
	p := newPair(t, 20)
	for _, words := range []int{2, 3, 8, 16, 32, 32, 33, 65, 190} {
		p.alloc(t, words)
	}
	begins := p.Each()
	for at := -70; at < 20*64+70; at++ {
		if !slices.Contains(begins, at) {
			refuseFree(t, p.Space, at)
		}
	}
	for _, at := range far {
		refuseFree(t, p.Space, at)
	}
	p.m.same(t, p.Space)
	for _, at := range begins {
		p.free(t, at)
		p.m.same(t, p.Space)
		refuseFree(t, p.Space, at)
		p.m.same(t, p.Space)
	}
	state(t, p.Space, 0, 19)
}

func TestFreeOfANewSpace(t *testing.T) {
	for _, n := range []int{1, 2, 5} {
		p := newPair(t, n)
		for at := -65; at <= 64*n+65; at++ {
			refuseFree(t, p.Space, at)
		}
		p.m.same(t, p.Space)
	}
}

// The last block but one leaves its page to its class, the last one gives it.
func TestFreeOfTheLastBlockOfAPage(t *testing.T) {
	for _, c := range classes {
		for last := range c.many {
			p := newPair(t, 2)
			for range c.many {
				p.alloc(t, c.most)
			}
			for i := range c.many {
				if i != last {
					p.free(t, 64+i*c.most)
					state(t, p.Space, p.Used(), 0, p.m.each()...)
				}
			}
			refuseAlloc(t, p.Space, 33, api.ErrFull)
			state(t, p.Space, c.most, 0, 64+last*c.most)
			p.free(t, 64+last*c.most)
			p.m.same(t, p.Space)
			state(t, p.Space, 0, 1)
			alloc(t, p.Space, 33, 64)
		}
	}
}

func TestWhatIsTakenOfAPageWithOneBlock(t *testing.T) {
	for _, c := range classes {
		for last := range c.many {
			p := newPair(t, 3)
			for range c.many {
				p.alloc(t, c.most)
			}
			for i := range c.many {
				if i != last {
					p.free(t, 64+i*c.most)
				}
			}
			for range c.many {
				p.alloc(t, c.least)
			}
			p.m.same(t, p.Space)
			state(t, p.Space, 64+c.most, 0, p.m.each()...)
		}
	}
}

// A page that was of a class is of any other, or of a larger one, once given.
func TestAPageThatIsGivenIsOfNoClass(t *testing.T) {
	for _, c := range classes {
		for _, words := range []int{2, 4, 8, 16, 32, 64} {
			p := newPair(t, 3)
			p.alloc(t, c.most)
			p.alloc(t, 64)
			p.scribble(t)
			p.free(t, 64)
			p.alloc(t, words)
			p.m.same(t, p.Space)
			found(t, p.Space, 64, 64, words)
			p.free(t, 64)
			p.m.same(t, p.Space)
		}
	}
}

func TestAllPagesOfALargerOneAreGiven(t *testing.T) {
	for k := 1; k <= 16; k++ {
		p := newPair(t, k+3)
		p.alloc(t, 1)
		p.alloc(t, max(33, 64*k))
		p.alloc(t, 1)
		p.alloc(t, 64)
		p.scribble(t)
		p.free(t, 128)
		p.m.same(t, p.Space)
		for i := range k {
			notFound(t, p.Space, 128+64*i)
			refuseFree(t, p.Space, 128+64*i)
			alloc(t, p.Space, 64, 128+64*i)
		}
		refuseAlloc(t, p.Space, 64, api.ErrFull)
	}
}

func TestTheWordsStay(t *testing.T) {
	for _, words := range []int{1, 4, 7, 16, 30, 33, 64, 65, 1024} {
		p := newPair(t, 20)
		at := p.alloc(t, words)
		p.scribble(t)
		p.free(t, at)
		for i := at; i < at+room(words); i++ {
			if x, e := p.Load(i); x != 1000+i || e != api.OK {
				t.Fatalf("Load(%d): %d, %d", i, x, e)
			}
		}
		p.m.same(t, p.Space)
	}
}

// 6.2 Find

func TestFindAtTheEdges(t *testing.T) {
	s := made(t, 8)
	alloc(t, s, 32, 64)
	alloc(t, s, 3, 128)
	alloc(t, s, 3, 132)
	alloc(t, s, 3, 136)
	alloc(t, s, 129, 192)
	alloc(t, s, 64, 384)
	free(t, s, 132)
	for _, c := range []struct{ at, start, words int }{
		{64, 64, 32}, {65, 64, 32}, {95, 64, 32}, {128, 128, 4}, {131, 128, 4}, {136, 136, 4}, {139, 136, 4},
		{192, 192, 192}, {193, 192, 192}, {255, 192, 192}, {256, 192, 192}, {319, 192, 192}, {320, 192, 192}, {383, 192, 192},
		{384, 384, 64}, {447, 384, 64},
	} {
		found(t, s, c.at, c.start, c.words)
	}
	for _, at := range append([]int{0, 1, 2, 62, 63, 96, 127, 132, 135, 140, 191, 448, 511, 512, 513, 576}, far...) {
		notFound(t, s, at)
	}
}

// Page 0 has no block, whatever stands beside it.
func TestFindAtPageZero(t *testing.T) {
	for _, words := range []int{1, 32, 33, 1024} {
		s := made(t, 17)
		alloc(t, s, words, 64)
		for at := range 64 {
			notFound(t, s, at)
			refuseFree(t, s, at)
		}
	}
}

func TestFindBehindALargerOneThatIsFreed(t *testing.T) {
	p := newPair(t, 10)
	p.alloc(t, 128)
	p.alloc(t, 192)
	p.alloc(t, 128)
	p.free(t, 192)
	p.m.same(t, p.Space)
	p.alloc(t, 64)
	p.m.same(t, p.Space)
	p.alloc(t, 2)
	p.free(t, 64)
	p.m.same(t, p.Space)
}

// 6.2 Used, Cap, Each

func TestUsedCapEach(t *testing.T) {
	s := made(t, 10)
	state(t, s, 0, 9)
	alloc(t, s, 20, 64)
	state(t, s, 32, 8, 64)
	alloc(t, s, 1, 128)
	state(t, s, 34, 7, 64, 128)
	alloc(t, s, 100, 192)
	state(t, s, 162, 5, 64, 128, 192)
	alloc(t, s, 32, 96)
	state(t, s, 194, 5, 64, 96, 128, 192)
	alloc(t, s, 2, 130)
	state(t, s, 196, 5, 64, 96, 128, 130, 192)
	free(t, s, 64)
	state(t, s, 164, 5, 96, 128, 130, 192)
	free(t, s, 192)
	state(t, s, 36, 7, 96, 128, 130)
	free(t, s, 96)
	state(t, s, 4, 8, 128, 130)
	free(t, s, 128)
	state(t, s, 2, 8, 130)
	free(t, s, 130)
	state(t, s, 0, 9)
}

// 6.3

func TestNoTwoBlocksShareAWord(t *testing.T) {
	p := newPair(t, 30)
	for words := 1; p.Left() > 0; words = words*7%131 + 1 {
		p.alloc(t, words)
	}
	starts := p.Each()
	for i, at := range starts {
		_, words, _ := p.Find(at)
		if i+1 < len(starts) && at+words > starts[i+1] {
			t.Errorf("%d has %d words, %d is next", at, words, starts[i+1])
		}
		for w := at; w < at+words; w++ {
			if x, _ := p.Load(w); x != 0 {
				t.Errorf("word %d is of %d too", w, x)
			}
			p.store(t, w, at)
		}
	}
	p.m.same(t, p.Space)
}

// TestALongRow holds spaces against their models through a long row of right
// and wrong calls, from a fixed rule.
func TestALongRow(t *testing.T) {
	seed := uint64(1)
	next := func(below int) int {
		seed = seed*6364136223846793005 + 1442695040888963407
		return int(seed>>33) % below
	}
	for _, n := range []int{2, 3, 5, 9, 24} {
		for _, most := range []int{2, 16, 64, 300} {
			p := newPair(t, n)
			for range 400 {
				switch begins := p.m.each(); next(8) {
				case 0, 1, 2, 3:
					p.alloc(t, next(most)+1)
				case 4:
					p.free(t, next(64*n+20)-10)
				case 5:
					p.store(t, next(64*n), next(9)-4)
				default:
					if len(begins) > 0 {
						p.free(t, begins[next(len(begins))])
					}
				}
				p.m.same(t, p.Space)
			}
		}
	}
}

// The methods of the arena and of the pages

func TestTheArenaIsPromoted(t *testing.T) {
	s := made(t, 3)
	alloc(t, s, 4, 64)
	if e := s.Store(66, 7); e != api.OK {
		t.Fatalf("Store: %d", e)
	}
	if x, e := s.Arena.Load(66); x != 7 || e != api.OK {
		t.Errorf("Load: %d, %d", x, e)
	}
	if e := s.Fill(64, 3); e != api.OK {
		t.Errorf("Fill: %d", e)
	}
	if x, _ := s.Load(66); x != 0 || s.Len() != s.Arena.Len() {
		t.Errorf("Load, Len: %d, %d", x, s.Len())
	}
	if s.Store(192, 1) != api.ErrNone || s.Fill(0, -1) != api.ErrArg {
		t.Error("Store, Fill: no error")
	}
	state(t, s, 4, 1, 64)
}

// A page that is taken from without is taken: no block is in it.
func TestPagesTakenFromWithout(t *testing.T) {
	s := made(t, 5)
	if p, e := s.Take(2); p != 1 || e != api.OK {
		t.Fatalf("Take: %d, %d", p, e)
	}
	state(t, s, 0, 2)
	refuseFree(t, s, 64)
	notFound(t, s, 64)
	alloc(t, s, 1, 192)
	if e := s.Give(1, 2); e != api.OK {
		t.Fatalf("Give: %d", e)
	}
	alloc(t, s, 65, 64)
	alloc(t, s, 1, 194)
	state(t, s, 132, 1, 64, 192, 194)
}

// Of a block whose page was given from without Free says what it says of any.
func TestFreeOfABlockWhosePageWasGiven(t *testing.T) {
	for _, words := range []int{1, 32, 64, 65} {
		s := made(t, 4)
		alloc(t, s, words, 64)
		if e := s.Give(1, 1); e != api.OK {
			t.Fatalf("Give: %d", e)
		}
		free(t, s, 64)
		refuseFree(t, s, 64)
		notFound(t, s, 64)
		if s.Used() != 0 || len(s.Each()) != 0 {
			t.Errorf("Used, Each: %d, %v", s.Used(), s.Each())
		}
	}
}

// Whatever pages are given, taken and set from without, no call panics, and
// none tells of a place that there is not.
func TestAnythingFromWithout(t *testing.T) {
	seed := uint64(7)
	next := func(below int) int {
		seed = seed*6364136223846793005 + 1442695040888963407
		return int(seed>>33) % below
	}
	for n := 1; n <= 8; n++ {
		s := made(t, n)
		for range 3000 {
			switch next(6) {
			case 0:
				s.Give(next(n+2), next(4))
			case 1:
				s.Set(next(2) == 0, next(n))
			case 2:
				s.Take(next(3))
			case 3:
				s.Free(2 * next(32*n))
			default:
				if at, e := s.Alloc(next(200)); at < 0 || at >= s.Len() || e != api.OK && at != 0 {
					t.Fatalf("Alloc: %d, %d", at, e)
				}
			}
			if start, _, ok := s.Find(next(64 * n)); !ok && start != 0 || s.Used() < 0 || !slices.IsSorted(s.Each()) {
				t.Fatalf("Find, Used, Each: %d, %v, %d, %v", start, ok, s.Used(), s.Each())
			}
		}
	}
}

// R3

func TestEachIsNewMemory(t *testing.T) {
	s := made(t, 3)
	alloc(t, s, 2, 64)
	alloc(t, s, 2, 66)
	alloc(t, s, 64, 128)
	a, b := s.Each(), s.Each()
	for i := range a {
		a[i] = -1
	}
	_ = append(a[:1], 5, 6, 7, 8)
	if !slices.Equal(b, []int{64, 66, 128}) {
		t.Errorf("Each told ahead: %v", b)
	}
	_ = append(b, 9)
	state(t, s, 68, 0, 64, 66, 128)
}

// R5

func TestTwoDoNotTouch(t *testing.T) {
	a, b := newPair(t, 6), newPair(t, 6)
	for _, words := range []int{3, 32, 65, 4} {
		a.alloc(t, words)
	}
	a.scribble(t)
	b.m.same(t, b.Space)
	refuseFree(t, b.Space, 64)
	for _, words := range []int{64, 1, 1, 130} {
		b.alloc(t, words)
	}
	a.m.same(t, a.Space)
	b.free(t, 64)
	a.free(t, 68)
	a.m.same(t, a.Space)
	b.m.same(t, b.Space)
}

func TestTheSameCallsTellTheSame(t *testing.T) {
	a, b := made(t, 12), made(t, 12)
	for i := range 60 {
		x, e := a.Alloc(i*37%150 + 1)
		y, f := b.Alloc(i*37%150 + 1)
		if x != y || e != f || a.Free(64*(i%12)) != b.Free(64*(i%12)) {
			t.Fatalf("call %d: %d, %d and %d, %d", i, x, e, y, f)
		}
	}
	state(t, b, a.Used(), a.Left(), a.Each()...)
}

// Of nil, and of a Space that New did not make

func TestMethodsOfNil(t *testing.T) {
	var none *space.Space
	for _, x := range append([]int{0, 1, 32, 33, 64, 1024, 1025}, far...) {
		refuseAlloc(t, none, x, api.ErrNone)
		refuseFree(t, none, x)
		notFound(t, none, x)
	}
	if none.Used() != 0 || none.Cap() != 0 || len(none.Each()) != 0 {
		t.Errorf("Used, Cap, Each: %d, %d, %v", none.Used(), none.Cap(), none.Each())
	}
}

func TestASpaceOfNothing(t *testing.T) {
	var s space.Space
	for _, x := range append([]int{0, 1, 32, 33, 64, 1024, 1025}, far...) {
		if at, e := s.Alloc(x); at != 0 || e == api.OK {
			t.Errorf("Alloc(%d): %d, %d", x, at, e)
		}
		refuseFree(t, &s, x)
		notFound(t, &s, x)
	}
	if s.Used() != 0 || s.Cap() != 0 || len(s.Each()) != 0 {
		t.Errorf("Used, Cap, Each: %d, %d, %v", s.Used(), s.Cap(), s.Each())
	}
}

// Ways

func TestSpaceEmbedsBoth(t *testing.T) {
	of := reflect.TypeFor[space.Space]()
	for name, want := range map[string]reflect.Type{"Arena": reflect.TypeFor[*arena.Arena](), "Pages": reflect.TypeFor[*pages.Pages]()} {
		f, ok := of.FieldByName(name)
		if !ok || !f.Anonymous || f.Type != want {
			t.Errorf("%s is %v", name, f)
		}
	}
	s := made(t, 4)
	alloc(t, s, 65, 64)
	if s.Pages.Left() != 1 || !s.Pages.Has(2) || s.Pages.Has(3) || s.Arena.Len() != 256 {
		t.Error("the pages of its blocks are not those that are taken")
	}
}
