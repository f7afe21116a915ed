package stack_test

import (
	"math"
	"reflect"
	"slices"
	"testing"

	"gloaming/api"
	"gloaming/stack"
)

const most = 4096

// noRooms are numbers of which there is no stack.
var noRooms = []int{
	0, -1, -2, -3, -64, -4095, -4096, -4097, 4097, 4098, 5000, 8191, 8192, 1 << 16, 1<<16 + 1,
	1 << 31, 1<<31 + 1, -1 << 31, -1<<31 + 1, 1 << 32, 1<<32 + 1, 1<<32 + 4096, -1 << 32, -1<<32 + 1, -1<<32 + 4096,
	1 << 62, 1<<62 + 1, math.MaxInt - 1, math.MaxInt, math.MinInt, math.MinInt + 1, math.MinInt + 4096,
}

// values are numbers that may be pushed: all are alike.
var values = []int{
	0, -1, 1, math.MaxInt, math.MinInt, math.MaxInt - 1, math.MinInt + 1, 2, -2, 4096, 4097, -4096,
	1 << 31, -1 << 31, 1<<31 - 1, 1 << 32, 1<<32 + 1, -1 << 32, -1<<32 - 1, 1 << 53, 1<<53 + 1, 1 << 62, -1 << 62,
}

// model is the document's words, one number after the other.
type model struct {
	room int
	row  []int
	over bool
}

func (m *model) push(x ...int) int {
	n := 0
	for _, one := range x {
		if len(m.row) == m.room {
			m.over = true
			continue
		}
		m.row = append(m.row, one)
		n++
	}
	return n
}

func (m *model) pop() (int, bool) {
	n := len(m.row)
	if n == 0 {
		return 0, false
	}
	x := m.row[n-1]
	m.row = m.row[:n-1]
	return x, true
}

// pair is a stack beside its model, through the same calls.
type pair struct {
	*stack.Stack
	m *model
}

// of answers a stack with so much room, in which these were pushed one by one.
func of(t *testing.T, room int, x ...int) pair {
	t.Helper()
	s, e := stack.New(room)
	if s == nil || e != api.OK {
		t.Fatalf("New(%d): %v, %d", room, s, e)
	}
	p := pair{s, &model{room: room}}
	p.same(t)
	for _, one := range x {
		p.push(t, one)
	}
	return p
}

// full answers a full one, that is not over: 1 to room from below.
func full(t *testing.T, room int) pair {
	t.Helper()
	return of(t, room, rising(1, room)...)
}

// rising answers n numbers from a first one on.
func rising(first, n int) []int {
	l := make([]int, n)
	for i := range l {
		l[i] = first + i
	}
	return l
}

// push pushes on both, and looks whether the list stays as it was.
func (p pair) push(t *testing.T, x ...int) int {
	t.Helper()
	was := slices.Clone(x)
	want := p.m.push(was...)
	n := p.Push(x...)
	if n != want {
		t.Fatalf("Push of %d: %d, want %d", len(x), n, want)
	}
	if !slices.Equal(x, was) {
		t.Fatalf("Push: the list is %v, was %v", x, was)
	}
	p.same(t)
	return n
}

func (p pair) pop(t *testing.T) (int, bool) {
	t.Helper()
	want, is := p.m.pop()
	x, ok := p.Pop()
	if x != want || ok != is {
		t.Fatalf("Pop: %d, %t, want %d, %t", x, ok, want, is)
	}
	p.same(t)
	return x, ok
}

func (p pair) reset(t *testing.T) {
	t.Helper()
	p.m.over = false
	p.Reset()
	p.same(t)
}

// same looks at all that a stack tells without a change.
func (p pair) same(t *testing.T) {
	t.Helper()
	if n := p.Depth(); n != len(p.m.row) {
		t.Fatalf("Depth: %d, want %d", n, len(p.m.row))
	}
	if is := p.Over(); is != p.m.over {
		t.Fatalf("Over: %t, want %t", is, p.m.over)
	}
}

// end pops all that is there, and once more.
func (p pair) end(t *testing.T) {
	t.Helper()
	for len(p.m.row) > 0 {
		p.pop(t)
	}
	noPop(t, p.Stack)
	p.same(t)
}

func noPop(t *testing.T, s *stack.Stack) {
	t.Helper()
	if x, ok := s.Pop(); x != 0 || ok {
		t.Fatalf("Pop of none: %d, %t", x, ok)
	}
}

// is looks at a stack by what is written out.
func is(t *testing.T, s *stack.Stack, depth int, over bool) {
	t.Helper()
	if n := s.Depth(); n != depth {
		t.Fatalf("Depth: %d, want %d", n, depth)
	}
	if b := s.Over(); b != over {
		t.Fatalf("Over: %t, want %t", b, over)
	}
}

// went looks at how many of a list went.
func went(t *testing.T, s *stack.Stack, want int, x ...int) {
	t.Helper()
	if n := s.Push(x...); n != want {
		t.Fatalf("Push of %d: %d, want %d", len(x), n, want)
	}
}

// pops looks at what is popped, the first one first.
func pops(t *testing.T, s *stack.Stack, want ...int) {
	t.Helper()
	for _, y := range want {
		if x, ok := s.Pop(); x != y || !ok {
			t.Fatalf("Pop: %d, %t, want %d", x, ok, y)
		}
	}
}

// 16.1 New

func TestNewOfEachRoom(t *testing.T) {
	for n := 1; n <= most; n++ {
		s, e := stack.New(n)
		if s == nil || e != api.OK {
			t.Fatalf("New(%d): %v, %d", n, s, e)
		}
		is(t, s, 0, false)
		noPop(t, s)
		went(t, s, n, make([]int, n)...)
		is(t, s, n, false)
		went(t, s, 0, 1)
		is(t, s, n, true)
	}
}

func TestNewOfNoRoom(t *testing.T) {
	for _, n := range noRooms {
		if s, e := stack.New(n); s != nil || e != api.ErrArg {
			t.Errorf("New(%d): %v, %d", n, s, e)
		}
	}
}

func TestTheNumberOfTheError(t *testing.T) {
	if _, e := stack.New(0); e != 1 {
		t.Errorf("New(0): %d", e)
	}
	if _, e := stack.New(1); e != 0 {
		t.Errorf("New(1): %d", e)
	}
}

func TestNewIsEmpty(t *testing.T) {
	for _, n := range []int{1, 2, 64, most - 1, most} {
		p := of(t, n)
		p.end(t)
		p.reset(t)
		p.end(t)
		is(t, p.Stack, 0, false)
	}
}

// 16.1 Push

func TestPushOfNothing(t *testing.T) {
	for _, n := range []int{1, 2, 5, most} {
		p := of(t, n)
		for _, none := range [][]int{nil, {}, make([]int, 0, 8)} {
			went(t, p.Stack, 0, none...)
			is(t, p.Stack, 0, false)
		}
		if n := p.push(t); n != 0 {
			t.Fatalf("Push: %d", n)
		}
		noPop(t, p.Stack)
	}
}

// Nothing has room on a full stack, too: none of it was left out.
func TestPushOfNothingOntoAFullStack(t *testing.T) {
	for _, n := range []int{1, 2, 5, most} {
		p := full(t, n)
		for range 3 {
			went(t, p.Stack, 0)
			went(t, p.Stack, 0, []int{}...)
			is(t, p.Stack, n, false)
		}
		p.end(t)
	}
}

// Nor does it tell that one that is over is not.
func TestPushOfNothingOntoOneThatIsOver(t *testing.T) {
	p := full(t, 3)
	p.push(t, 9)
	went(t, p.Stack, 0)
	is(t, p.Stack, 3, true)
	p.pop(t)
	went(t, p.Stack, 0)
	is(t, p.Stack, 2, true)
}

func TestPushOfOne(t *testing.T) {
	for _, n := range []int{1, 2, 5, 64} {
		s := of(t, n).Stack
		for i := range n {
			went(t, s, 1, 10+i)
			is(t, s, i+1, false)
		}
		for range 3 {
			went(t, s, 0, 99)
			is(t, s, n, true)
		}
		for i := range n {
			pops(t, s, 10+n-1-i)
			is(t, s, n-1-i, true)
		}
		noPop(t, s)
	}
}

// Onto a stack of each small room, of each depth: each number at once.
func TestPushOfManyAtOnce(t *testing.T) {
	for room := 1; room <= 9; room++ {
		for depth := 0; depth <= room; depth++ {
			for n := 0; n <= 2*room+3; n++ {
				s := of(t, room, rising(1, depth)...).Stack
				fit := min(n, room-depth)
				went(t, s, fit, rising(100, n)...)
				is(t, s, depth+fit, n > fit)
				for i := range fit {
					pops(t, s, 100+fit-1-i)
				}
				for i := range depth {
					pops(t, s, depth-i)
				}
				noPop(t, s)
				is(t, s, 0, n > fit)
			}
		}
	}
}

// As many as there is room for, one fewer, one more: at the edges of the most.
func TestPushAtTheMost(t *testing.T) {
	for _, room := range []int{most - 1, most} {
		for _, depth := range []int{0, 1, 2, room / 2, room - 2, room - 1, room} {
			for _, more := range []int{-1, 0, 1, 2, room} {
				n := room - depth + more
				if n < 0 {
					continue
				}
				p := of(t, room)
				p.push(t, rising(1, depth)...)
				p.push(t, rising(-n, n)...)
				is(t, p.Stack, min(depth+n, room), more > 0)
				p.end(t)
			}
		}
	}
}

func TestPushOfFarMore(t *testing.T) {
	for _, room := range []int{1, 2, 100, most} {
		for _, n := range []int{most + 1, 1 << 16, 1<<20 + 7} {
			p := of(t, room)
			if k := p.push(t, rising(5, n)...); k != room {
				t.Fatalf("Push of %d: %d", n, k)
			}
			is(t, p.Stack, room, true)
			if k := p.push(t, rising(5, n)...); k != 0 {
				t.Fatalf("Push of %d once more: %d", n, k)
			}
			pops(t, p.Stack, 5+room-1)
			went(t, p.Stack, 1, rising(7, n)...)
			pops(t, p.Stack, 7)
		}
	}
}

// Those that went are the first of the list, those that were left out are gone.
func TestWhatWasLeftOutIsGone(t *testing.T) {
	s := of(t, 3).Stack
	went(t, s, 3, 1, 2, 3, 4, 5)
	pops(t, s, 3, 2)
	is(t, s, 1, true)
	pops(t, s, 1)
	noPop(t, s)
	went(t, s, 2, 6, 7)
	is(t, s, 2, true)
	pops(t, s, 7, 6)
	noPop(t, s)
}

// None that was left out goes later on, whatever room there is by then.
func TestRoomThatComesLater(t *testing.T) {
	s := of(t, 2).Stack
	went(t, s, 2, 1, 2)
	went(t, s, 0, 3)
	pops(t, s, 2)
	is(t, s, 1, true)
	went(t, s, 1, 4)
	pops(t, s, 4, 1)
	noPop(t, s)
}

func TestPushOntoOneThatIsOver(t *testing.T) {
	s := of(t, 4).Stack
	went(t, s, 4, 1, 2, 3, 4, 5)
	is(t, s, 4, true)
	pops(t, s, 4, 3, 2)
	went(t, s, 2, 8, 9)
	is(t, s, 3, true)
	went(t, s, 1, 10, 11)
	is(t, s, 4, true)
	pops(t, s, 10, 9, 8, 1)
	is(t, s, 0, true)
}

// A full stack has room for each that was popped, and for no more.
func TestPushBehindPopOfAFullStack(t *testing.T) {
	for _, room := range []int{1, 2, 3, 7, 33} {
		for k := 0; k <= room; k++ {
			p := full(t, room)
			for range k {
				p.pop(t)
			}
			went(t, p.Stack, k, rising(50, k)...)
			is(t, p.Stack, room, false)
			went(t, p.Stack, 0, 1)
			is(t, p.Stack, room, true)
			for i := range k {
				pops(t, p.Stack, 50+k-1-i)
			}
			for i := range room - k {
				pops(t, p.Stack, room-k-i)
			}
			noPop(t, p.Stack)
		}
	}
}

// The same number is pushed as often as it is given.
func TestPushOfOneNumberOften(t *testing.T) {
	s := of(t, 5).Stack
	went(t, s, 3, 7, 7, 7)
	went(t, s, 1, 7)
	is(t, s, 4, false)
	pops(t, s, 7, 7, 7, 7)
	noPop(t, s)
}

func TestEachValueIsPushed(t *testing.T) {
	for _, x := range values {
		s := of(t, 2).Stack
		went(t, s, 1, x)
		is(t, s, 1, false)
		pops(t, s, x)
		noPop(t, s)
		went(t, s, 2, x, x, x)
		is(t, s, 2, true)
		pops(t, s, x, x)
		noPop(t, s)
	}
	p := of(t, len(values))
	p.push(t, values...)
	is(t, p.Stack, len(values), false)
	for i := range values {
		pops(t, p.Stack, values[len(values)-1-i])
	}
	noPop(t, p.Stack)
}

// A 0 that was pushed is told beside true, unlike that of none.
func TestPopOfANullThatWasPushed(t *testing.T) {
	s := of(t, 3).Stack
	went(t, s, 1, 0)
	if x, ok := s.Pop(); x != 0 || !ok {
		t.Errorf("Pop: %d, %t", x, ok)
	}
	noPop(t, s)
}

// 16.1 Pop

func TestPopOfNone(t *testing.T) {
	for _, n := range []int{1, 2, most} {
		p := of(t, n)
		for range 5 {
			noPop(t, p.Stack)
			is(t, p.Stack, 0, false)
		}
		p.push(t, 3)
		pops(t, p.Stack, 3)
		for range 5 {
			noPop(t, p.Stack)
			is(t, p.Stack, 0, false)
		}
		went(t, p.Stack, 1, 4)
		is(t, p.Stack, 1, false)
		pops(t, p.Stack, 4)
	}
}

// Pop of none takes no room, and makes none.
func TestPopOfNoneLeavesTheRoom(t *testing.T) {
	s := of(t, 2).Stack
	for range 4 {
		noPop(t, s)
	}
	went(t, s, 2, 1, 2, 3)
	is(t, s, 2, true)
	pops(t, s, 2, 1)
	for range 4 {
		noPop(t, s)
	}
	is(t, s, 0, true)
	went(t, s, 2, 4, 5, 6)
	pops(t, s, 5, 4)
	noPop(t, s)
}

func TestPopOfOne(t *testing.T) {
	s := of(t, 3, 5, 6, 7).Stack
	pops(t, s, 7)
	is(t, s, 2, false)
	pops(t, s, 6)
	is(t, s, 1, false)
	pops(t, s, 5)
	is(t, s, 0, false)
}

func TestPopOfAll(t *testing.T) {
	for _, n := range []int{1, 2, 3, 4, 5, 8, 9, 63, 64, 65, 1000, most - 1, most} {
		s := of(t, n).Stack
		for range 2 {
			went(t, s, n, rising(1, n)...)
			for i := range n {
				pops(t, s, n-i)
				is(t, s, n-1-i, false)
			}
			noPop(t, s)
			is(t, s, 0, false)
		}
	}
}

// 16.2

func TestOverAheadOfPush(t *testing.T) {
	for _, n := range []int{1, 2, most} {
		p := of(t, n)
		is(t, p.Stack, 0, false)
		p.reset(t)
		is(t, p.Stack, 0, false)
	}
}

func TestOverBehindAPushThatWent(t *testing.T) {
	s := of(t, 3).Stack
	went(t, s, 1, 1)
	is(t, s, 1, false)
	went(t, s, 2, 2, 3)
	is(t, s, 3, false)
}

func TestOverBehindAPushThatDidNot(t *testing.T) {
	s := full(t, 3).Stack
	went(t, s, 0, 9)
	is(t, s, 3, true)
	went(t, s, 0, 9, 9, 9)
	is(t, s, 3, true)
}

// A stack is over where some of the list went, too.
func TestOverBehindAPushThatWentInPart(t *testing.T) {
	for _, left := range []int{1, 2, 3} {
		s := of(t, 4, rising(1, 4-left)...).Stack
		went(t, s, left, rising(7, left+1)...)
		is(t, s, 4, true)
	}
}

// Room that there is later on does not tell that none was left out.
func TestOverBehindPopOfAll(t *testing.T) {
	for _, n := range []int{1, 2, 5, most} {
		s := of(t, n).Stack
		went(t, s, n, rising(0, n+1)...)
		for i := range n {
			pops(t, s, n-1-i)
			is(t, s, n-1-i, true)
		}
		noPop(t, s)
		is(t, s, 0, true)
	}
}

func TestOverBehindAPushThatWentAgain(t *testing.T) {
	s := full(t, 2).Stack
	went(t, s, 0, 3)
	pops(t, s, 2)
	went(t, s, 1, 4)
	is(t, s, 2, true)
	pops(t, s, 4, 1)
	noPop(t, s)
	went(t, s, 1, 5)
	is(t, s, 1, true)
	went(t, s, 0)
	is(t, s, 1, true)
	s.Reset()
	is(t, s, 1, false)
}

func TestResetOfOneThatIsOver(t *testing.T) {
	p := full(t, 3)
	p.push(t, 4)
	is(t, p.Stack, 3, true)
	p.reset(t)
	is(t, p.Stack, 3, false)
	p.reset(t)
	is(t, p.Stack, 3, false)
	p.push(t, 5)
	is(t, p.Stack, 3, true)
	p.reset(t)
	pops(t, p.Stack, 3, 2, 1)
	noPop(t, p.Stack)
	is(t, p.Stack, 0, false)
}

func TestResetOfOneThatIsNot(t *testing.T) {
	p := of(t, 4, 1, 2)
	p.reset(t)
	is(t, p.Stack, 2, false)
	went(t, p.Stack, 2, 3, 4)
	is(t, p.Stack, 4, false)
	pops(t, p.Stack, 4, 3, 2, 1)
	noPop(t, p.Stack)
}

// It makes no room: a full stack stays full.
func TestResetOfAFullStack(t *testing.T) {
	for _, n := range []int{1, 2, 5, most} {
		p := full(t, n)
		p.reset(t)
		is(t, p.Stack, n, false)
		went(t, p.Stack, 0)
		is(t, p.Stack, n, false)
		went(t, p.Stack, 0, 9)
		is(t, p.Stack, n, true)
		p.Reset()
		is(t, p.Stack, n, false)
		for i := range n {
			pops(t, p.Stack, n-i)
		}
		noPop(t, p.Stack)
	}
}

func TestResetOfAnEmptyStack(t *testing.T) {
	p := of(t, 2)
	for range 2 {
		p.reset(t)
		is(t, p.Stack, 0, false)
	}
	p.push(t, 1, 2, 3)
	p.end(t)
	is(t, p.Stack, 0, true)
	p.reset(t)
	is(t, p.Stack, 0, false)
	noPop(t, p.Stack)
	went(t, p.Stack, 2, 7, 8, 9)
	is(t, p.Stack, 2, true)
	pops(t, p.Stack, 8, 7)
}

// What is there stays, whatever the stack was, of each depth.
func TestWhatIsThereStaysBehindReset(t *testing.T) {
	for room := 1; room <= 6; room++ {
		for depth := 0; depth <= room; depth++ {
			for _, over := range []bool{false, true} {
				p := full(t, room)
				if over {
					p.push(t, 99)
				}
				for range room - depth {
					p.pop(t)
				}
				is(t, p.Stack, depth, over)
				p.reset(t)
				is(t, p.Stack, depth, false)
				p.push(t, rising(70, room-depth)...)
				is(t, p.Stack, room, false)
				p.push(t, 1)
				is(t, p.Stack, room, true)
				p.end(t)
			}
		}
	}
}

// What is asked changes nothing.
func TestWhatIsAskedDoesNotChange(t *testing.T) {
	p := of(t, 3)
	for _, x := range [][]int{{1}, {2, 3}, {4}, {}} {
		p.push(t, x...)
		for range 4 {
			p.same(t)
		}
	}
	pops(t, p.Stack, 3, 2, 1)
	noPop(t, p.Stack)
}

// 16.3

// A row of numbers, cut into calls of Push in each way, is popped from its end.
func TestTheLastOneIsPoppedFirst(t *testing.T) {
	const n = 9
	row := rising(1, n)
	for cuts := range 1 << (n - 1) {
		s := of(t, n).Stack
		from := 0
		for i := range n {
			if i == n-1 || cuts>>i&1 == 1 {
				went(t, s, i+1-from, row[from:i+1]...)
				from = i + 1
			}
		}
		is(t, s, n, false)
		for i := range n {
			pops(t, s, n-i)
		}
		noPop(t, s)
	}
}

// Each is popped ahead of all that were there when it was pushed: what is popped
// between goes by the last of those that are left.
func TestTheLastOneThatIsLeft(t *testing.T) {
	s := of(t, 4).Stack
	went(t, s, 2, 1, 2)
	pops(t, s, 2)
	went(t, s, 2, 3, 4)
	pops(t, s, 4)
	went(t, s, 1, 5)
	pops(t, s, 5, 3, 1)
	noPop(t, s)
}

// step is one of the calls by which rows are made: Reset, Pop, or Push of so many.
func (p pair) step(t *testing.T, call, next int) {
	t.Helper()
	switch call {
	case 0:
		p.reset(t)
	case 1:
		p.pop(t)
	default:
		p.push(t, rising(next, call-2)...)
	}
}

// All rows of calls over stacks of each small room: Push of none to of two more
// than there is room for, Pop, Reset.
func TestAllRowsOfCalls(t *testing.T) {
	for _, size := range []struct{ room, length int }{{1, 6}, {2, 6}, {3, 5}, {4, 5}} {
		calls := size.room + 5
		rows := 1
		for range size.length {
			rows *= calls
		}
		for row := range rows {
			p := of(t, size.room)
			for i, left := 0, row; i < size.length; i, left = i+1, left/calls {
				p.step(t, left%calls, 100*(i+1))
			}
			p.end(t)
		}
	}
}

// numbersBelow answers numbers from a fixed rule, each from 0 to below what is
// asked.
func numbersBelow() func(below int) int {
	seed := uint64(1)
	return func(below int) int {
		seed = seed*6364136223846793005 + 1442695040888963407
		return int(seed>>33) % below
	}
}

// rooms are those of the long rows.
var rooms = []int{1, 2, 3, 4, 5, 7, 8, 16, 31, 64, 100, 1000, most}

func TestALongRow(t *testing.T) {
	below := numbersBelow()
	for _, room := range rooms {
		p := of(t, room)
		for range 4000 {
			switch below(8) {
			case 0:
				p.reset(t)
			case 1, 2, 3:
				p.pop(t)
			case 4:
				for range below(room) {
					p.pop(t)
				}
			case 5:
				p.push(t, values[below(len(values))])
			default:
				x := make([]int, below(min(room, 60)+3))
				for i := range x {
					x[i] = values[below(len(values))] ^ below(1<<20)
				}
				p.push(t, x...)
			}
			if p.Depth() > room || p.Depth() < 0 {
				t.Fatalf("Depth: %d of %d", p.Depth(), room)
			}
		}
		p.end(t)
	}
}

// Far more are pushed by turns than there is room for: what was popped is room.
func TestTheRoomDoesNotWearOut(t *testing.T) {
	for _, room := range []int{1, 2, 5, most} {
		s := of(t, room).Stack
		for i := range 3 * most {
			went(t, s, 1, i)
			pops(t, s, i)
		}
		is(t, s, 0, false)
		noPop(t, s)
		went(t, s, room, rising(0, room)...)
		is(t, s, room, false)
	}
}

// R3

// spare answers a list with room behind it, and all of that room.
func spare(x ...int) ([]int, []int) {
	all := append(slices.Clone(x), -7, -7, -7, -7)
	return all[:len(x)], all
}

func TestAListIsNotKept(t *testing.T) {
	for _, n := range []int{1, 2, 3, 64, most} {
		for _, room := range []int{n, n + 1, 2 * n, most} {
			if room > most {
				continue
			}
			s := of(t, room).Stack
			x := rising(1, n)
			went(t, s, n, x...)
			for i := range x {
				x[i] = -1
			}
			for i := range n {
				pops(t, s, n-i)
			}
		}
	}
}

// Nothing is written into a list, nor into the room behind it, neither by the
// call that it is given to nor by those that follow.
func TestAListStays(t *testing.T) {
	for _, depth := range []int{0, 1, 2} {
		for _, room := range []int{depth + 1, depth + 2, depth + 3, depth + 4, depth + 9} {
			x, all := spare(1, 2, 3)
			s := of(t, room, rising(40, depth)...).Stack
			was := slices.Clone(all)
			s.Push(x...)
			s.Push(50)
			s.Pop()
			s.Pop()
			s.Push(60, 61, 62, 63, 64, 65)
			s.Reset()
			for s.Depth() > 0 {
				s.Pop()
			}
			s.Push(70, 71, 72, 73, 74)
			if !slices.Equal(all, was) {
				t.Fatalf("the list is %v, was %v", all, was)
			}
		}
	}
}

// Whoever appends to a list that was given changes nothing that is kept.
func TestAListIsAppendedTo(t *testing.T) {
	x, _ := spare(1, 2)
	s := of(t, 6).Stack
	went(t, s, 2, x...)
	went(t, s, 1, 3)
	x = append(x, -1, -1)
	x[0] = -1
	pops(t, s, 3, 2, 1)
	noPop(t, s)
}

func TestAListThatIsGivenTwice(t *testing.T) {
	s := of(t, 7).Stack
	x := rising(1, 3)
	went(t, s, 3, x...)
	x[2] = 9
	went(t, s, 3, x...)
	went(t, s, 1, x...)
	is(t, s, 7, true)
	pops(t, s, 1, 9, 2, 1, 3, 2, 1)
	noPop(t, s)
	if !slices.Equal(x, []int{1, 2, 9}) {
		t.Errorf("the list is %v", x)
	}
}

// One list is given to two: neither keeps it.
func TestAListThatIsGivenToTwo(t *testing.T) {
	a, b := of(t, 5).Stack, of(t, 2).Stack
	x, _ := spare(1, 2, 3)
	went(t, a, 3, x...)
	went(t, b, 2, x...)
	went(t, a, 1, 4)
	pops(t, b, 2)
	went(t, b, 1, 8)
	is(t, a, 4, false)
	is(t, b, 2, true)
	pops(t, a, 4, 3, 2, 1)
	pops(t, b, 8, 1)
	noPop(t, a)
	noPop(t, b)
}

// R4: what is told beside an error, and beside a false, is nothing, whatever was
// there ahead of it.
func TestAnswersBesideAnErrorAndAFalse(t *testing.T) {
	for _, x := range values {
		p := of(t, 2)
		for range 2 {
			p.push(t, x, x, x)
			p.end(t)
			if y, ok := p.Pop(); y != 0 || ok {
				t.Fatalf("Pop behind %d: %d, %t", x, y, ok)
			}
			p.reset(t)
		}
	}
	for _, n := range noRooms {
		if s, _ := stack.New(n); s != nil {
			t.Errorf("New(%d): %v", n, s)
		}
	}
}

// R5

func TestTwoDoNotTouch(t *testing.T) {
	below := numbersBelow()
	for _, sizes := range [][2]int{{1, 1}, {1, 4}, {3, 3}, {9, 2}, {64, most}} {
		p := [2]pair{of(t, sizes[0]), of(t, sizes[1])}
		for i := range 2000 {
			p[below(2)].step(t, below(7), 10*i)
			p[0].same(t)
			p[1].same(t)
		}
		p[0].end(t)
		p[1].end(t)
	}
}

func TestOneThatIsOverDoesNotTellOfTheOther(t *testing.T) {
	a, b := full(t, 2), full(t, 2)
	a.push(t, 1)
	is(t, b.Stack, 2, false)
	b.push(t, 1)
	b.reset(t)
	is(t, a.Stack, 2, true)
	a.pop(t)
	is(t, b.Stack, 2, false)
	b.end(t)
	is(t, a.Stack, 1, true)
	a.end(t)
}

func TestTheSameCallsTellTheSame(t *testing.T) {
	run := func(room int) []any {
		below := numbersBelow()
		s := of(t, room).Stack
		var told []any
		for i := range 600 {
			switch below(5) {
			case 0:
				s.Reset()
			case 1, 2:
				x, ok := s.Pop()
				told = append(told, x, ok)
			default:
				told = append(told, s.Push(rising(i, below(6))...))
			}
			told = append(told, s.Over(), s.Depth())
		}
		return told
	}
	for _, room := range rooms {
		if a, b := run(room), run(room); !reflect.DeepEqual(a, b) {
			t.Errorf("room for %d: not the same", room)
		}
	}
}

// How a stack came to be as it is does not tell: only what is there counts.
func TestTwoWaysToTheSame(t *testing.T) {
	a, b := of(t, 4), of(t, 4)
	a.push(t, 1, 2, 3)
	b.push(t, 1, 9, 9, 9, 9)
	for range 3 {
		b.pop(t)
	}
	b.push(t, 2, 3)
	b.reset(t)
	for _, p := range []pair{a, b} {
		is(t, p.Stack, 3, false)
		went(t, p.Stack, 1, 4, 5)
		is(t, p.Stack, 4, true)
		pops(t, p.Stack, 4, 3, 2, 1)
		noPop(t, p.Stack)
	}
}

func TestMethodsOfNil(t *testing.T) {
	var none *stack.Stack
	for range 2 {
		is(t, none, 0, false)
		noPop(t, none)
		went(t, none, 0)
		went(t, none, 0, 1)
		went(t, none, 0, values...)
		is(t, none, 0, false)
		none.Reset()
	}
	x, all := spare(1, 2, 3)
	went(t, none, 0, x...)
	if !slices.Equal(all, []int{1, 2, 3, -7, -7, -7, -7}) {
		t.Errorf("the list is %v", all)
	}
	refused, _ := stack.New(0)
	went(t, refused, 0, 1)
	is(t, refused, 0, false)
}

// One that New did not make has no room for anything.
func TestAStackThatWasNotMade(t *testing.T) {
	s := &stack.Stack{}
	noPop(t, s)
	is(t, s, 0, false)
	went(t, s, 0)
	is(t, s, 0, false)
	went(t, s, 0, values...)
	is(t, s, 0, true)
	noPop(t, s)
	s.Reset()
	is(t, s, 0, false)
}

// Ways

func TestPushIsVariadic(t *testing.T) {
	m, ok := reflect.TypeFor[*stack.Stack]().MethodByName("Push")
	if !ok || !m.Type.IsVariadic() || m.Type.NumIn() != 2 || m.Type.NumOut() != 1 {
		t.Errorf("Push is %v", m.Type)
	}
}

// What is kept is the stack's own, and it has the calls of the document alone.
func TestAStackShowsItsCallsAlone(t *testing.T) {
	of := reflect.TypeFor[stack.Stack]()
	for i := range of.NumField() {
		if f := of.Field(i); f.IsExported() || f.Anonymous {
			t.Errorf("%s", f.Name)
		}
	}
	if n := reflect.TypeFor[*stack.Stack]().NumMethod(); n != 5 {
		t.Errorf("%d methods", n)
	}
}

// The document's example.
func TestExample(t *testing.T) {
	s, e := stack.New(1)
	if e != api.OK {
		t.Fatalf("New: %d", e)
	}
	went(t, s, 1, 7, 8)
	is(t, s, 1, true)
	pops(t, s, 7)
	noPop(t, s)
}
