package handle_test

import (
	"math"
	"reflect"
	"slices"
	"testing"

	"gloaming/api"
	"gloaming/handle"
)

// The document's number of slots, written out.
const maxHandles = 512

// far are numbers that no slot of any turn in these tests has.
var far = []int{0, 1, 2, 255, 511, -1, -2, -511, -512, -513, -1024, -1025, 1 << 31, 1<<31 + 512, -1 << 31, 1 << 32, 1<<32 + 512, 1<<32 + 513, -1<<32 + 512, 1 << 62, 1<<62 + 512, math.MaxInt - 511, math.MaxInt - 1, math.MaxInt, math.MinInt, math.MinInt + 1, math.MinInt + 512, math.MinInt + 1024}

// addresses are what a slot may hold.
var addresses = []int{1, 2, 63, 64, 65, 512, 513, 1 << 31, 1 << 32, 1 << 62, math.MaxInt - 1, math.MaxInt}

// noAddresses are what it may not.
var noAddresses = []int{0, -1, -2, -64, -512, -1 << 31, -1 << 32, -1 << 62, math.MinInt + 1, math.MinInt}

// model is the document's words: of each slot its turn, and what it holds, if
// it holds.
type model struct {
	turns [maxHandles]int
	held  map[int]int // slot to address
	gone  []int       // what was dropped, ever
}

func newModel() *model {
	m := &model{held: map[int]int{}}
	for i := range m.turns {
		m.turns[i] = 1
	}
	return m
}

func (m *model) hold(at int) (int, api.Errno) {
	if at < 1 {
		return 0, api.ErrArg
	}
	for i, turn := range m.turns {
		if _, ok := m.held[i]; !ok {
			m.held[i] = at
			return i + maxHandles*turn, api.OK
		}
	}
	return 0, api.ErrFull
}

// slot looks for x among all that slots that hold were told as.
func (m *model) slot(x int) (int, bool) {
	for i := range m.held {
		if i+maxHandles*m.turns[i] == x {
			return i, true
		}
	}
	return 0, false
}

func (m *model) drop(x int) api.Errno {
	i, ok := m.slot(x)
	if !ok {
		return api.ErrStale
	}
	delete(m.held, i)
	m.turns[i]++
	m.gone = append(m.gone, x)
	return api.OK
}

func (m *model) all() []api.Held {
	var all []api.Held
	for i, turn := range m.turns {
		if at, ok := m.held[i]; ok {
			all = append(all, api.Held{Handle: i + maxHandles*turn, At: at})
		}
	}
	return all
}

// same looks at all that there is to see, but for handles that were dropped.
func (m *model) same(t *testing.T, h *handle.Handles) {
	t.Helper()
	want := m.all()
	hasAll(t, h, want...)
	if n := h.Room(); n != maxHandles-len(want) {
		t.Fatalf("Room: %d, want %d", n, maxHandles-len(want))
	}
	for _, x := range want {
		held(t, h, x.Handle, x.At)
	}
}

// pair is Handles beside their model: each call is made of both.
type pair struct {
	*handle.Handles
	m *model
}

func newPair() pair { return pair{handle.New(), newModel()} }

func (p pair) hold(t *testing.T, at int) int {
	t.Helper()
	want, wantE := p.m.hold(at)
	x, e := p.Hold(at)
	if x != want || e != wantE {
		t.Fatalf("Hold(%d): %d, %d, want %d, %d", at, x, e, want, wantE)
	}
	return x
}

func (p pair) drop(t *testing.T, x int) {
	t.Helper()
	want := p.m.drop(x)
	if e := p.Drop(x); e != want {
		t.Fatalf("Drop(%d): %d, want %d", x, e, want)
	}
}

func (p pair) same(t *testing.T) {
	t.Helper()
	p.m.same(t, p.Handles)
}

// full answers Handles all whose slots hold, slot i 1000 and i.
func full(t *testing.T) pair {
	t.Helper()
	p := newPair()
	for i := range maxHandles {
		p.hold(t, 1000+i)
	}
	p.same(t)
	return p
}

// mixed answers Handles of which some slots hold, in turns of many kinds.
func mixed(t *testing.T) pair {
	t.Helper()
	p := full(t)
	for round := range 5 {
		for i := round; i < maxHandles; i += round + 1 {
			p.drop(t, i+maxHandles*p.m.turns[i])
		}
		for n := range 300 - 60*round {
			p.hold(t, 10*round+n+1)
		}
	}
	p.same(t)
	return p
}

func holds(t *testing.T, h *handle.Handles, at, want int) {
	t.Helper()
	if x, e := h.Hold(at); x != want || e != api.OK {
		t.Fatalf("Hold(%d): %d, %d, want %d", at, x, e, want)
	}
}

func refuseHold(t *testing.T, h *handle.Handles, at int, want api.Errno) {
	t.Helper()
	if x, e := h.Hold(at); x != 0 || e != want {
		t.Fatalf("Hold(%d): %d, %d, want 0, %d", at, x, e, want)
	}
}

func held(t *testing.T, h *handle.Handles, x, want int) {
	t.Helper()
	if at, e := h.Held(x); at != want || e != api.OK {
		t.Fatalf("Held(%d): %d, %d, want %d", x, at, e, want)
	}
}

func drops(t *testing.T, h *handle.Handles, x int) {
	t.Helper()
	if e := h.Drop(x); e != api.OK {
		t.Fatalf("Drop(%d): %d", x, e)
	}
}

func stale(t *testing.T, h *handle.Handles, x int) {
	t.Helper()
	if at, e := h.Held(x); at != 0 || e != api.ErrStale {
		t.Fatalf("Held(%d): %d, %d", x, at, e)
	}
	if e := h.Drop(x); e != api.ErrStale {
		t.Fatalf("Drop(%d): %d", x, e)
	}
}

func hasAll(t *testing.T, h *handle.Handles, want ...api.Held) {
	t.Helper()
	if l := h.All(); !slices.Equal(l, want) {
		t.Fatalf("All: %v, want %v", l, want)
	}
}

func hasRoom(t *testing.T, h *handle.Handles, want int) {
	t.Helper()
	if n := h.Room(); n != want {
		t.Fatalf("Room: %d, want %d", n, want)
	}
}

// 10.1 Hold

func TestNewHoldsNothing(t *testing.T) {
	h := handle.New()
	if h == nil {
		t.Fatal("New: nil")
	}
	hasRoom(t, h, 512)
	hasAll(t, h)
	for x := range 4 * maxHandles {
		stale(t, h, x)
	}
}

func TestTheFirstHandleOfAll(t *testing.T) {
	for _, at := range addresses {
		h := handle.New()
		holds(t, h, at, 512)
		held(t, h, 512, at)
		hasAll(t, h, api.Held{Handle: 512, At: at})
		hasRoom(t, h, 511)
	}
}

func TestHoldOfEachAddressInARow(t *testing.T) {
	p := newPair()
	for i, at := range addresses {
		holds(t, p.Handles, at, 512+i)
		p.m.hold(at)
		p.same(t)
	}
}

func TestHoldRefusesWhatIsNoAddress(t *testing.T) {
	p := newPair()
	for i, at := range noAddresses {
		refuseHold(t, p.Handles, at, api.ErrArg)
		p.same(t)
		// What was refused took no slot.
		if x := p.hold(t, 64); x != 512+i {
			t.Fatalf("Hold behind Hold(%d): %d", at, x)
		}
	}
}

// One address may be held by several slots: each goes by itself.
func TestHoldOfTheSameAddress(t *testing.T) {
	h := handle.New()
	for i := range 5 {
		holds(t, h, 64, 512+i)
	}
	drops(t, h, 514)
	stale(t, h, 514)
	for _, x := range []int{512, 513, 515, 516} {
		held(t, h, x, 64)
	}
	holds(t, h, 64, 2+1024)
}

func TestHoldTillAllSlotsHold(t *testing.T) {
	p := newPair()
	for i := range maxHandles {
		hasRoom(t, p.Handles, maxHandles-i)
		if x := p.hold(t, i+1); x != maxHandles+i {
			t.Fatalf("Hold of %d: %d", i+1, x)
		}
	}
	for _, at := range slices.Concat(addresses, addresses) {
		refuseHold(t, p.Handles, at, api.ErrFull)
	}
	p.same(t)
}

// Behind one Drop there is room for one alone, in the slot that was dropped.
func TestHoldBehindOneDropOfAllSlots(t *testing.T) {
	p := full(t)
	for i := range maxHandles {
		p.drop(t, i+maxHandles)
		hasRoom(t, p.Handles, 1)
		refuseHold(t, p.Handles, 0, api.ErrArg)
		if x := p.hold(t, i+5); x != i+2*maxHandles {
			t.Fatalf("Hold in slot %d: %d", i, x)
		}
		refuseHold(t, p.Handles, 1, api.ErrFull)
		hasRoom(t, p.Handles, 0)
	}
	p.same(t)
}

func TestHoldNamesErrArgFirst(t *testing.T) {
	p := full(t)
	for _, at := range noAddresses {
		refuseHold(t, p.Handles, at, api.ErrArg)
	}
	p.same(t)
}

func TestHoldTakesTheFirstSlotThatDoesNotHold(t *testing.T) {
	for _, order := range [][]int{{3, 100, 511}, {511, 100, 3}, {100, 3, 511}, {0, 1, 2}, {2, 1, 0}, {0, 511}, {511, 0}, {510, 511}, {511, 510}} {
		p := full(t)
		for _, i := range order {
			p.drop(t, i+maxHandles)
		}
		for _, i := range slices.Sorted(slices.Values(order)) {
			if x := p.hold(t, 7); x != i+2*maxHandles {
				t.Fatalf("of %v: %d, want slot %d", order, x, i)
			}
		}
		refuseHold(t, p.Handles, 7, api.ErrFull)
		p.same(t)
	}
}

// A slot that was never held stands behind one that was dropped.
func TestHoldTakesADroppedSlotAheadOfANewOne(t *testing.T) {
	h := handle.New()
	for i := range 4 {
		holds(t, h, 64+i, 512+i)
	}
	drops(t, h, 514)
	drops(t, h, 512)
	holds(t, h, 80, 0+1024)
	holds(t, h, 81, 2+1024)
	holds(t, h, 82, 4+512)
	drops(t, h, 1024)
	holds(t, h, 83, 0+1536)
	hasAll(t, h, api.Held{Handle: 1536, At: 83}, api.Held{Handle: 513, At: 65}, api.Held{Handle: 1026, At: 81}, api.Held{Handle: 515, At: 67}, api.Held{Handle: 516, At: 82})
}

// 10.1 Held and Drop

func TestHeldTellsTheSameAgain(t *testing.T) {
	p := newPair()
	for i, at := range addresses {
		x := p.hold(t, at)
		for range 3 {
			held(t, p.Handles, x, at)
		}
		hasRoom(t, p.Handles, maxHandles-1-i)
	}
	p.same(t)
}

func TestDropOfEachSlot(t *testing.T) {
	p := full(t)
	for i := range maxHandles {
		x := maxHandles + i
		p.drop(t, x)
		stale(t, p.Handles, x)
		stale(t, p.Handles, x+maxHandles)
		hasRoom(t, p.Handles, i+1)
		if i < maxHandles-1 {
			held(t, p.Handles, x+1, 1001+i)
		}
	}
	p.same(t)
	hasAll(t, p.Handles)
	if x := p.hold(t, 9); x != 2*maxHandles {
		t.Errorf("Hold: %d", x)
	}
}

// A Drop of what is stale does not end a turn.
func TestDropOfWhatIsStaleChangesNothing(t *testing.T) {
	p := full(t)
	p.drop(t, 600)
	for range 4 {
		for _, x := range slices.Concat([]int{600, 1112, 1624, 512 + 1024}, far) {
			p.drop(t, x)
			p.same(t)
		}
	}
	if x := p.hold(t, 5); x != 600+512 {
		t.Fatalf("Hold: %d", x)
	}
	stale(t, p.Handles, 600)
	held(t, p.Handles, 1112, 5)
}

func TestHeldOfAnElderAndALaterTurn(t *testing.T) {
	h := handle.New()
	holds(t, h, 64, 512)
	holds(t, h, 65, 513)
	for turn := 1; turn < 40; turn++ {
		x := 1 + 512*turn
		for other := range 60 {
			if other != turn {
				stale(t, h, 1+512*other)
			}
		}
		held(t, h, x, 64+turn)
		held(t, h, 512, 64)
		drops(t, h, x)
		for other := range 60 {
			stale(t, h, 1+512*other)
		}
		holds(t, h, 65+turn, x+512)
	}
}

func TestManyTurnsOfOneSlot(t *testing.T) {
	for _, slot := range []int{0, 1, 256, 511} {
		h := handle.New()
		for i := range slot {
			holds(t, h, i+1, 512+i)
		}
		for turn := 1; turn <= 70000; turn++ {
			x := slot + 512*turn
			holds(t, h, turn, x)
			stale(t, h, x-512)
			stale(t, h, x+512)
			drops(t, h, x)
		}
		hasRoom(t, h, 512-slot)
	}
}

// Turns of one slot leave those of others as they are.
func TestEachSlotHasATurnOfItsOwn(t *testing.T) {
	p := full(t)
	for _, i := range []int{0, 7, 7, 7, 300, 300, 511} {
		p.drop(t, i+maxHandles*p.m.turns[i])
		p.hold(t, 50+i)
	}
	p.same(t)
	for i := range maxHandles {
		p.drop(t, i+maxHandles*p.m.turns[i])
	}
	for range maxHandles {
		p.hold(t, 3)
	}
	p.same(t)
	for i, want := range map[int]int{0: 3, 1: 2, 7: 5, 8: 2, 300: 4, 510: 2, 511: 3} {
		held(t, p.Handles, i+512*want, 3)
	}
}

// TestEachNumber asks of every number up to far above all turns, and below 0.
func TestEachNumber(t *testing.T) {
	for _, p := range []pair{newPair(), full(t), mixed(t)} {
		of := map[int]int{}
		for _, x := range p.m.all() {
			of[x.Handle] = x.At
		}
		for x := -12 * maxHandles; x < 12*maxHandles; x++ {
			at, ok := of[x]
			if !ok {
				stale(t, p.Handles, x)
				continue
			}
			held(t, p.Handles, x, at)
		}
		p.same(t)
	}
}

func TestFarNumbers(t *testing.T) {
	for _, p := range []pair{newPair(), full(t), mixed(t)} {
		for _, x := range far {
			stale(t, p.Handles, x)
		}
		p.same(t)
	}
}

// Numbers that have a handle's bits, but for one, are other numbers.
func TestNumbersOneBitFromAHandle(t *testing.T) {
	h := handle.New()
	holds(t, h, 64, 512)
	holds(t, h, 65, 513)
	drops(t, h, 512)
	holds(t, h, 66, 1024)
	for _, x := range []int{513, 1024} {
		for bit := range 64 {
			if y := x ^ 1<<bit; y != 513 && y != 1024 {
				stale(t, h, y)
			}
		}
		stale(t, h, -x)
		stale(t, h, ^x)
		stale(t, h, x-math.MaxInt)
	}
	hasAll(t, h, api.Held{Handle: 1024, At: 66}, api.Held{Handle: 513, At: 65})
}

// What is held is an address, never a handle.
func TestHeldOfAnAddressIsStale(t *testing.T) {
	h := handle.New()
	holds(t, h, 513, 512)
	stale(t, h, 513)
	drops(t, h, 512)
	holds(t, h, 512, 1024)
	stale(t, h, 512)
}

// 10.1 All and Room

func TestAllAndRoomOfNoneSomeAndAll(t *testing.T) {
	p := newPair()
	p.same(t)
	for i := range maxHandles {
		p.hold(t, 2*i+1)
		p.same(t)
	}
	for i := 0; i < maxHandles; i += 2 {
		p.drop(t, i+512)
		p.same(t)
	}
	hasRoom(t, p.Handles, 256)
	for i := maxHandles - 1; i >= 0; i -= 2 {
		p.drop(t, i+512)
		p.same(t)
	}
	hasRoom(t, p.Handles, 512)
	hasAll(t, p.Handles)
}

// By slot: neither by handle, nor by address, nor in the order of Hold.
func TestAllIsInTheOrderOfSlots(t *testing.T) {
	h := handle.New()
	for i, at := range []int{90, 70, 80, 60} {
		holds(t, h, at, 512+i)
	}
	drops(t, h, 512)
	drops(t, h, 514)
	hasAll(t, h, api.Held{Handle: 513, At: 70}, api.Held{Handle: 515, At: 60})
	holds(t, h, 100, 1024)
	drops(t, h, 1024)
	holds(t, h, 95, 1536)
	holds(t, h, 10, 1026)
	hasAll(t, h, api.Held{Handle: 1536, At: 95}, api.Held{Handle: 513, At: 70}, api.Held{Handle: 1026, At: 10}, api.Held{Handle: 515, At: 60})
	hasRoom(t, h, 508)
}

func TestRoomAheadOfAndBehindEachCall(t *testing.T) {
	h := handle.New()
	hasRoom(t, h, 512)
	holds(t, h, 64, 512)
	hasRoom(t, h, 511)
	refuseHold(t, h, 0, api.ErrArg)
	hasRoom(t, h, 511)
	holds(t, h, 64, 513)
	hasRoom(t, h, 510)
	stale(t, h, 514)
	hasRoom(t, h, 510)
	held(t, h, 513, 64)
	hasRoom(t, h, 510)
	drops(t, h, 512)
	hasRoom(t, h, 511)
	stale(t, h, 512)
	hasRoom(t, h, 511)
	h.All()
	hasRoom(t, h, 511)
	drops(t, h, 513)
	hasRoom(t, h, 512)
}

// 10.2

func TestWhatWasDroppedIsStaleForEver(t *testing.T) {
	p := newPair()
	for round := range 12 {
		for p.Room() > 0 {
			p.hold(t, round+1)
		}
		for i := round; i < maxHandles; i += 3 {
			p.drop(t, i+maxHandles*p.m.turns[i])
		}
		for _, x := range p.m.gone {
			stale(t, p.Handles, x)
		}
		p.same(t)
	}
	for p.Room() > 0 {
		p.hold(t, 99)
	}
	for _, x := range p.m.gone {
		stale(t, p.Handles, x)
	}
	p.same(t)
}

// No handle is told twice, whatever becomes of its slot.
func TestNoHandleIsToldTwice(t *testing.T) {
	h := handle.New()
	told := map[int]bool{}
	for i := range 20000 {
		x, e := h.Hold(64)
		if e == api.OK && told[x] {
			t.Fatalf("%d is told twice", x)
		}
		told[x] = true
		if l := h.All(); len(l) > i%40 {
			drops(t, h, l[i%len(l)].Handle)
		}
	}
}

// TestALongRow holds Handles against their model through a row of right and
// wrong calls, from a fixed rule.
func TestALongRow(t *testing.T) {
	seed := uint64(1)
	next := func(below int) int {
		seed = seed*6364136223846793005 + 1442695040888963407
		return int(seed>>33) % below
	}
	p := newPair()
	fill := 3
	for step := range 12000 {
		// There are times when most calls hold, and times when most drop.
		if step%1500 == 0 {
			fill = 4 - fill
		}
		slot := next(maxHandles)
		x := slot + maxHandles*p.m.turns[slot]
		switch {
		case next(4) < fill:
			p.hold(t, next(200)-5)
		case next(5) == 0:
			p.drop(t, x+maxHandles*(next(5)-2))
		case next(40) == 0:
			p.drop(t, far[next(len(far))])
		default:
			p.drop(t, x)
		}
		if step%16 == 0 {
			p.same(t)
		}
		if n := len(p.m.gone); n > 0 {
			stale(t, p.Handles, p.m.gone[next(n)])
		}
	}
	for _, x := range p.m.gone {
		stale(t, p.Handles, x)
	}
	p.same(t)
}

// R3

func TestAllIsNewMemory(t *testing.T) {
	for _, p := range []pair{full(t), mixed(t)} {
		want := p.m.all()
		a, b := p.All(), p.All()
		// The room behind the list is written too: it is nobody else's.
		wide := a[:cap(a)]
		for i := range wide {
			wide[i] = api.Held{Handle: 5, At: 6}
		}
		_ = append(a, api.Held{Handle: 1, At: 2})
		_ = append(a[:1], api.Held{Handle: 3, At: 4})
		if !slices.Equal(b, want) {
			t.Errorf("All told ahead: %v, want %v", b, want)
		}
		p.same(t)
		c := append(b, api.Held{Handle: 7, At: 8})
		_ = append(p.All(), api.Held{Handle: 9, At: 10})
		if c[len(c)-1].Handle != 7 {
			t.Error("two lists share the room behind them")
		}
		p.same(t)
	}
}

func TestAllOfNoneIsNewMemory(t *testing.T) {
	h := handle.New()
	_ = append(h.All(), api.Held{Handle: 512, At: 64})
	hasAll(t, h)
	stale(t, h, 512)
	hasRoom(t, h, 512)
}

// What All told stays as it was, whatever is held and dropped from then on.
func TestWhatAllToldStays(t *testing.T) {
	p := mixed(t)
	want, told := p.m.all(), p.All()
	for _, x := range want {
		p.drop(t, x.Handle)
	}
	for p.Room() > 0 {
		p.hold(t, 12345)
	}
	if !slices.Equal(told, want) {
		t.Errorf("All told ahead: %v, want %v", told, want)
	}
}

// R5

func TestTwoDoNotTouch(t *testing.T) {
	a, b := newPair(), newPair()
	a.hold(t, 64)
	b.same(t)
	stale(t, b.Handles, 512)
	b.hold(t, 70)
	b.drop(t, 512)
	a.same(t)
	held(t, a.Handles, 512, 64)
	stale(t, a.Handles, 1024)
	for a.Room() > 0 {
		a.hold(t, 3)
	}
	hasRoom(t, b.Handles, 512)
	b.same(t)
	for i := range maxHandles {
		b.hold(t, i+1)
	}
	for i := range maxHandles {
		a.drop(t, i+512)
	}
	a.same(t)
	b.same(t)
}

func TestTheSameCallsTellTheSame(t *testing.T) {
	a, b := handle.New(), handle.New()
	for i := range 3000 {
		x, e := a.Hold(i*7%50 - 2)
		y, f := b.Hold(i*7%50 - 2)
		if x != y || e != f {
			t.Fatalf("call %d: Hold: %d, %d and %d, %d", i, x, e, y, f)
		}
		n := 512 + i*13%2100
		p, g := a.Held(n)
		q, h := b.Held(n)
		if p != q || g != h || a.Drop(n) != b.Drop(n) || a.Room() != b.Room() {
			t.Fatalf("call %d: of %d: %d, %d and %d, %d", i, n, p, g, q, h)
		}
	}
	hasAll(t, a, b.All()...)
}

// Of nil, and of Handles that New did not make

func TestMethodsOfNil(t *testing.T) {
	var none *handle.Handles
	for range 2 {
		for _, at := range slices.Concat(addresses, noAddresses) {
			refuseHold(t, none, at, api.ErrFull)
		}
		for _, x := range slices.Concat([]int{512, 513, 1023, 1024}, far) {
			stale(t, none, x)
		}
		hasAll(t, none)
		hasRoom(t, none, 0)
	}
}

func TestHandlesOfNothing(t *testing.T) {
	p := pair{&handle.Handles{}, newModel()}
	p.same(t)
	refuseHold(t, p.Handles, 0, api.ErrArg)
	if x := p.hold(t, 64); x != 512 {
		t.Errorf("Hold: %d", x)
	}
	p.drop(t, 512)
	if x := p.hold(t, 65); x != 1024 {
		t.Errorf("Hold: %d", x)
	}
	p.same(t)
}

// A slot and its turn are the Handles' own: nobody from without reaches them.
func TestHandlesShowNoFields(t *testing.T) {
	of := reflect.TypeFor[handle.Handles]()
	for i := range of.NumField() {
		if f := of.Field(i); f.IsExported() {
			t.Errorf("%s", f.Name)
		}
	}
	if n := reflect.TypeFor[*handle.Handles]().NumMethod(); n != 5 {
		t.Errorf("%d methods", n)
	}
}

// The limit that stands in the document is that of package api.
func TestLimits(t *testing.T) {
	if api.MaxHandles != maxHandles {
		t.Errorf("%d handles", api.MaxHandles)
	}
}
