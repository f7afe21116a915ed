package root_test

import (
	"math"
	"reflect"
	"slices"
	"testing"

	"gloaming/api"
	"gloaming/root"
)

// The document's number of roots, written out.
const maxRoots = 16

// noPlaces are numbers that no root has.
var noPlaces = []int{16, 17, 18, 31, 32, 33, 255, 256, 1 << 16, 1 << 31, 1<<31 + 3, 1<<32 - 1, 1 << 32, 1<<32 + 3, 1 << 62, 1<<62 + 3, math.MaxInt - 15, math.MaxInt - 1, math.MaxInt, -1, -2, -15, -16, -17, -32, -256, -1 << 31, -1<<31 + 3, -1 << 32, -1<<32 + 3, math.MinInt, math.MinInt + 1, math.MinInt + 3, math.MinInt + 16}

// addresses are what a root may be, but for 0.
var addresses = []int{1, 2, 15, 16, 63, 64, 65, 512, 1 << 31, 1 << 32, 1<<32 + 1, 1 << 62, math.MaxInt - 1, math.MaxInt}

// noAddresses are what it may not.
var noAddresses = []int{-1, -2, -15, -16, -64, -1 << 31, -1 << 32, -1<<32 + 64, -1 << 62, math.MinInt + 64, math.MinInt + 1, math.MinInt}

func place(t *testing.T, r *root.Roots, i, at int) {
	t.Helper()
	if e := r.Place(i, at); e != api.OK {
		t.Fatalf("Place(%d, %d): %d", i, at, e)
	}
}

func refusePlace(t *testing.T, r *root.Roots, i, at int) {
	t.Helper()
	if e := r.Place(i, at); e != api.ErrArg {
		t.Fatalf("Place(%d, %d): %d, want %d", i, at, e, api.ErrArg)
	}
}

func noRoot(t *testing.T, r *root.Roots, i int) {
	t.Helper()
	if at, e := r.Root(i); at != 0 || e != api.ErrArg {
		t.Fatalf("Root(%d): %d, %d, want 0, %d", i, at, e, api.ErrArg)
	}
}

// same looks at all that there is to see of roots.
func same(t *testing.T, r *root.Roots, want [maxRoots]int) {
	t.Helper()
	if l := r.Roots(); !slices.Equal(l, want[:]) {
		t.Fatalf("Roots: %v, want %v", l, want)
	}
	for i, w := range want {
		if at, e := r.Root(i); at != w || e != api.OK {
			t.Fatalf("Root(%d): %d, %d, want %d", i, at, e, w)
		}
	}
}

// of answers roots that are what is said, each set once.
func of(t *testing.T, at [maxRoots]int) *root.Roots {
	t.Helper()
	r := root.New()
	for i, x := range at {
		place(t, r, i, x)
	}
	same(t, r, at)
	return r
}

// some and all are roots of which some are set, and all: no two alike.
var (
	some = [maxRoots]int{1: 70, 2: 64, 7: math.MaxInt, 14: 1}
	all  = [maxRoots]int{80, 79, 1, 2, 1 << 40, 3, 64, 128, 63, 1 << 31, 1 << 32, 5, math.MaxInt, 7, 4, 90}
	none = [maxRoots]int{}
)

// 11.1 Place and Root

func TestNewHasAllRootsAt0(t *testing.T) {
	r := root.New()
	if r == nil {
		t.Fatal("New: nil")
	}
	same(t, r, none)
}

// The others stay at 0.
func TestPlaceOfEachRootAlone(t *testing.T) {
	for i := range maxRoots {
		for _, at := range addresses {
			r := root.New()
			place(t, r, i, at)
			want := none
			want[i] = at
			same(t, r, want)
		}
	}
}

// The others stay what they were.
func TestPlaceOfEachRootAmongOthers(t *testing.T) {
	for _, was := range [][maxRoots]int{some, all} {
		for i := range maxRoots {
			r, want := of(t, was), was
			for _, at := range slices.Concat(addresses, []int{0, 64}) {
				place(t, r, i, at)
				want[i] = at
				same(t, r, want)
			}
		}
	}
}

func TestTheFirstRootAndTheLast(t *testing.T) {
	r := root.New()
	place(t, r, 0, 64)
	place(t, r, 15, 70)
	same(t, r, [maxRoots]int{0: 64, 15: 70})
	place(t, r, 15, math.MaxInt)
	same(t, r, [maxRoots]int{0: 64, 15: math.MaxInt})
	place(t, r, 0, 1)
	same(t, r, [maxRoots]int{0: 1, 15: math.MaxInt})
}

func TestARootSetAgain(t *testing.T) {
	r := root.New()
	for i := range maxRoots {
		for _, at := range []int{9, 9, 8, 10, math.MaxInt, 1, 9} {
			place(t, r, i, at)
			if x, e := r.Root(i); x != at || e != api.OK {
				t.Fatalf("Root(%d): %d, %d, want %d", i, x, e, at)
			}
		}
	}
	same(t, r, [maxRoots]int{9, 9, 9, 9, 9, 9, 9, 9, 9, 9, 9, 9, 9, 9, 9, 9})
}

func TestARootSetTo0(t *testing.T) {
	r, want := of(t, all), all
	for _, i := range []int{7, 0, 15, 3, 3} {
		place(t, r, i, 0)
		want[i] = 0
		same(t, r, want)
	}
	for i := range maxRoots {
		place(t, r, i, 0)
	}
	same(t, r, none)
	place(t, r, 3, 11)
	same(t, r, [maxRoots]int{3: 11})
}

// One address may be at several places: each goes by itself.
func TestTheSameAddressAtSeveralPlaces(t *testing.T) {
	r := root.New()
	place(t, r, 2, 64)
	place(t, r, 0, 64)
	place(t, r, 15, 64)
	same(t, r, [maxRoots]int{0: 64, 2: 64, 15: 64})
	place(t, r, 2, 0)
	same(t, r, [maxRoots]int{0: 64, 15: 64})
}

func TestPlaceRefusesWhatIsNoPlace(t *testing.T) {
	for _, was := range [][maxRoots]int{none, some, all} {
		r := of(t, was)
		for _, i := range noPlaces {
			for _, at := range slices.Concat(addresses, []int{0}) {
				refusePlace(t, r, i, at)
			}
			same(t, r, was)
		}
	}
}

func TestPlaceRefusesWhatIsNoAddress(t *testing.T) {
	for _, was := range [][maxRoots]int{none, some, all} {
		r := of(t, was)
		for i := range maxRoots {
			for _, at := range noAddresses {
				refusePlace(t, r, i, at)
			}
			same(t, r, was)
		}
	}
}

// R2: both numbers are wrong.
func TestPlaceOfTwoWrongNumbers(t *testing.T) {
	r := of(t, some)
	for _, i := range noPlaces {
		for _, at := range noAddresses {
			refusePlace(t, r, i, at)
		}
	}
	same(t, r, some)
}

// R4: no root is told beside an error, whatever roots there are.
func TestRootRefusesWhatIsNoPlace(t *testing.T) {
	for _, was := range [][maxRoots]int{none, some, all} {
		r := of(t, was)
		for _, i := range noPlaces {
			noRoot(t, r, i)
		}
		same(t, r, was)
	}
}

func TestEachNumberAboutThePlaces(t *testing.T) {
	r, want := root.New(), none
	for i := -5 * maxRoots; i < 5*maxRoots; i++ {
		at := 1000 + i
		if i < 0 || i >= maxRoots {
			refusePlace(t, r, i, at)
			noRoot(t, r, i)
			continue
		}
		place(t, r, i, at)
		want[i] = at
	}
	same(t, r, want)
}

// Numbers that have a place's bits, but for one above them, are no places.
func TestNumbersOneBitFromAPlace(t *testing.T) {
	r := of(t, all)
	for i := range maxRoots {
		for bit := 4; bit < 64; bit++ {
			refusePlace(t, r, i^1<<bit, 9)
			noRoot(t, r, i^1<<bit)
		}
		noRoot(t, r, ^i)
		noRoot(t, r, i-maxRoots)
		noRoot(t, r, i+maxRoots)
	}
	same(t, r, all)
}

// 11.1 Roots

func TestRootsOfNoneOfSomeAndOfAll(t *testing.T) {
	r, want := root.New(), none
	for _, order := range [][]int{{3, 15, 0, 8, 1, 2, 14, 4, 13, 5, 12, 6, 11, 7, 10, 9}, {15, 14, 13, 12, 11, 10, 9, 8, 7, 6, 5, 4, 3, 2, 1, 0}} {
		for n, i := range order {
			place(t, r, i, 500-n*i)
			want[i] = 500 - n*i
			if l := r.Roots(); !slices.Equal(l, want[:]) {
				t.Fatalf("Roots: %v, want %v", l, want)
			}
		}
		for _, i := range order {
			place(t, r, i, 0)
			want[i] = 0
			if l := r.Roots(); !slices.Equal(l, want[:]) {
				t.Fatalf("Roots: %v, want %v", l, want)
			}
		}
	}
}

// By place: not by address, and 0 and what comes twice is not left out.
func TestRootsIsInTheOrderOfPlaces(t *testing.T) {
	r := root.New()
	for i, at := range []int{9, 3, 0, 3, 7, 0, 1} {
		place(t, r, i, at)
	}
	if l := r.Roots(); !slices.Equal(l, []int{9, 3, 0, 3, 7, 0, 1, 0, 0, 0, 0, 0, 0, 0, 0, 0}) {
		t.Errorf("Roots: %v", l)
	}
}

// 11.2

// least is the least number of all lists that is above floor, if there is one.
func least(floor int, lists [][]int) (int, bool) {
	at, ok := 0, false
	for _, l := range lists {
		for _, x := range l {
			if x > floor && (!ok || x < at) {
				at, ok = x, true
			}
		}
	}
	return at, ok
}

// merged is the document's words, number by number: the least above 0, then
// the least above that one, and so on.
func merged(lists [][]int) []int {
	var want []int
	for x, ok := least(0, lists); ok; x, ok = least(x, lists) {
		want = append(want, x)
	}
	return want
}

func merges(t *testing.T, want []int, lists ...[]int) {
	t.Helper()
	if got := root.Merge(lists...); !slices.Equal(got, want) {
		t.Fatalf("Merge(%v...): %v, want %v", lists, got, want)
	}
}

func TestMergeOfNone(t *testing.T) {
	merges(t, nil)
	merges(t, nil, [][]int{}...)
	if got := root.Merge(); len(got) != 0 {
		t.Errorf("Merge(): %v", got)
	}
	if got := root.Merge(nil...); len(got) != 0 {
		t.Errorf("Merge(nil...): %v", got)
	}
}

func TestMergeOfNilAndEmptyLists(t *testing.T) {
	empty := []int{}
	wide := make([]int, 0, 9)
	for _, lists := range [][][]int{{nil}, {empty}, {wide}, {nil, nil}, {empty, nil, wide}, {nil, empty, nil, empty}} {
		merges(t, nil, lists...)
		merges(t, []int{1, 5}, append(lists, []int{5, 1})...)
		merges(t, []int{1, 5}, append([][]int{{5, 1}}, lists...)...)
		merges(t, []int{1, 5}, slices.Concat([][]int{{5}}, lists, [][]int{{1}})...)
	}
}

func TestMergeOfOne(t *testing.T) {
	for _, x := range addresses {
		merges(t, []int{x}, []int{x})
		merges(t, []int{x}, []int{x, x})
		merges(t, []int{x}, []int{x}, []int{x})
		merges(t, []int{x}, []int{0, x, 0})
	}
	merges(t, []int{1, 2, 3}, []int{1, 2, 3})
	merges(t, []int{1, 2, 3}, []int{3, 2, 1})
	merges(t, []int{1, 2, 3}, []int{2, 2, 3, 1, 1, 3, 2})
}

func TestMergeLeavesOutWhatIsNotAbove0(t *testing.T) {
	for _, x := range append([]int{0}, noAddresses...) {
		merges(t, nil, []int{x})
		merges(t, nil, []int{x, x}, []int{x})
		merges(t, []int{1, 4}, []int{x, 4}, []int{1, x})
		merges(t, []int{1, 4}, []int{4, x}, []int{x, 1})
		merges(t, []int{1, 4}, []int{4, x, 1})
		// What is as far above 0 is a number of its own.
		if up := -x; up > 0 {
			merges(t, []int{up}, []int{x, up})
			merges(t, []int{up}, []int{up}, []int{x})
		}
	}
	merges(t, nil, noAddresses, noAddresses, []int{0})
}

func TestMergeOfTheGreatestAndTheSmallest(t *testing.T) {
	ends := []int{math.MaxInt, math.MinInt, 0, -1, math.MaxInt - 1, math.MinInt + 1, 1, 2, -2}
	want := []int{1, 2, math.MaxInt - 1, math.MaxInt}
	merges(t, want, ends)
	merges(t, want, ends, ends)
	for i := range ends {
		merges(t, want, ends[:i], ends[i:])
		merges(t, want, ends[i:], ends[:i])
	}
	merges(t, slices.Sorted(slices.Values(addresses)), addresses, noAddresses)
}

func TestMergeOfTheSameInOneAndInSeveral(t *testing.T) {
	merges(t, []int{1, 3}, []int{3, 0}, []int{1, 3})
	merges(t, []int{7}, []int{7, 7, 7}, []int{7}, []int{7, 7})
	merges(t, []int{3, 5, 7}, []int{7, 3, 7}, []int{5, 3, 5}, []int{3, 7, 5})
	l := []int{4, 4, 2, 9, 2}
	merges(t, []int{2, 4, 9}, l, l, l, l)
	merges(t, []int{2, 4, 9}, l[:3], l[2:], l, l[:0], l[1:4])
}

// One list's numbers may stand ahead of, among and behind those of another.
func TestMergeOfListsInAnyOrder(t *testing.T) {
	lists := [][]int{{10, 30}, {20}, {5, 40, 30}, {1, 2}, {50}}
	want := []int{1, 2, 5, 10, 20, 30, 40, 50}
	for range lists {
		lists = append(lists[1:], lists[0])
		merges(t, want, lists...)
		slices.Reverse(lists)
		merges(t, want, lists...)
		slices.Reverse(lists)
	}
}

// shortLists are all lists of up to three of some numbers.
func shortLists() [][]int {
	lists := [][]int{nil}
	ahead := lists
	for range 3 {
		var next [][]int
		for _, l := range ahead {
			for _, x := range []int{-1, 0, 1, 2, 3} {
				next = append(next, append(slices.Clone(l), x))
			}
		}
		lists = append(lists, next...)
		ahead = next
	}
	return lists
}

func TestMergeOfEachTwoShortLists(t *testing.T) {
	lists := shortLists()
	for _, a := range lists {
		merges(t, merged([][]int{a}), a)
		for _, b := range lists {
			merges(t, merged([][]int{a, b}), a, b)
		}
	}
}

// numbers answers numbers from a fixed rule, each from 0 to below what is asked.
func numbers() func(below int) int {
	seed := uint64(1)
	return func(below int) int {
		seed = seed*6364136223846793005 + 1442695040888963407
		return int(seed>>33) % below
	}
}

func TestMergeOfManyKindsOfLists(t *testing.T) {
	next := numbers()
	for range 1000 {
		lists := make([][]int, next(12))
		spread := 1 + next(300)
		for i := range lists {
			for range next(20) {
				lists[i] = append(lists[i], (next(spread)-next(30))<<next(34))
			}
		}
		merges(t, merged(lists), lists...)
	}
}

func TestMergeOfOneLongList(t *testing.T) {
	const n = 1 << 18
	var falling, want []int
	for x := n; x > -n; x-- {
		falling = append(falling, x)
	}
	for x := 1; x <= n; x++ {
		want = append(want, x)
	}
	merges(t, want, falling)
	merges(t, want, want)
	merges(t, want, falling, want)
	merges(t, []int{6}, slices.Repeat([]int{6, 0}, n))
}

func TestMergeOfManyLists(t *testing.T) {
	const n = 1 << 16
	var lists [][]int
	var want []int
	for i := range n {
		// An odd factor goes through each number below a power of 2 once.
		lists = append(lists, []int{i * 40503 % n})
	}
	for x := 1; x < n; x++ {
		want = append(want, x)
	}
	merges(t, want, lists...)
	merges(t, nil, make([][]int, n)...)
	merges(t, []int{2, 3}, slices.Repeat([][]int{{3, -1}, {2, 3}}, n)...)
}

// Ways

func TestMergeIsVariadic(t *testing.T) {
	if of := reflect.TypeOf(root.Merge); !of.IsVariadic() || of.NumIn() != 1 {
		t.Errorf("Merge is %v", of)
	}
}

func TestMergeOfListsOneByOneAndOfAListOfLists(t *testing.T) {
	a, b, c := []int{3, 0, 9}, []int{1, 3, -5, 1}, []int{12, 2}
	want := []int{1, 2, 3, 9, 12}
	for i, got := range [][]int{
		root.Merge(a, b, c),
		root.Merge([][]int{a, b, c}...),
		root.Merge(root.Merge(a), root.Merge(b, c)),
		root.Merge(root.Merge([][]int{a, b}...), c),
		root.Merge(slices.Concat(a, b, c)),
	} {
		if !slices.Equal(got, want) {
			t.Errorf("%d: %v, want %v", i, got, want)
		}
	}
}

// 11.3

// TestALongRow holds roots against a list of what each was set to last, through
// a row of right and wrong calls, from a fixed rule.
func TestALongRow(t *testing.T) {
	next := numbers()
	r, want := root.New(), none
	for range 20000 {
		i, at := next(maxRoots+4)-2, next(60)-10
		switch next(6) {
		case 0:
			i = noPlaces[next(len(noPlaces))]
		case 1:
			at = noAddresses[next(len(noAddresses))]
		case 2:
			at = addresses[next(len(addresses))]
		}
		if i < 0 || i >= maxRoots || at < 0 {
			refusePlace(t, r, i, at)
		} else {
			place(t, r, i, at)
			want[i] = at
		}
		same(t, r, want)
	}
}

func TestWhatIsAskedDoesNotChange(t *testing.T) {
	r := of(t, some)
	for range 3 {
		for i := -2; i < maxRoots+2; i++ {
			r.Root(i)
		}
		root.Merge(r.Roots(), r.Roots())
		same(t, r, some)
	}
}

// R3

// spoil writes into a list, and into the room behind it.
func spoil(l []int) {
	wide := l[:cap(l)]
	for i := range wide {
		wide[i] = -7
	}
	_ = append(l, -8)
	_ = append(l[:0], -9)
}

func TestRootsIsNewMemory(t *testing.T) {
	for _, want := range [][maxRoots]int{none, some, all} {
		r := of(t, want)
		a, b := r.Roots(), r.Roots()
		spoil(a)
		if !slices.Equal(b, want[:]) {
			t.Errorf("Roots told ahead: %v, want %v", b, want)
		}
		same(t, r, want)
		c := append(b, 5)
		_ = append(r.Roots(), 6)
		if !slices.Equal(c[:maxRoots], want[:]) || c[maxRoots] != 5 {
			t.Errorf("Roots appended to: %v, want %v, 5", c, want)
		}
		same(t, r, want)
	}
}

// What Roots told stays as it was, whatever is set from then on.
func TestWhatRootsToldStays(t *testing.T) {
	r := of(t, all)
	told := r.Roots()
	for i := range maxRoots {
		place(t, r, i, 12345)
	}
	if !slices.Equal(told, all[:]) {
		t.Errorf("Roots told ahead: %v, want %v", told, all)
	}
}

// handedIn are lists for Merge, of which each way of sharing one's memory
// would be seen: sorted ones too, which are their own answer.
func handedIn() [][][]int {
	return [][][]int{
		{{1, 2, 3}},
		{{3, 1, 2}},
		{{3, 0, 9, 3, -5, 1}},
		{{0, 0, -1}},
		{{1, 2, 3}, nil},
		{nil, {1, 2, 3}},
		{{}, {4, 5}, {}},
		{{1, 2}, {3, 4}},
		{{3, 4}, {1, 2}},
		{{9, 1, 9}, {0, 5, 1}, {-3, 9, 2}},
	}
}

// in answers lists alike, in memory of their own, with room behind each of
// them and behind the list of them that holds a number, and a list, as well.
func in(lists [][]int) (wide, short [][]int) {
	for _, l := range lists {
		wide = append(wide, append(slices.Clone(l), 77, 0, 78))
	}
	wide = append(wide, []int{79})
	for _, l := range wide[:len(lists)] {
		short = append(short, l[:len(l)-3])
	}
	short = append(short, wide[len(lists)])
	return wide, short[:len(lists)]
}

func equalLists(a, b [][]int) bool {
	return slices.EqualFunc(a, b, func(x, y []int) bool { return slices.Equal(x, y) })
}

func TestMergeLeavesItsListsAsTheyWere(t *testing.T) {
	for _, lists := range handedIn() {
		want := merged(lists)
		wide, short := in(lists)
		wideWas, _ := in(lists)
		for range 2 {
			merges(t, want, short...)
		}
		if !equalLists(short, lists) {
			t.Errorf("lists that were handed in: %v, were %v", short, lists)
		}
		if !equalLists(wide, wideWas) {
			t.Errorf("the room behind lists that were handed in: %v, was %v", wide, wideWas)
		}
		if last := short[:len(short)+1][len(short)]; !slices.Equal(last, []int{79}) {
			t.Errorf("the room behind a list of lists: %v", last)
		}
	}
}

func TestWhatMergeTellsIsNewMemory(t *testing.T) {
	for _, lists := range handedIn() {
		want := merged(lists)
		wide, short := in(lists)
		wideWas, _ := in(lists)
		a, b := root.Merge(short...), root.Merge(short...)
		spoil(a)
		if !slices.Equal(b, want) {
			t.Errorf("Merge(%v...) told ahead: %v, want %v", lists, b, want)
		}
		if !equalLists(wide, wideWas) {
			t.Errorf("lists that were handed in: %v, were %v", wide, wideWas)
		}
		merges(t, want, short...)
	}
}

// What Merge told stays as it was, whatever becomes of what was handed in.
func TestWhatMergeToldStays(t *testing.T) {
	for _, lists := range handedIn() {
		want := merged(lists)
		_, short := in(lists)
		told := root.Merge(short...)
		for _, l := range short {
			spoil(l)
		}
		root.Merge([]int{50, 51, 52, 53, 54, 55}, []int{56})
		if !slices.Equal(told, want) {
			t.Errorf("Merge(%v...) told ahead: %v, want %v", lists, told, want)
		}
	}
}

func TestMergeOfWhatMergeTold(t *testing.T) {
	for _, lists := range handedIn() {
		want := merged(lists)
		told := root.Merge(lists...)
		again := root.Merge(told)
		spoil(again)
		if !slices.Equal(told, want) {
			t.Errorf("what was told: %v, want %v", told, want)
		}
	}
}

func TestMergeOfRoots(t *testing.T) {
	a, b := of(t, some), of(t, all)
	merges(t, []int{1, 64, 70, math.MaxInt}, a.Roots())
	merges(t, merged([][]int{some[:], all[:]}), a.Roots(), b.Roots())
	spoil(root.Merge(b.Roots()))
	same(t, a, some)
	same(t, b, all)
}

// R5

func TestTwoDoNotTouch(t *testing.T) {
	a, b := root.New(), root.New()
	place(t, a, 3, 64)
	same(t, b, none)
	place(t, b, 3, 70)
	place(t, b, 0, 9)
	same(t, a, [maxRoots]int{3: 64})
	spoil(a.Roots())
	place(t, a, 3, 0)
	same(t, a, none)
	same(t, b, [maxRoots]int{0: 9, 3: 70})
	same(t, root.New(), none)
}

func TestTheSameCallsTellTheSame(t *testing.T) {
	a, b := root.New(), root.New()
	for n := range 3000 {
		i, at := n*7%20-2, n*13%50-3
		if e, f := a.Place(i, at), b.Place(i, at); e != f {
			t.Fatalf("call %d: Place(%d, %d): %d and %d", n, i, at, e, f)
		}
		x, e := a.Root(i)
		y, f := b.Root(i)
		if x != y || e != f {
			t.Fatalf("call %d: Root(%d): %d, %d and %d, %d", n, i, x, e, y, f)
		}
		p, q := a.Roots(), b.Roots()
		if !slices.Equal(p, q) || !slices.Equal(root.Merge(p, []int{at}), root.Merge(q, []int{at})) {
			t.Fatalf("call %d: %v and %v", n, p, q)
		}
	}
}

// Of nil, and of roots that New did not make

func TestMethodsOfNil(t *testing.T) {
	var r *root.Roots
	for range 2 {
		for _, i := range slices.Concat([]int{0, 1, 7, 14, 15}, noPlaces) {
			for _, at := range slices.Concat([]int{0}, addresses, noAddresses) {
				refusePlace(t, r, i, at)
			}
			noRoot(t, r, i)
		}
		if l := r.Roots(); len(l) != 0 {
			t.Fatalf("Roots: %v", l)
		}
		_ = append(r.Roots(), 64)
	}
}

func TestRootsOfNothing(t *testing.T) {
	r := &root.Roots{}
	same(t, r, none)
	place(t, r, 15, 64)
	refusePlace(t, r, 16, 64)
	same(t, r, [maxRoots]int{15: 64})
}

// What is kept is the roots' own: nobody from without reaches it.
func TestRootsShowNoFields(t *testing.T) {
	of := reflect.TypeFor[root.Roots]()
	for i := range of.NumField() {
		if f := of.Field(i); f.IsExported() {
			t.Errorf("%s", f.Name)
		}
	}
	if n := reflect.TypeFor[*root.Roots]().NumMethod(); n != 3 {
		t.Errorf("%d methods", n)
	}
}

// The limit that stands in the document is that of package api.
func TestLimits(t *testing.T) {
	if api.MaxRoots != maxRoots {
		t.Errorf("%d roots", api.MaxRoots)
	}
}
