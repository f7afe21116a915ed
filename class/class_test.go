package class_test

import (
	"math"
	"reflect"
	"slices"
	"testing"

	"gloaming/api"
	"gloaming/class"
)

// The document's limits, written out.
const (
	maxFields  = 1023
	maxClasses = 256
)

// far are numbers that are neither a number of fields, nor a field, nor a class.
var far = []int{-1, -2, -255, -256, -257, -1023, -1024, 1024, 1025, 1 << 16, 1 << 31, 1<<31 - 1, 1 << 32, 1<<32 + 1, 1<<32 + 2, -1 << 31, -1 << 32, -1<<32 + 1, 1 << 62, math.MaxInt - 1, math.MaxInt, math.MinInt, math.MinInt + 1, math.MinInt + 2}

// of answers a class whose list of refs is its own.
func of(fields int, refs ...int) api.Class {
	return api.Class{Fields: fields, Refs: slices.Clone(refs)}
}

func upTo(n int) []int {
	var all []int
	for i := range n {
		all = append(all, i)
	}
	return all
}

// may is the document's words: each ref is from 0 to below fields, and above
// each one ahead of it.
func may(fields int, refs []int) bool {
	if fields < 0 || fields > maxFields {
		return false
	}
	for i, r := range refs {
		if r < 0 || r >= fields {
			return false
		}
		for _, ahead := range refs[:i] {
			if ahead >= r {
				return false
			}
		}
	}
	return true
}

func equal(a, b api.Class) bool {
	return a.Fields == b.Fields && slices.Equal(a.Refs, b.Refs)
}

func add(t *testing.T, c *class.Table, x api.Class, want int) {
	t.Helper()
	if id, e := c.Add(x); id != want || e != api.OK {
		t.Fatalf("Add(%v): %d, %d, want %d", x, id, e, want)
	}
}

func refuseAdd(t *testing.T, c *class.Table, x api.Class, want api.Errno) {
	t.Helper()
	if id, e := c.Add(x); id != 0 || e != want {
		t.Fatalf("Add(%v): %d, %d, want 0, %d", x, id, e, want)
	}
	if id, e := c.Of(x.Fields, x.Refs...); id != 0 || e != want {
		t.Fatalf("Of(%d, %v...): %d, %d, want 0, %d", x.Fields, x.Refs, id, e, want)
	}
}

func noClass(t *testing.T, c *class.Table, id int) {
	t.Helper()
	if x, e := c.Class(id); e != api.ErrNone || x.Fields != 0 || len(x.Refs) != 0 {
		t.Fatalf("Class(%d): %v, %d", id, x, e)
	}
}

// same holds a table against a list of its classes, class 1 first.
func same(t *testing.T, c *class.Table, want []api.Class) {
	t.Helper()
	if n := c.Classes(); n != len(want) {
		t.Fatalf("Classes: %d, want %d", n, len(want))
	}
	for i, w := range want {
		if x, e := c.Class(i + 1); e != api.OK || !equal(x, w) {
			t.Fatalf("Class(%d): %v, %d, want %v", i+1, x, e, w)
		}
	}
	noClass(t, c, 0)
	noClass(t, c, -len(want))
	noClass(t, c, len(want)+1)
}

// full answers a table with as many classes as there may be, no two beside
// one another the same, and these as a list.
func full(t *testing.T) (*class.Table, []api.Class) {
	t.Helper()
	c := class.New()
	var want []api.Class
	for i := range maxClasses {
		x := of(i+4, i%3, i+3)
		add(t, c, x, i+1)
		want = append(want, x)
	}
	same(t, c, want)
	return c, want
}

// 7.1 Add

func TestATableBeginsWithoutClasses(t *testing.T) {
	c := class.New()
	if c == nil {
		t.Fatal("New: nil")
	}
	same(t, c, nil)
	noClass(t, c, 1)
}

func TestAddOfEachNumberOfFields(t *testing.T) {
	for fields := range maxFields + 1 {
		c := class.New()
		var want []api.Class
		for _, refs := range [][]int{nil, {}, {0}, {fields - 1}, {0, fields - 1}, upTo(fields)} {
			x := of(fields, refs...)
			if !may(fields, refs) {
				refuseAdd(t, c, x, api.ErrArg)
				continue
			}
			want = append(want, x)
			add(t, c, x, len(want))
		}
		same(t, c, want)
	}
}

func TestAddOfNoRefs(t *testing.T) {
	c := class.New()
	add(t, c, api.Class{}, 1)
	add(t, c, api.Class{Refs: []int{}}, 2)
	add(t, c, api.Class{Refs: make([]int, 0, 9)}, 3)
	add(t, c, api.Class{Fields: maxFields}, 4)
	add(t, c, api.Class{Fields: maxFields, Refs: []int{}}, 5)
	same(t, c, []api.Class{{}, {}, {}, {Fields: maxFields}, {Fields: maxFields}})
}

func TestAddOfAllFieldsOfTheMost(t *testing.T) {
	c := class.New()
	all := upTo(maxFields)
	add(t, c, of(maxFields, all...), 1)
	same(t, c, []api.Class{of(maxFields, all...)})
	refuseAdd(t, c, of(maxFields, append(all, maxFields)...), api.ErrArg)
	refuseAdd(t, c, of(maxFields, append(all, maxFields-1)...), api.ErrArg)
	refuseAdd(t, c, of(maxFields-1, all...), api.ErrArg)
	refuseAdd(t, c, of(maxFields, append([]int{0}, all...)...), api.ErrArg)
	refuseAdd(t, c, of(maxFields, append([]int{-1}, all...)...), api.ErrArg)
	same(t, c, []api.Class{of(maxFields, all...)})
}

// Two classes that are the same are two.
func TestAddOfTheSameTwice(t *testing.T) {
	c := class.New()
	for i := range 3 {
		add(t, c, of(3, 0, 2), i+1)
	}
	same(t, c, []api.Class{of(3, 0, 2), of(3, 0, 2), of(3, 0, 2)})
}

func TestAddRefusesFields(t *testing.T) {
	c := class.New()
	add(t, c, of(2, 1), 1)
	for _, fields := range far {
		for _, refs := range [][]int{nil, {}, {0}, {0, 1}, {1, 0}, {-1}, {fields}, {fields - 1}} {
			refuseAdd(t, c, of(fields, refs...), api.ErrArg)
		}
	}
	same(t, c, []api.Class{of(2, 1)})
}

func TestAddRefusesRefs(t *testing.T) {
	c := class.New()
	add(t, c, of(2, 1), 1)
	for _, refs := range [][]int{
		{0, 0}, {4, 4}, {1, 1, 2}, {0, 1, 1}, {0, 1, 2, 3, 4, 4}, // equal
		{1, 0}, {4, 3}, {0, 2, 1}, {2, 1, 3}, {4, 3, 2, 1, 0}, {1, 3, 2, 4}, {0, 3, 4, 1}, // fall
		{-1}, {-1, 0}, {-2, -1}, {-5}, {0, -1}, {-1, 4}, // below 0
		{5}, {6}, {0, 5}, {4, 5}, {5, 6}, {0, 1, 2, 3, 4, 5}, {1023}, {1024}, // at Fields and behind it
	} {
		refuseAdd(t, c, of(5, refs...), api.ErrArg)
	}
	for _, r := range far {
		for _, refs := range [][]int{{r}, {0, r}, {r, 0}, {0, r, 4}, {r, r}} {
			refuseAdd(t, c, of(5, refs...), api.ErrArg)
			refuseAdd(t, c, of(maxFields, refs...), api.ErrArg)
		}
	}
	refuseAdd(t, c, of(0, 0), api.ErrArg)
	refuseAdd(t, c, of(0, -1), api.ErrArg)
	refuseAdd(t, c, of(5, math.MinInt, math.MaxInt), api.ErrArg)
	refuseAdd(t, c, of(5, math.MaxInt, math.MinInt), api.ErrArg)
	same(t, c, []api.Class{of(2, 1)})
}

// TestAddOfEachShortList holds Add and Of against the document's words, of
// every list of up to four numbers about the bounds.
func TestAddOfEachShortList(t *testing.T) {
	lists := [][]int{nil}
	for i := 0; i < len(lists); i++ {
		if len(lists[i]) < 4 {
			for r := -1; r <= 5; r++ {
				lists = append(lists, append(slices.Clone(lists[i]), r))
			}
		}
	}
	c := class.New()
	for fields := -1; fields <= 5; fields++ {
		for _, refs := range lists {
			if c.Classes() > maxClasses-2 {
				c = class.New()
			}
			n := c.Classes()
			if !may(fields, refs) {
				refuseAdd(t, c, of(fields, refs...), api.ErrArg)
				continue
			}
			add(t, c, of(fields, refs...), n+1)
			if id, e := c.Of(fields, refs...); id != n+2 || e != api.OK {
				t.Fatalf("Of(%d, %v...): %d, %d", fields, refs, id, e)
			}
			x, _ := c.Class(n + 1)
			y, _ := c.Class(n + 2)
			if !equal(x, of(fields, refs...)) || !equal(y, x) {
				t.Fatalf("Class of %d, %v: %v, %v", fields, refs, x, y)
			}
		}
	}
}

func TestAddUntilThereIsNoRoom(t *testing.T) {
	c, want := full(t)
	for range 3 {
		refuseAdd(t, c, of(1), api.ErrFull)
		refuseAdd(t, c, of(0), api.ErrFull)
		refuseAdd(t, c, of(maxFields, upTo(maxFields)...), api.ErrFull)
		refuseAdd(t, c, want[0], api.ErrFull)
		same(t, c, want)
	}
}

func TestAddNamesErrArgFirst(t *testing.T) {
	c, want := full(t)
	for _, x := range []api.Class{of(-1), of(maxFields + 1), of(math.MaxInt), of(math.MinInt), of(2, 2), of(2, -1), of(2, 0, 0), of(2, 1, 0), of(0, 0)} {
		refuseAdd(t, c, x, api.ErrArg)
	}
	same(t, c, want)
}

// What was refused takes no number.
func TestAddAfterWhatWasRefused(t *testing.T) {
	c := class.New()
	var want []api.Class
	for i := range maxClasses {
		refuseAdd(t, c, of(i, i), api.ErrArg)
		refuseAdd(t, c, of(-1-i), api.ErrArg)
		want = append(want, of(i+1, i))
		add(t, c, want[i], i+1)
	}
	same(t, c, want)
}

// 7.1 Of

func TestOf(t *testing.T) {
	c := class.New()
	list := []int{1, 2, 6}
	for i, call := range []func() (int, api.Errno){
		func() (int, api.Errno) { return c.Of(2, 0) },
		func() (int, api.Errno) { return c.Of(7) },
		func() (int, api.Errno) { return c.Of(0) },
		func() (int, api.Errno) { return c.Of(9, 1, 4, 5, 8) },
		func() (int, api.Errno) { return c.Of(7, list...) },
		func() (int, api.Errno) { return c.Of(7, list[1:]...) },
		func() (int, api.Errno) { return c.Of(7, list[:0]...) },
		func() (int, api.Errno) { return c.Of(maxFields, maxFields-1) },
	} {
		if id, e := call(); id != i+1 || e != api.OK {
			t.Fatalf("call %d: %d, %d", i, id, e)
		}
	}
	for i, call := range []func() (int, api.Errno){
		func() (int, api.Errno) { return c.Of(-1) },
		func() (int, api.Errno) { return c.Of(maxFields + 1) },
		func() (int, api.Errno) { return c.Of(2, 2) },
		func() (int, api.Errno) { return c.Of(2, 1, 0) },
		func() (int, api.Errno) { return c.Of(6, list...) },
	} {
		if id, e := call(); id != 0 || e != api.ErrArg {
			t.Fatalf("wrong call %d: %d, %d", i, id, e)
		}
	}
	same(t, c, []api.Class{of(2, 0), of(7), of(0), of(9, 1, 4, 5, 8), of(7, 1, 2, 6), of(7, 2, 6), of(7), of(maxFields, maxFields-1)})
}

func TestOfAndAddShareTheirNumbers(t *testing.T) {
	c := class.New()
	var want []api.Class
	for i := range maxClasses / 2 {
		add(t, c, of(i+1, i), 2*i+1)
		if id, e := c.Of(i+2, 0, i+1); id != 2*i+2 || e != api.OK {
			t.Fatalf("Of: %d, %d", id, e)
		}
		want = append(want, of(i+1, i), of(i+2, 0, i+1))
	}
	same(t, c, want)
	refuseAdd(t, c, of(1), api.ErrFull)
}

// 7.1 Class, Classes

func TestClassOfTheFirstTheLastAndBehindIt(t *testing.T) {
	c := class.New()
	var want []api.Class
	for i := range maxClasses {
		noClass(t, c, i+1)
		want = append(want, of(i+2, 0, i+1))
		add(t, c, want[i], i+1)
		same(t, c, want)
	}
	noClass(t, c, maxClasses+1)
}

func TestClassOfNoNumber(t *testing.T) {
	few := class.New()
	add(t, few, of(4, 3), 1)
	most, _ := full(t)
	for _, c := range []*class.Table{class.New(), few, most} {
		n := c.Classes()
		for _, id := range append([]int{0, n + 1, n + 2, maxClasses + 1, maxFields}, far...) {
			noClass(t, c, id)
		}
		if c.Classes() != n {
			t.Errorf("Classes: %d, want %d", c.Classes(), n)
		}
	}
}

func TestClassesBeforeBetweenAndAfter(t *testing.T) {
	c := class.New()
	for i := range maxClasses + 3 {
		if n := c.Classes(); n != min(i, maxClasses) {
			t.Fatalf("Classes: %d, want %d", n, min(i, maxClasses))
		}
		c.Of(1, 1)
		c.Of(i%7 + 1)
		c.Class(i)
	}
	if n := c.Classes(); n != maxClasses {
		t.Errorf("Classes: %d", n)
	}
}

// 7.2, R3

// What is written into a list that was handed in changes no class, nor does
// what is written into the room behind that list.
func TestAClassStaysWhateverIsWrittenIntoWhatWasHandedIn(t *testing.T) {
	c := class.New()
	room := make([]int, 8)
	copy(room, []int{0, 2, 5, 6})
	x := api.Class{Fields: 9, Refs: room[:3]}
	add(t, c, x, 1)
	if id, e := c.Of(9, room[:4]...); id != 2 || e != api.OK {
		t.Fatalf("Of: %d, %d", id, e)
	}
	add(t, c, api.Class{Fields: 1, Refs: room[:0]}, 3)
	if id, e := c.Of(1, room[:0]...); id != 4 || e != api.OK {
		t.Fatalf("Of: %d, %d", id, e)
	}
	x.Fields = 1
	x.Refs = append(x.Refs, 7)
	for i := range room {
		room[i] = 99
	}
	same(t, c, []api.Class{of(9, 0, 2, 5), of(9, 0, 2, 5, 6), of(1), of(1)})
}

func TestWhatIsHandedInIsNotChanged(t *testing.T) {
	c := class.New()
	room := []int{0, 2, 5, 6, 50, 51, 52, 53}
	before := slices.Clone(room)
	for n := range len(room) + 1 {
		c.Add(api.Class{Fields: 7, Refs: room[:n]})
		c.Of(7, room[:n]...)
		c.Add(api.Class{Fields: 60, Refs: room[:n]})
		c.Of(60, room[:n]...)
	}
	for id := 1; id <= c.Classes(); id++ {
		x, _ := c.Class(id)
		_ = append(x.Refs, 77, 78, 79)
	}
	if !slices.Equal(room, before) {
		t.Errorf("%v, want %v", room, before)
	}
	wrong := []int{3, 1, 2}
	refuseAdd(t, c, api.Class{Fields: 5, Refs: wrong}, api.ErrArg)
	if !slices.Equal(wrong, []int{3, 1, 2}) {
		t.Errorf("a list that falls: %v", wrong)
	}
}

func TestAClassStaysWhateverIsWrittenIntoWhatWasHandedBack(t *testing.T) {
	c := class.New()
	want := []api.Class{of(3, 0, 2), of(9, 1, 4, 5, 6, 7), of(2), of(0), of(maxFields, upTo(maxFields)...)}
	for i, x := range want {
		add(t, c, x, i+1)
	}
	for id := 1; id <= len(want); id++ {
		x, _ := c.Class(id)
		y, _ := c.Class(id)
		// The room behind the list is written too: it is nobody else's.
		wide := x.Refs[:cap(x.Refs)]
		for i := range wide {
			wide[i] = -9
		}
		_ = append(y.Refs, 5, 6, 7)
		if !equal(y, want[id-1]) {
			t.Errorf("Class(%d) told ahead: %v", id, y)
		}
		z := append(y.Refs, 1000)
		w, _ := c.Class(id)
		_ = append(w.Refs, 2000)
		if z[len(z)-1] != 1000 {
			t.Errorf("Class(%d): two lists share the room behind them", id)
		}
		same(t, c, want)
	}
}

func TestAClassStaysWhileOthersAreAdded(t *testing.T) {
	c := class.New()
	add(t, c, of(5, 0, 4), 1)
	told, _ := c.Class(1)
	for range maxClasses {
		c.Of(1023, 7, 8, 9)
		if x, e := c.Class(1); e != api.OK || !equal(x, of(5, 0, 4)) {
			t.Fatalf("Class(1) beside %d: %v, %d", c.Classes(), x, e)
		}
	}
	c.Of(1)
	c.Of(-1)
	if x, _ := c.Class(1); !equal(x, of(5, 0, 4)) || !equal(told, x) {
		t.Errorf("Class(1): %v, told ahead %v", x, told)
	}
}

// TestALongRow holds a table against a plain list through a row of right and
// wrong calls, from a fixed rule, whose lists are all written over.
func TestALongRow(t *testing.T) {
	seed := uint64(1)
	next := func(below int) int {
		seed = seed*6364136223846793005 + 1442695040888963407
		return int(seed>>33) % below
	}
	c := class.New()
	var want []api.Class
	refs := make([]int, 6)
	for range 4000 {
		for i := range refs {
			refs[i] = next(12) - 1
		}
		fields, list := next(14)-1, refs[:next(5)]
		if next(3) > 0 {
			slices.Sort(list)
		}
		e, id := api.OK, 0
		switch {
		case !may(fields, list):
			e = api.ErrArg
		case len(want) == maxClasses:
			e = api.ErrFull
		default:
			want = append(want, of(fields, list...))
			id = len(want)
		}
		if n, f := c.Of(fields, list...); n != id || f != e {
			t.Fatalf("Of(%d, %v...): %d, %d, want %d, %d", fields, list, n, f, id, e)
		}
		x, _ := c.Class(next(maxClasses + 1))
		clear(x.Refs)
		same(t, c, want)
	}
	if len(want) != maxClasses {
		t.Errorf("%d classes alone", len(want))
	}
}

// R5

func TestTwoDoNotTouch(t *testing.T) {
	a, b := class.New(), class.New()
	shared := []int{1, 3}
	add(t, a, api.Class{Fields: 4, Refs: shared}, 1)
	same(t, b, nil)
	add(t, b, of(2, 0), 1)
	add(t, b, api.Class{Fields: 5, Refs: shared}, 2)
	same(t, a, []api.Class{of(4, 1, 3)})
	for range maxClasses {
		a.Of(6, 5)
	}
	refuseAdd(t, a, of(1), api.ErrFull)
	same(t, b, []api.Class{of(2, 0), of(5, 1, 3)})
	add(t, b, of(1), 3)
	x, _ := a.Class(1)
	clear(x.Refs)
	same(t, b, []api.Class{of(2, 0), of(5, 1, 3), of(1)})
	// A class of one table is handed to the other one.
	x, _ = a.Class(1)
	add(t, b, x, 4)
	clear(x.Refs)
	same(t, b, []api.Class{of(2, 0), of(5, 1, 3), of(1), of(4, 1, 3)})
}

func TestTheSameCallsTellTheSame(t *testing.T) {
	a, b := class.New(), class.New()
	for i := range 400 {
		x, e := a.Of(i*7%30-2, i%5, i%11)
		y, f := b.Of(i*7%30-2, i%5, i%11)
		p, g := a.Class(i % 50)
		q, h := b.Class(i % 50)
		if x != y || e != f || g != h || !equal(p, q) || a.Classes() != b.Classes() {
			t.Fatalf("call %d: %d, %d, %v, %d and %d, %d, %v, %d", i, x, e, p, g, y, f, q, h)
		}
	}
}

// Of nil, and of a Table that New did not make

func TestMethodsOfNil(t *testing.T) {
	var none *class.Table
	for _, x := range append([]int{0, 1, 2, 255, 256, 257, 1023}, far...) {
		refuseAdd(t, none, of(x), api.ErrNone)
		refuseAdd(t, none, of(x, 0), api.ErrNone)
		refuseAdd(t, none, of(2, x), api.ErrNone)
		refuseAdd(t, none, of(2, 1, 0), api.ErrNone)
		noClass(t, none, x)
	}
	if none.Classes() != 0 {
		t.Errorf("Classes: %d", none.Classes())
	}
}

func TestATableOfNothing(t *testing.T) {
	var c class.Table
	same(t, &c, nil)
	refuseAdd(t, &c, of(-1), api.ErrArg)
	add(t, &c, of(2, 0), 1)
	same(t, &c, []api.Class{of(2, 0)})
}

// Ways

func TestOfIsVariadic(t *testing.T) {
	if !reflect.TypeOf((*class.Table).Of).IsVariadic() {
		t.Error("Of is not variadic")
	}
}

// The limits that stand in the document are those of package api.
func TestLimits(t *testing.T) {
	if api.MaxFields != maxFields || api.MaxClasses != maxClasses {
		t.Errorf("%d fields, %d classes", api.MaxFields, api.MaxClasses)
	}
}
