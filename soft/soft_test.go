package soft_test

import (
	"math"
	"math/big"
	"reflect"
	"slices"
	"testing"

	"gloaming/api"
	"gloaming/soft"
)

const (
	most  = math.MaxInt
	least = math.MinInt
)

// edges are numbers at which a clock, a stamp, free words or a rate may go wrong.
var edges = []int{
	0, 1, 2, 3, 5, 7, 100, 1<<31 - 1, 1 << 31, 1<<32 - 1, 1 << 32, 1<<32 + 1,
	3037000499, 3037000500, most/3 - 1, most / 3, most/3 + 1, 1<<62 - 1, 1 << 62, 1<<62 + 1, most - 2, most - 1, most,
	-1, -2, -3, -5, -1 << 31, -1 << 32, -1 << 62, least + 2, least + 1, least,
}

// counted is what a number counts as: the document's words, in numbers that have no end.
func counted(n int) *big.Int {
	if n < 0 {
		return big.NewInt(0)
	}
	return big.NewInt(int64(n))
}

// bounded is a number that is no int any more as MaxInt, and one below 0 as 0.
func bounded(x *big.Int) int {
	if x.Sign() < 0 {
		return 0
	}
	if x.Cmp(big.NewInt(most)) > 0 {
		return most
	}
	return int(x.Int64())
}

func idle(clock, stamp int) int {
	return bounded(new(big.Int).Sub(counted(clock), counted(stamp)))
}

func limit(free, rate int) int {
	return bounded(new(big.Int).Mul(counted(free), counted(rate)))
}

func later(clock int, n ...int) int {
	sum := counted(clock)
	for _, more := range n {
		sum.Add(sum, counted(more))
	}
	return bounded(sum)
}

func sameIdle(t *testing.T, clock, stamp, want int) {
	t.Helper()
	if got := soft.Idle(clock, stamp); got != want {
		t.Errorf("Idle(%d, %d): %d, want %d", clock, stamp, got, want)
	}
}

func sameLimit(t *testing.T, free, rate, want int) {
	t.Helper()
	if got := soft.Limit(free, rate); got != want {
		t.Errorf("Limit(%d, %d): %d, want %d", free, rate, got, want)
	}
}

func sameKeep(t *testing.T, clock, stamp, free, rate int, want bool) {
	t.Helper()
	if got := soft.Keep(clock, stamp, free, rate); got != want {
		t.Errorf("Keep(%d, %d, %d, %d): %v, want %v", clock, stamp, free, rate, got, want)
	}
}

func sameLater(t *testing.T, want, clock int, n ...int) {
	t.Helper()
	if got := soft.Later(clock, n...); got != want {
		t.Errorf("Later(%d, %v): %d, want %d", clock, n, got, want)
	}
}

// 14.1: Idle

func TestIdleAheadAtAndBehind(t *testing.T) {
	sameIdle(t, 5, 3, 2)
	sameIdle(t, 6, 5, 1)
	sameIdle(t, 5, 5, 0)
	sameIdle(t, 4, 5, 0)
	sameIdle(t, 3, 5, 0)
	sameIdle(t, 1, 1000, 0)
}

func TestIdleOfNumbersBelow0(t *testing.T) {
	sameIdle(t, -1, 5, 0)
	sameIdle(t, 7, -5, 7)
	sameIdle(t, 7, -1, 7)
	sameIdle(t, -1, -5, 0)
	sameIdle(t, -5, -1, 0)
	sameIdle(t, -1, 0, 0)
	sameIdle(t, 0, -1, 0)
}

func TestIdleOf0(t *testing.T) {
	sameIdle(t, 0, 0, 0)
	sameIdle(t, 9, 0, 9)
	sameIdle(t, 0, 9, 0)
}

func TestIdleOfTheGreatestAndTheSmallest(t *testing.T) {
	sameIdle(t, most, most, 0)
	sameIdle(t, most, least, most)
	sameIdle(t, least, most, 0)
	sameIdle(t, least, least, 0)
	sameIdle(t, most, 0, most)
	sameIdle(t, 0, most, 0)
	sameIdle(t, least, 0, 0)
	sameIdle(t, 0, least, 0)
	sameIdle(t, most, most-1, 1)
	sameIdle(t, most-1, most, 0)
}

func TestIdleOfEachPairOfEdges(t *testing.T) {
	for _, clock := range edges {
		for _, stamp := range edges {
			sameIdle(t, clock, stamp, idle(clock, stamp))
		}
	}
}

func TestIdleOfEachSmallPair(t *testing.T) {
	for clock := -20; clock <= 60; clock++ {
		for stamp := -20; stamp <= 60; stamp++ {
			sameIdle(t, clock, stamp, idle(clock, stamp))
		}
	}
}

// 14.1: Limit

func TestLimitBelowMaxInt(t *testing.T) {
	sameLimit(t, 3, 2, 6)
	sameLimit(t, 2, 3, 6)
	sameLimit(t, 100, 1000, 100000)
	sameLimit(t, 1<<31, 1<<31, 1<<62)
	sameLimit(t, 3037000499, 3037000499, 9223372030926249001)
	sameLimit(t, 1<<62-1, 2, most-1)
}

// MaxInt is 7 * 7 * 73 * 127 * 337 * 92737 * 649657, and so a product in many ways.
func TestLimitAtMaxInt(t *testing.T) {
	sameLimit(t, most, 1, most)
	sameLimit(t, 7, most/7, most)
	sameLimit(t, 49, most/49, most)
	sameLimit(t, 92737*649657, 7*7*73*127*337, most)
	if 7*(most/7) != most || 49*(most/49) != most {
		t.Error("no divisors of MaxInt")
	}
}

func TestLimitOneAboveMaxInt(t *testing.T) {
	for i := 1; i < 63; i++ {
		sameLimit(t, 1<<i, 1<<(63-i), most)
	}
	sameLimit(t, 1<<32, 1<<31, most)
	sameLimit(t, 1<<62, 2, most)
}

func TestLimitFarAboveMaxInt(t *testing.T) {
	sameLimit(t, most, 2, most)
	sameLimit(t, 2, most, most)
	sameLimit(t, most, most, most)
	sameLimit(t, most-1, most-1, most)
	sameLimit(t, 1<<32, 1<<32, most)
	sameLimit(t, 1<<33, 1<<33, most)
	sameLimit(t, 1<<62, 1<<62, most)
	sameLimit(t, 1<<62, 4, most)
	sameLimit(t, 1<<32, 1<<32+1, most)
	sameLimit(t, 3037000500, 3037000500, most)
}

// A product that is above is above, whatever is left of it in 64 bits.
func TestLimitOfProductsThatWrapRoundToSmallOnes(t *testing.T) {
	for i := 32; i < 63; i++ {
		for _, near := range []int{-1, 0, 1} {
			sameLimit(t, 1<<i+near, 1<<i, most)
			sameLimit(t, 1<<i, 1<<i+near, most)
		}
	}
	sameLimit(t, most/3+1, 6, most)
	sameLimit(t, 6, most/3+1, most)
}

func TestLimitOf0And1AndBelow0(t *testing.T) {
	for _, n := range edges {
		sameLimit(t, 0, n, 0)
		sameLimit(t, n, 0, 0)
		sameLimit(t, 1, n, max(n, 0))
		sameLimit(t, n, 1, max(n, 0))
		for _, below := range []int{-1, -2, -3, -1 << 32, least + 1, least} {
			sameLimit(t, below, n, 0)
			sameLimit(t, n, below, 0)
		}
	}
}

func TestLimitOfTheGreatestAndTheSmallest(t *testing.T) {
	sameLimit(t, most, most, most)
	sameLimit(t, most, least, 0)
	sameLimit(t, least, most, 0)
	sameLimit(t, least, least, 0)
}

func TestLimitOfEachPairOfEdges(t *testing.T) {
	for _, free := range edges {
		for _, rate := range edges {
			sameLimit(t, free, rate, limit(free, rate))
		}
	}
}

func TestLimitAboutMaxIntForEachSmallRate(t *testing.T) {
	for rate := 2; rate <= 2000; rate++ {
		for free := most/rate - 2; free <= most/rate; free++ {
			sameLimit(t, free, rate, free*rate)
			sameLimit(t, rate, free, free*rate)
		}
		sameLimit(t, most/rate+1, rate, most)
		sameLimit(t, rate, most/rate+1, most)
		sameLimit(t, most/rate+2, rate, most)
	}
}

// 14.1: Keep

func TestKeepBelowAtAndAboveItsLimit(t *testing.T) {
	sameKeep(t, 9, 4, 3, 2, true)
	sameKeep(t, 10, 4, 3, 2, true)
	sameKeep(t, 11, 4, 3, 2, false)
	sameKeep(t, 1000000, 4, 3, 2, false)
	sameKeep(t, 4, 4, 3, 2, true)
	sameKeep(t, 3, 4, 3, 2, true)
}

func TestKeepOfRate0AndOfFree0(t *testing.T) {
	for _, n := range edges {
		sameKeep(t, 10, 10, n, 0, true)
		sameKeep(t, 9, 10, n, 0, true)
		sameKeep(t, 11, 10, n, 0, false)
		sameKeep(t, most, 10, n, 0, false)
		sameKeep(t, 10, 10, 0, n, true)
		sameKeep(t, 9, 10, 0, n, true)
		sameKeep(t, 11, 10, 0, n, false)
		sameKeep(t, most, 10, 0, n, false)
	}
}

func TestKeepOfEachBelow0(t *testing.T) {
	for _, below := range []int{-1, -2, -7, -1 << 32, least + 1, least} {
		sameKeep(t, below, 4, 3, 2, true)
		sameKeep(t, below, 0, 0, 0, true)
		sameKeep(t, 6, below, 3, 2, true)
		sameKeep(t, 7, below, 3, 2, false)
		sameKeep(t, 4, 4, below, 2, true)
		sameKeep(t, 5, 4, below, 2, false)
		sameKeep(t, 4, 4, 3, below, true)
		sameKeep(t, 5, 4, 3, below, false)
		sameKeep(t, 5, 4, below, below, false)
		sameKeep(t, 0, below, below, below, true)
		sameKeep(t, 1, below, below, below, false)
		sameKeep(t, below, below, below, below, true)
	}
}

func TestKeepAtTheGreatestAndTheSmallest(t *testing.T) {
	sameKeep(t, most, 4, 3, 2, false)
	sameKeep(t, least, 4, 3, 2, true)
	sameKeep(t, 10, most, 3, 2, true)
	sameKeep(t, 7, least, 3, 2, false)
	sameKeep(t, 10, 4, most, 2, true)
	sameKeep(t, 10, 4, least, 2, false)
	sameKeep(t, 10, 4, 3, most, true)
	sameKeep(t, 10, 4, 3, least, false)
	sameKeep(t, most, 0, most, 1, true)
	sameKeep(t, most, 0, most-1, 1, false)
	sameKeep(t, most, 1, most-1, 1, true)
	sameKeep(t, most, 0, most, 2, true)
	sameKeep(t, most, least, most, most, true)
	sameKeep(t, most, least, least, most, false)
}

func TestKeepOfEachFourEdges(t *testing.T) {
	for _, clock := range edges {
		for _, stamp := range edges {
			for _, free := range edges {
				for _, rate := range edges {
					sameKeep(t, clock, stamp, free, rate, idle(clock, stamp) <= limit(free, rate))
				}
			}
		}
	}
}

func TestKeepAboutItsLimit(t *testing.T) {
	for free := range 12 {
		for rate := range 12 {
			for _, stamp := range []int{0, 1, 50, 1 << 40} {
				end := stamp + free*rate
				sameKeep(t, end-1, stamp, free, rate, true)
				sameKeep(t, end, stamp, free, rate, true)
				sameKeep(t, end+1, stamp, free, rate, false)
			}
		}
	}
}

// 14.2

func TestLaterOfNoNumbers(t *testing.T) {
	for _, clock := range edges {
		sameLater(t, max(clock, 0), clock)
		sameLater(t, max(clock, 0), clock, nil...)
		sameLater(t, max(clock, 0), clock, []int{}...)
	}
}

func TestLaterOfOne(t *testing.T) {
	sameLater(t, 8, 5, 3)
	sameLater(t, 5, 5, 0)
	sameLater(t, 3, 0, 3)
	sameLater(t, 0, 0, 0)
	for _, clock := range edges {
		for _, n := range edges {
			sameLater(t, later(clock, n), clock, n)
		}
	}
}

func TestLaterOfMany(t *testing.T) {
	sameLater(t, 15, 1, 2, 3, 4, 5)
	sameLater(t, 1<<20+7, 7, slices.Repeat([]int{1}, 1<<20)...)
	var all []int
	want := 9
	for i := range 200 {
		all, want = append(all, i*i), want+i*i
		sameLater(t, want, 9, all...)
	}
	for _, clock := range edges {
		for _, a := range edges {
			for _, b := range edges {
				sameLater(t, later(clock, a, b), clock, a, b)
			}
		}
	}
}

func TestLaterWithNumbersBelow0AmongOthers(t *testing.T) {
	sameLater(t, 6, 1, 2, -9, 3)
	for _, below := range []int{-1, -2, -9, -1 << 32, least + 1, least} {
		sameLater(t, 6, 1, below, 2, 3)
		sameLater(t, 6, 1, 2, below, 3)
		sameLater(t, 6, 1, 2, 3, below)
		sameLater(t, 6, 1, below, 2, below, 3, below)
		sameLater(t, 1, 1, below, below)
		sameLater(t, most, most, below)
		sameLater(t, most, most, below, 1)
	}
}

func TestLaterOfAClockBelow0(t *testing.T) {
	for _, below := range []int{-1, -5, -1 << 32, least + 1, least} {
		sameLater(t, 0, below)
		sameLater(t, 3, below, 3)
		sameLater(t, 3, below, 1, -4, 2)
		sameLater(t, 0, below, below, below)
		sameLater(t, most, below, most)
		sameLater(t, most-1, below, most-1)
		sameLater(t, most, below, most, 1)
	}
}

func TestLaterAboutMaxInt(t *testing.T) {
	sameLater(t, most-1, most-1)
	sameLater(t, most, most)
	sameLater(t, most-1, most-2, 1)
	sameLater(t, most, most-1, 1)
	sameLater(t, most, most, 1)
	sameLater(t, most-1, 1<<62-1, 1<<62-1)
	sameLater(t, most, 1<<62-1, 1<<62)
	sameLater(t, most, 1<<62, 1<<62)
	sameLater(t, most-1, 0, most/3, most/3, most/3)
	sameLater(t, most, 1, most/3, most/3, most/3)
	sameLater(t, most, 2, most/3, most/3, most/3)
}

// Sums that come round to a small number, or to one above 0, in 64 bits.
func TestLaterFarAboveMaxInt(t *testing.T) {
	sameLater(t, most, most, most)
	sameLater(t, most, most, most, 2)
	sameLater(t, most, most, most, most)
	sameLater(t, most, 1<<62, 1<<62, 1<<62, 1<<62)
	sameLater(t, most, 0, slices.Repeat([]int{1 << 62}, 9)...)
	sameLater(t, most, 3, slices.Repeat([]int{most}, 1000)...)
}

func TestLaterThatIsAboveInTheMiddle(t *testing.T) {
	for _, n := range edges {
		sameLater(t, most, most, 1, n)
		sameLater(t, most, 5, most, n, n, n)
		sameLater(t, most, 1, 2, most-2, n, 3)
		sameLater(t, most, 1<<62, 1<<62, n, 1<<62)
	}
	sameLater(t, most, 1, most, -1, 5)
	sameLater(t, most, 1, most, least, least)
	sameLater(t, most-1, 1, -1, most-2, -1, least)
}

func TestLaterChangesNothingOfWhatIsGiven(t *testing.T) {
	for _, n := range [][]int{{9, 0, -3, least, 33, 1}, {1, most, -1, 5, most, least}, {-1}, {}} {
		room := append(slices.Clone(n), 71, -72, most, least)
		was := slices.Clone(room)
		for range 2 {
			sameLater(t, later(4, n...), 4, room[:len(n)]...)
		}
		if !slices.Equal(room, was) {
			t.Errorf("a list that was handed in: %v, was %v", room, was)
		}
	}
}

// What is behind the list that is handed in isn't part of it.
func TestLaterOfAPieceOfAList(t *testing.T) {
	n := []int{1, 2, 4, 8, most}
	for i := range n {
		sameLater(t, 1<<i-1, 0, n[:i]...)
	}
	sameLater(t, 6, 0, n[1:3]...)
}

// R1: what is handed in is not kept, and the same calls tell the same.
func TestCallsDoNotTouch(t *testing.T) {
	n := []int{1, 2, 3}
	sameLater(t, 10, 4, n...)
	n[1] = most
	sameLater(t, most, 4, n...)
	n[1] = 0
	for range 3 {
		sameLater(t, 8, 4, n...)
		sameIdle(t, 9, 4, 5)
		sameLimit(t, 2, 2, 4)
		sameKeep(t, 9, 4, 2, 2, false)
		sameKeep(t, 8, 4, 2, 2, true)
	}
}

// 14.3

func TestWhatIsKeptIsKeptWithMoreThatIsFree(t *testing.T) {
	rising := slices.Sorted(slices.Values(edges))
	for _, clock := range edges {
		for _, stamp := range edges {
			for _, rate := range edges {
				kept := false
				for _, free := range rising {
					is := soft.Keep(clock, stamp, free, rate)
					if kept && !is {
						t.Fatalf("Keep(%d, %d, %d, %d): false, but true with less that is free", clock, stamp, free, rate)
					}
					kept = is
				}
			}
		}
	}
}

// Each one more that is free, over the products that wrap round in 64 bits.
func TestWhatIsKeptIsKeptWithOneMoreThatIsFree(t *testing.T) {
	for _, at := range []int{0, 1 << 31, 1 << 32, 3037000500, most / 9, most / 5, most / 3, 1 << 62, most - 200} {
		for _, rate := range []int{0, 1, 2, 3, 5, 9, 1 << 31, 1 << 32, 3037000500, most} {
			for _, clock := range []int{0, 100, 1 << 40, 1 << 62, most - 1, most} {
				kept := false
				for free := max(at-100, 0); free < at+100; free++ {
					is := soft.Keep(clock, 0, free, rate)
					if kept && !is {
						t.Fatalf("Keep(%d, 0, %d, %d): false, but true with one less that is free", clock, free, rate)
					}
					kept = is
				}
			}
		}
	}
}

// The more that is free the longer, up to where it goes no longer.
func TestALimitIsNoLessWithMore(t *testing.T) {
	rising := slices.Sorted(slices.Values(edges))
	for _, n := range edges {
		for i, free := range rising[1:] {
			less, more := soft.Limit(rising[i], n), soft.Limit(free, n)
			if less > more || less < 0 || more > api.MaxInt {
				t.Errorf("Limit(%d, %d): %d, Limit(%d, %d): %d", rising[i], n, less, free, n, more)
			}
		}
	}
}

// Ways

func TestLaterIsVariadic(t *testing.T) {
	of := reflect.TypeOf(soft.Later)
	if !of.IsVariadic() || of.NumIn() != 2 || of.NumOut() != 1 {
		t.Errorf("Later is %v", of)
	}
}

// The document's example.
func TestExample(t *testing.T) {
	sameLimit(t, api.MaxInt, 2, api.MaxInt)
}
