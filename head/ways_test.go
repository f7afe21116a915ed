package head

import (
	"math"
	"reflect"
	"testing"
)

func TestWithinIsVariadic(t *testing.T) {
	if !reflect.TypeOf(within).IsVariadic() {
		t.Error("within is not variadic")
	}
}

func TestWithinOfEachBound(t *testing.T) {
	in := bound{2, 1, 3}
	for _, bounds := range [][]bound{nil, {}, {in}, {{1, 1, 3}}, {{3, 1, 3}}, {{0, 0, 0}}, {in, in, in}, {{math.MinInt, math.MinInt, math.MaxInt}}, {{math.MaxInt, 0, math.MaxInt}}} {
		if !within(bounds...) {
			t.Errorf("within(%v...): false", bounds)
		}
	}
	for _, out := range []bound{{0, 1, 3}, {4, 1, 3}, {-1, 0, 0}, {1, 0, 0}, {2, 3, 1}, {math.MinInt, 0, 0}, {math.MaxInt, 0, 0}} {
		for _, bounds := range [][]bound{{out}, {out, in, in}, {in, out, in}, {in, in, out}, {out, out}} {
			if within(bounds...) {
				t.Errorf("within(%v...): true", bounds)
			}
		}
	}
}
