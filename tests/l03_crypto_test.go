package tests

import (
	"math"
	"testing"

	"loop.example/g03006/impl"
)

func TestEqualInts(t *testing.T) {
	cases := []struct {
		a, b []int
		want bool
	}{
		{nil, nil, true}, {nil, []int{}, true}, {[]int{}, nil, true}, {[]int{5, 300}, []int{5, 300}, true}, {[]int{0}, []int{0}, true},
		{[]int{math.MinInt, math.MaxInt}, []int{math.MinInt, math.MaxInt}, true},
		{nil, []int{0}, false}, {[]int{0}, nil, false}, {[]int{5}, []int{5, 0}, false}, {[]int{5, 0}, []int{5}, false},
		{[]int{5, 300}, []int{300, 5}, false}, {[]int{1, 2, 3}, []int{9, 2, 3}, false}, {[]int{1, 2, 3}, []int{1, 2, 9}, false},
		{[]int{1}, []int{-1}, false}, {[]int{0}, []int{256}, false}, {[]int{0}, []int{1 << 32}, false},
	}
	for _, c := range cases {
		if got := impl.EqualInts(c.a, c.b); got != c.want {
			t.Errorf("EqualInts(%v, %v) = %v; want %v", c.a, c.b, got, c.want)
		}
	}
}
