package tests

import (
	"math"
	"testing"

	"loop.example/g00516/impl"
)

func TestEqualInts(t *testing.T) {
	cases := []struct {
		a, b []int
		want bool
	}{
		{nil, nil, true},
		{nil, []int{}, true},
		{[]int{}, []int{}, true},
		{nil, []int{0}, false},
		{[]int{5}, []int{5}, true},
		{[]int{5}, []int{-5}, false},
		{[]int{5, 300}, []int{5, 300}, true},
		{[]int{5, 300}, []int{300, 5}, false},
		{[]int{5, 300}, []int{5, 301}, false},
		{[]int{5, 300}, []int{6, 300}, false},
		{[]int{5, 300}, []int{5}, false},
		{[]int{5, 300}, []int{5, 300, 0}, false},
		{[]int{math.MinInt, math.MaxInt}, []int{math.MinInt, math.MaxInt}, true},
		{[]int{1}, []int{1 + 1<<32}, false},
	}
	for _, c := range cases {
		if impl.EqualInts(c.a, c.b) != c.want || impl.EqualInts(c.b, c.a) != c.want {
			t.Errorf("EqualInts of %v and %v is not %v in both orders", c.a, c.b, c.want)
		}
	}
}
