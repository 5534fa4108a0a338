package heap_test

import (
	"math"
	"math/rand/v2"
	"slices"
	"testing"

	"croft/heap"
	"croft/wide"
)

func rising() []heap.Item {
	var l []heap.Item
	for _, d := range []wide.Dist{{}, {Lo: 5}, {Lo: math.MaxUint64}, {Hi: 1}, {Hi: 2, Lo: 1}, {Hi: math.MaxUint64, Lo: 7}} {
		for _, order := range []int{math.MinInt, -1, 0, 3, math.MaxInt} {
			for _, id := range []int{math.MinInt, 0, 1, math.MaxInt} {
				l = append(l, heap.Item{Dist: d, Order: order, Id: id})
			}
		}
	}
	return l
}

func TestP21_1Less(t *testing.T) {
	l := rising()
	for i, a := range l {
		for k, b := range l {
			if heap.Less(a, b) != (i < k) {
				t.Fatalf("Less(%v, %v): %v", a, b, i >= k)
			}
		}
	}
}

func TestP21_1Heap(t *testing.T) {
	r := rand.New(rand.NewPCG(21, 1))
	var h heap.Heap
	var want []heap.Item
	all := rising()
	for range 5000 {
		if r.IntN(9) < 5 {
			x := all[r.IntN(len(all))]
			h.Push(x)
			at := slices.IndexFunc(want, func(y heap.Item) bool { return heap.Less(x, y) })
			if at < 0 {
				at = len(want)
			}
			want = slices.Insert(want, at, x)
		} else {
			x, ok := h.Pop()
			if ok != (len(want) > 0) || ok && x != want[0] || !ok && x != (heap.Item{}) {
				t.Fatalf("Pop: %v, %v", x, ok)
			}
			if ok {
				want = want[1:]
			}
		}
		if h.Len() != len(want) {
			t.Fatalf("Len: %d, want %d", h.Len(), len(want))
		}
	}
}

func TestP21_1Nothing(t *testing.T) {
	var zero heap.Heap
	for _, h := range []*heap.Heap{nil, &zero, {}} {
		if x, ok := h.Pop(); ok || x != (heap.Item{}) || h.Len() != 0 {
			t.Errorf("of nothing: %v", x)
		}
	}
	var none *heap.Heap
	none.Push(heap.Item{Id: 1})
	if x, ok := none.Pop(); ok || x != (heap.Item{}) || none.Len() != 0 {
		t.Error("nil takes something")
	}
}

func TestP21_1Sorted(t *testing.T) {
	want := rising()
	want = slices.Insert(want, 5, want[5], want[5])
	l := slices.Clone(want)
	r := rand.New(rand.NewPCG(21, 2))
	for range 20 {
		r.Shuffle(len(l), func(i, k int) { l[i], l[k] = l[k], l[i] })
		if got := heap.Sorted(l); !slices.Equal(got, want) {
			t.Fatalf("Sorted: %v", got)
		}
	}
	if len(heap.Sorted(nil)) != 0 {
		t.Error("Sorted of nothing")
	}
}

func TestP21_2Memory(t *testing.T) {
	l := []heap.Item{{Id: 2}, {Id: 1}}
	got := heap.Sorted(l)
	got[0].Id = 9
	if l[0].Id != 2 || l[1].Id != 1 {
		t.Error("what was handed in is changed")
	}
}
