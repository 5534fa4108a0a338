package nmap_test

import (
	"math"
	"slices"
	"testing"

	"croft/api"
	"croft/nmap"
)

func entries(l ...int) []api.Entry {
	var all []api.Entry
	for i := 0; i < len(l); i += 2 {
		all = append(all, api.Entry{Kind: l[i], Id: l[i+1]})
	}
	return all
}

func TestP17_1Set(t *testing.T) {
	var m [api.Ids]int
	for _, id := range []int{0, -1, 256, math.MinInt, math.MaxInt} {
		if nmap.Set(m, id, 7) != m {
			t.Errorf("Set(%d) changes something", id)
		}
	}
	for _, id := range []int{1, 9, 255} {
		for _, at := range []int{1, 65536, -4, 0} {
			want := m
			want[id] = at
			if nmap.Set(m, id, at) != want {
				t.Errorf("Set(%d, %d)", id, at)
			}
		}
	}
}

func TestP17_1Ids(t *testing.T) {
	var m [api.Ids]int
	if len(nmap.Ids(m)) != 0 {
		t.Error("Ids of an empty map")
	}
	m[0], m[1], m[7], m[255], m[100] = 5, 5, -1, 9, 9
	if got := nmap.Ids(m); !slices.Equal(got, []int{1, 7, 100, 255}) {
		t.Errorf("Ids: %v", got)
	}
}

func TestP17_1Apply(t *testing.T) {
	var m [api.Ids]int
	m[3], m[4] = 30, 40
	if got, ok := nmap.Apply(m, nil, nil); got != m || !ok {
		t.Error("Apply of nothing")
	}
	got, ok := nmap.Apply(m, entries(1, 5, 2, 3, 1, 255, 2, 9, 1, 5), []int{50, 70, 51})
	want := m
	want[3], want[5], want[255] = 0, 51, 70
	if got != want || !ok {
		t.Errorf("Apply: %v, %v", got, ok)
	}
	got, ok = nmap.Apply(m, entries(1, 5, 2, 5), []int{50})
	if got != m || !ok {
		t.Errorf("Apply of what is gone again: %v, %v", got, ok)
	}
}

func TestP17_1ApplyOfMany(t *testing.T) {
	var m, want [api.Ids]int
	var l []api.Entry
	var at []int
	for i := 1; i < 256; i++ {
		l = append(l, api.Entry{Kind: 1, Id: i})
		at = append(at, 1000+i)
		want[i] = 1000 + i
	}
	if got, ok := nmap.Apply(m, l, at); got != want || !ok {
		t.Error("Apply of more entries than a summary has")
	}
}

func TestP17_1ApplyErrors(t *testing.T) {
	var m [api.Ids]int
	m[3] = 30
	for _, x := range []struct {
		l  []api.Entry
		at []int
	}{
		{nil, []int{1}}, {entries(1, 1), nil}, {entries(1, 1), []int{1, 2}}, {entries(2, 1), []int{1}}, {entries(1, 1, 1, 2), []int{1}},
		{entries(0, 1), nil}, {entries(3, 1), nil}, {entries(3, 1), []int{1}}, {entries(1, 0), []int{1}}, {entries(1, 256), []int{1}}, {entries(2, -1), nil},
		{entries(2, 3, 2, math.MaxInt), nil}, {entries(1, 3, 1, math.MinInt), []int{1, 2}},
	} {
		if got, ok := nmap.Apply(m, x.l, x.at); got != m || ok {
			t.Errorf("Apply(%v, %v): %v", x.l, x.at, ok)
		}
	}
}

func TestP17_1Apart(t *testing.T) {
	var m [api.Ids]int
	if !nmap.Apart(m) {
		t.Error("Apart of an empty map")
	}
	m[1], m[2], m[255] = 9, 10, 11
	if !nmap.Apart(m) {
		t.Error("Apart of three sectors")
	}
	m[200] = 9
	if nmap.Apart(m) {
		t.Error("Apart of two nodes in one sector")
	}
	m[200] = 0
	m[254] = 11
	if nmap.Apart(m) {
		t.Error("Apart of the last two in one sector")
	}
}

func TestP17_2Memory(t *testing.T) {
	var m [api.Ids]int
	m[3] = 30
	l, at := entries(1, 5), []int{50}
	nmap.Apply(m, l, at)
	nmap.Set(m, 3, 9)
	if m[3] != 30 || m[5] != 0 || l[0].Id != 5 || at[0] != 50 {
		t.Error("what was handed in is changed")
	}
	nmap.Ids(m)[0] = 77
	if nmap.Ids(m)[0] != 3 {
		t.Error("an answer shares")
	}
}
