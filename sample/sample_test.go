package sample

import (
	"slices"
	"testing"
)

func TestLists(t *testing.T) {
	var got []string
	Lists(2, []byte("ab"), func(b []byte) { got = append(got, string(b)) })
	want := []string{"", "a", "aa", "ab", "b", "ba", "bb"}
	if !slices.Equal(got, want) {
		t.Errorf("%q, want %q", got, want)
	}
}

func TestListsOfNothing(t *testing.T) {
	times := 0
	count := func(l []int) { times += 1 + len(l) }
	Lists(0, []int{1, 2}, count)
	Lists(3, nil, count)
	if times != 2 {
		t.Errorf("the empty list alone: %d", times)
	}
}

func TestNoise(t *testing.T) {
	a, b, other := Noise(1), Noise(1), Noise(2)
	seen := make([]int, 10)
	same := true
	for range 1000 {
		n := a(10)
		if n != b(10) {
			t.Fatal("not the same ones each time")
		}
		same = other(10) == n && same
		seen[n]++
	}
	if same || slices.Min(seen) < 50 {
		t.Errorf("the same for another seed: %v; how often each: %v", same, seen)
	}
}
