package sample

import (
	"slices"
	"testing"
)

func TestLists(t *testing.T) {
	var got []string
	Lists(2, []byte("ab"), func(b []byte) { got = append(got, string(b)) })
	want := []string{"", "a", "aa", "ab", "b", "ba", "bb"}
	if !slices.Equal(got, want) {
		t.Errorf("%q, want %q", got, want)
	}
}

func TestListsOfNothing(t *testing.T) {
	times := 0
	count := func(l []int) { times += 1 + len(l) }
	Lists(0, []int{1, 2}, count)
	Lists(3, nil, count)
	if times != 2 {
		t.Errorf("the empty list alone: %d", times)
	}
}

func TestRunes(t *testing.T) {
	var got []rune
	Runes(-2, 1, []rune{7, -9}, func(r rune) { got = append(got, r) })
	want := []rune{-2, -1, 0, 1, 7, -9}
	if !slices.Equal(got, want) {
		t.Errorf("%d, want %d", got, want)
	}
}

func TestPick(t *testing.T) {
	at := 0
	next := func(below int) int { at++; return at % below }
	if got := string(Pick(next, 5, []byte("abc"))); got != "bcabc" {
		t.Errorf("%q", got)
	}
	if got := Pick(next, 0, []byte{}); len(got) != 0 {
		t.Errorf("%q of nothing", got)
	}
}

func TestNoise(t *testing.T) {
	a, b, other := Noise(1), Noise(1), Noise(2)
	seen := make([]int, 10)
	same := true
	for range 1000 {
		n := a(10)
		if n != b(10) {
			t.Fatal("not the same ones each time")
		}
		same = other(10) == n && same
		seen[n]++
	}
	if same || slices.Min(seen) < 50 {
		t.Errorf("the same for another seed: %v; how often each: %v", same, seen)
	}
}
