// Package sample makes the inputs that the tests of several layers go through.
package sample

// Lists calls see with all lists of up to n elements of the given ones. They
// share memory: see keeps none.
func Lists[T any](n int, of []T, see func([]T)) {
	grow(nil, n, of, see)
}

// grow calls see with l, and with all longer lists that begin so.
func grow[T any](l []T, n int, of []T, see func([]T)) {
	see(l)
	if len(l) >= n {
		return
	}
	for _, x := range of {
		grow(append(l, x), n, of, see)
	}
}

// Runes calls see with all numbers from one to another one, and with those far off.
func Runes(from, to rune, far []rune, see func(rune)) {
	for r := from; r <= to; r++ {
		see(r)
	}
	for _, r := range far {
		see(r)
	}
}

// Noise returns what returns numbers from 0 on that are below a given one: they
// look like any, and are the same ones each time.
func Noise(seed uint64) func(below int) int {
	return func(below int) int {
		seed = seed*6364136223846793005 + 1442695040888963407
		return int(seed >> 33 % uint64(below))
	}
}

// Pick returns n elements of the given ones, each the one that next tells.
func Pick[T any](next func(below int) int, n int, of []T) []T {
	l := make([]T, n)
	for i := range l {
		l[i] = of[next(len(of))]
	}
	return l
}
