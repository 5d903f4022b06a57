package serial

import (
	"maps"
	"slices"
)

// view is what is to be seen of some steps, by their numbers: of each Read the Write that it reads from, and of each key the Write that is last. Where there is none, there is nothing.
type view struct{ reads, last map[int]int }

// viewOf is that of steps which are done in the order of these numbers.
func viewOf(done []Step, numbers []int) view {
	v := view{reads: map[int]int{}, last: map[int]int{}}
	for _, n := range numbers {
		key := done[n].Key
		if done[n].Kind == Write {
			v.last[key] = n
		} else if write, written := v.last[key]; written {
			v.reads[n] = write
		}
	}
	return v
}

// same says whether two views, of the same steps, are the same.
func (v view) same(w view) bool {
	return maps.Equal(v.reads, w.reads) && maps.Equal(v.last, w.last)
}

// mixed are the numbers of steps as they stand.
func mixed(done []Step) []int {
	numbers := make([]int, len(done))
	for n := range numbers {
		numbers[n] = n
	}
	return numbers
}

// apart are the numbers of steps transaction by transaction.
func apart(done []Step, order []int) []int {
	numbers := make([]int, 0, len(done))
	for _, tx := range order {
		for n, s := range done {
			if s.Tx == tx {
				numbers = append(numbers, n)
			}
		}
	}
	return numbers
}

// firstOrder is the first order of some numbers, which rise, that fits; ok: there is one.
func firstOrder(all []int, fits func(order []int) bool) (order []int, ok bool) {
	var try func() bool
	try = func() bool {
		if len(order) == len(all) {
			return fits(order)
		}
		for _, n := range all {
			if slices.Contains(order, n) {
				continue
			}
			order = append(order, n)
			if try() {
				return true
			}
			order = order[:len(order)-1]
		}
		return false
	}
	ok = try()
	return order, ok
}
