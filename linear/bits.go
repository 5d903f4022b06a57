package linear

import "testimony/api"

// Some of a list's ops are the bits of a number: no list has more than MaxOps, which are fewer than 64.

func bit(n int) uint64 { return 1 << n }

func has(some uint64, n int) bool { return some&bit(n) != 0 }

// covers says whether all of part are among some.
func covers(some, part uint64) bool { return part&^some == 0 }

// ended are the ops that came to their ends.
func ended(ops []api.Op) uint64 {
	var some uint64
	for n, op := range ops {
		if op.Return >= 0 {
			some |= bit(n)
		}
	}
	return some
}
