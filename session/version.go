package session

import (
	"slices"

	"testimony/api"
)

// valueOf is what an op writes or reads.
func valueOf(op api.Op) int {
	if op.Kind == api.Write {
		return op.A
	}
	return op.Result
}

// age is the place of an op's value in its key's list, less than all of them for 0.
func (v Versions) age(op api.Op) int {
	value := valueOf(op)
	if value == 0 {
		return none
	}
	return slices.Index(v[op.Key], value)
}

// fallsBack says whether two ops are of one process and key, and the second one's value is older than the first one's.
func (v Versions) fallsBack(first, second api.Op) bool {
	return first.Proc == second.Proc && first.Key == second.Key && v.age(second) < v.age(first)
}

// nameOf is what one may rely on between two ops of these kinds.
func nameOf(first, second int) int {
	switch {
	case first == api.Write && second == api.Read:
		return OwnWrites
	case first == api.Read && second == api.Read:
		return Reads
	case first == api.Write && second == api.Write:
		return Writes
	}
	return AfterReads
}
