package desk

import (
	"strconv"

	"testimony/api"
)

// throw throws what is wrong, if anything is.
func throw(wrong error) {
	if wrong != nil {
		panic(wrong)
	}
}

// sure is an answer, if nothing is wrong with it.
func sure[T any](answer T, wrong error) T {
	throw(wrong)
	return answer
}

// faultText is how a line is answered with which something is wrong.
func faultText(wrong error) string {
	return "error " + strconv.Itoa(int(api.Tell(wrong)))
}

// numbers are some as words.
func numbers(l ...int) []string {
	var words []string
	for _, n := range l {
		words = append(words, strconv.Itoa(n))
	}
	return words
}

// named is a word, and numbers behind it.
func named(name string, l []int) []string {
	return append([]string{name}, numbers(l...)...)
}
