package clock

import "testimony/api"

// paths are, of each process, what it knows behind none, one, two of its steps, and so on. That grows along a path, so that a cut need be asked for the last step of each process alone.
type paths [api.MaxProcs][]Vector

// pathsOf are those of some steps.
func pathsOf(l []Step) (paths, error) {
	vectors, err := Vectors(l)
	if err != nil {
		return paths{}, err
	}
	var known paths
	for p := range known {
		known[p] = make([]Vector, 1)
	}
	for n, s := range l {
		known[s.Proc] = append(known[s.Proc], vectors[n])
	}
	return known, nil
}

// pathsTo are those of some steps, among which that cut can be made.
func pathsTo(l []Step, c Cut) (paths, error) {
	known, err := pathsOf(l)
	if err != nil {
		return paths{}, err
	}
	for p, n := range c {
		if n < 0 || n >= len(known[p]) {
			return paths{}, api.ErrRange
		}
	}
	return known, nil
}

// steady says whether all that is known in a cut is in it.
func (known paths) steady(c Cut) bool {
	for p, n := range c {
		if !known[p][n].Within(c) {
			return false
		}
	}
	return true
}

// cuts is how many there are, steady or not.
func (known paths) cuts() int {
	product := 1
	for _, path := range known {
		product *= len(path)
	}
	return product
}

// steadyCuts is how many there are.
func (known paths) steadyCuts() int {
	count := 0
	var c Cut
	var try func(p int)
	try = func(p int) {
		if p < len(c) {
			for n := range known[p] {
				c[p] = n
				try(p + 1)
			}
			return
		}
		if known.steady(c) {
			count++
		}
	}
	try(0)
	return count
}

// below takes the last step of a process out while it knows what is not in the cut: no steady cut within this one has it. One that was fine may know it, so that all are asked anew.
func (known paths) below(c Cut) Cut {
anew:
	for {
		for p, n := range c {
			if !known[p][n].Within(c) {
				c[p]--
				continue anew
			}
		}
		return c
	}
}
