package linear_test

import (
	"slices"
	"testing"

	"testimony/api"
	"testimony/linear"
)

type searchCase struct {
	name   string
	object int
	ops    []api.Op
	budget int
	want   linear.Verdict
}

func valid(entered int, order ...int) linear.Verdict {
	return linear.Verdict{Code: linear.Valid, Order: order, Entered: entered}
}

func invalid(entered int) linear.Verdict {
	return linear.Verdict{Code: linear.Invalid, Entered: entered}
}

func unknown(entered int) linear.Verdict {
	return linear.Verdict{Code: linear.Unknown, Entered: entered}
}

type judge func(object int, ops []api.Op, budget int) (linear.Verdict, error)

func checkSearch(t *testing.T, ask judge, cases []searchCase) {
	t.Helper()
	for _, c := range cases {
		got, err := ask(c.object, c.ops, c.budget)
		if err != nil || !sameVerdict(got, c.want) {
			t.Errorf("%s, budget %d: %v, %v, not %v", c.name, c.budget, got, err, c.want)
		}
	}
}

func sameVerdict(a, b linear.Verdict) bool {
	return a.Code == b.Code && a.Entered == b.Entered && slices.Equal(a.Order, b.Order)
}

// twoWrites are two writes at the same time, then a read.
func twoWrites(first, second, read int) []api.Op {
	return []api.Op{
		done(0, api.Write, first, 0, 0, 3),
		done(1, api.Write, second, 0, 1, 2),
		done(0, api.Read, 0, read, 4, 5),
	}
}

// 3.3: the search goes from state to state in order of ops; what it entered can be told by hand.
func TestCheck(t *testing.T) {
	write := done(0, api.Write, 1, 0, 0, 1)
	checkSearch(t, linear.Check, []searchCase{
		{"nothing", api.Register, nil, 100, valid(0)},
		{"the document's example", api.Register, []api.Op{write, done(1, api.Read, 0, 1, 2, 3)}, 100, valid(2, 0, 1)},
		{"its other one", api.Register, []api.Op{write, done(1, api.Read, 0, 2, 2, 3)}, 100, invalid(2)},
		{"an old value", api.Register, []api.Op{write, done(1, api.Read, 0, 0, 2, 3)}, 100, invalid(2)},
		{"an old value at the same time", api.Register, []api.Op{done(0, api.Write, 1, 0, 0, 2), done(1, api.Read, 0, 0, 1, 3)}, 100, valid(3, 1, 0)},
		{"wrong at once", api.Register, []api.Op{done(0, api.Read, 0, 1, 0, 1), done(0, api.Write, 1, 0, 2, 3)}, 100, invalid(1)},
		{"the first order", api.Register, twoWrites(1, 2, 2), 100, valid(3, 0, 1, 2)},
		{"the second order", api.Register, twoWrites(1, 2, 1), 100, valid(5, 1, 0, 2)},
		{"no order", api.Register, twoWrites(1, 2, 3), 100, invalid(5)},
		{"a state that was entered ahead", api.Register, twoWrites(1, 1, 2), 100, invalid(4)},
	})
}

// 3.3: which of the rules of a state comes first.
func TestCheckBudget(t *testing.T) {
	checkSearch(t, linear.Check, []searchCase{
		{"all are done ahead of all", api.Register, nil, 0, valid(0)},
		{"those with an end are", api.Register, []api.Op{open(0, api.Write, 1, 0)}, 0, valid(0)},
		{"none is entered", api.Register, twoWrites(1, 2, 1), 0, unknown(0)},
		{"one is", api.Register, twoWrites(1, 2, 1), 1, unknown(1)},
		{"it is over, not gone on with elsewhere", api.Register, twoWrites(1, 2, 1), 2, unknown(2)},
		{"one too few", api.Register, twoWrites(1, 2, 1), 4, unknown(4)},
		{"all are done though no more is entered", api.Register, twoWrites(1, 2, 1), 5, valid(5, 1, 0, 2)},
		{"one too few of what is invalid", api.Register, twoWrites(1, 2, 3), 4, unknown(4)},
		{"as many as it takes", api.Register, twoWrites(1, 2, 3), 5, invalid(5)},
		{"entered ahead though no more is entered", api.Register, twoWrites(1, 1, 2), 4, invalid(4)},
		{"the same, one too few", api.Register, twoWrites(1, 1, 2), 3, unknown(3)},
		{"the most", api.Register, twoWrites(1, 1, 2), api.MaxBudget, invalid(4)},
	})
}

// 3.3: what is not known may be done or not, at any time behind its call, and told anything.
func TestCheckNotKnown(t *testing.T) {
	read := func(result, call int) api.Op { return done(1, api.Read, 0, result, call, call+1) }
	checkSearch(t, linear.Check, []searchCase{
		{"late", api.Register, []api.Op{open(0, api.Write, 1, 0), read(0, 1), read(1, 3)}, 100, valid(4, 1, 0, 2)},
		{"late, and never back", api.Register, []api.Op{open(0, api.Write, 1, 0), read(1, 1), read(0, 3)}, 100, invalid(3)},
		{"not at all", api.Register, []api.Op{open(0, api.Write, 1, 0), read(0, 1)}, 100, valid(2, 1)},
		{"first, where it may be", api.Register, []api.Op{open(0, api.Write, 0, 0), read(0, 1)}, 100, valid(2, 0, 1)},
		{"behind all that came to an end", api.Register, []api.Op{read(0, 0), open(0, api.Write, 1, 2)}, 100, valid(1, 0)},
		{"not ahead of its call", api.Register, []api.Op{read(1, 0), open(0, api.Write, 1, 2)}, 100, invalid(1)},
		{"told anything", api.Counter, []api.Op{open(0, api.Add, 2, 0), done(1, api.Get, 0, 2, 1, 2)}, 100, valid(2, 0, 1)},
		{"all are", api.Queue, []api.Op{open(0, api.Push, 1, 0), open(1, api.Pop, 0, 1)}, 100, valid(0)},
		{"can't be done yet", api.Mutex, []api.Op{open(0, api.Unlock, 0, 0), done(1, api.Lock, 0, 0, 1, 2), done(2, api.Lock, 0, 0, 3, 4)}, 100, valid(3, 1, 0, 2)},
	})
}

// 3.3: each object, and what it is told.
func TestCheckObjects(t *testing.T) {
	swap := func(a, b, result, call int) api.Op {
		return api.Op{Kind: api.Swap, A: a, B: b, Result: result, Call: call, Return: call + 1}
	}
	checkSearch(t, linear.Check, []searchCase{
		{"register", api.Register, []api.Op{swap(0, 4, 1, 0), swap(0, 5, 0, 2), done(0, api.Read, 0, 4, 4, 5)}, 100, valid(3, 0, 1, 2)},
		{"counter", api.Counter, []api.Op{done(0, api.Add, 2, 5, 0, 3), done(1, api.Add, 3, 3, 1, 2), done(0, api.Get, 0, 5, 4, 5)}, 100, valid(3, 1, 0, 2)},
		{"set", api.Set, []api.Op{done(0, api.Put, 2, 0, 0, 3), done(1, api.Put, 2, 1, 1, 2), done(0, api.Has, 2, 1, 4, 5)}, 100, valid(3, 1, 0, 2)},
		{"queue", api.Queue, []api.Op{done(0, api.Push, 1, 0, 0, 1), done(0, api.Push, 2, 0, 2, 3), done(0, api.Pop, 0, 1, 4, 5)}, 100, valid(3, 0, 1, 2)},
		{"queue, not as a stack", api.Queue, []api.Op{done(0, api.Push, 1, 0, 0, 1), done(0, api.Push, 2, 0, 2, 3), done(0, api.Pop, 0, 2, 4, 5)}, 100, invalid(3)},
		{"stack", api.Stack, []api.Op{done(0, api.Push, 1, 0, 0, 1), done(0, api.Push, 2, 0, 2, 3), done(0, api.Pop, 0, 2, 4, 5)}, 100, valid(3, 0, 1, 2)},
		{"mutex", api.Mutex, []api.Op{done(0, api.Lock, 0, 0, 0, 1), done(1, api.Lock, 0, 0, 2, 5), done(0, api.Unlock, 0, 0, 3, 4)}, 100, valid(3, 0, 2, 1)},
		{"mutex, locked twice", api.Mutex, []api.Op{done(0, api.Lock, 0, 0, 0, 1), done(1, api.Lock, 0, 0, 2, 3), done(0, api.Unlock, 0, 0, 4, 5)}, 100, invalid(2)},
	})
}

// 3.3: a state is what the object of each key is, not only which ops are done.
func TestCheckStatesApart(t *testing.T) {
	for base := 2; base <= 36; base++ {
		twin := base + 1 // 11 of that base
		ops := []api.Op{
			done(0, api.Push, 1, 0, 0, 2), done(1, api.Push, twin, 0, 1, 3),
			done(0, api.Pop, 0, twin, 4, 5), done(0, api.Pop, 0, 1, 6, 7),
		}
		checkSearch(t, linear.Check, []searchCase{{"the same digits", api.Queue, ops, 100, valid(6, 1, 0, 2, 3)}})
	}
	// What is not known may find nothing: then the same number is in one key's queue or in the other one's.
	keys := []api.Op{
		open(0, api.Pop, 0, 0), at(1, open(1, api.Pop, 0, 1)),
		done(2, api.Push, 5, 0, 2, 3), at(1, done(2, api.Push, 5, 0, 4, 5)),
		done(2, api.Pop, 0, -1, 6, 7), at(1, done(2, api.Pop, 0, 5, 8, 9)),
	}
	checkSearch(t, linear.Check, []searchCase{
		{"the same numbers in another key", api.Queue, keys, 100, valid(13, 1, 2, 0, 3, 4, 5)},
	})
}

// 3.3: keys have objects of their own, but one time.
func TestCheckKeys(t *testing.T) {
	ops := []api.Op{
		at(7, done(0, api.Write, 1, 0, 0, 1)),
		done(1, api.Read, 0, 0, 2, 5),
		at(7, done(0, api.Read, 0, 1, 3, 4)),
	}
	checkSearch(t, linear.Check, []searchCase{{"keys", api.Register, ops, 100, valid(3, 0, 1, 2)}})
	ops[1].Key = 7
	checkSearch(t, linear.Check, []searchCase{{"one key", api.Register, ops, 100, invalid(3)}})
}

// 3.4: each process' own order alone.
func TestSame(t *testing.T) {
	write := done(0, api.Write, 1, 0, 0, 1)
	late := []api.Op{write, done(1, api.Read, 0, 0, 2, 3)}
	own := []api.Op{write, done(0, api.Read, 0, 0, 2, 3)}
	back := []api.Op{write, done(1, api.Read, 0, 1, 2, 3), done(1, api.Read, 0, 0, 4, 5)}
	unsent := []api.Op{done(0, api.Read, 0, 1, 0, 1), open(0, api.Write, 1, 2)}
	sent := []api.Op{done(1, api.Read, 0, 1, 0, 1), open(0, api.Write, 1, 2)}
	checkSearch(t, linear.Same, []searchCase{
		{"nothing", api.Register, nil, 0, valid(0)},
		{"an old value", api.Register, late, 100, valid(3, 1, 0)},
		{"an old value, one too few", api.Register, late, 2, unknown(2)},
		{"an old value, as many as it takes", api.Register, late, 3, valid(3, 1, 0)},
		{"an old value of its own", api.Register, own, 100, invalid(2)},
		{"back", api.Register, back, 100, invalid(3)},
		{"its own call later", api.Register, unsent, 100, invalid(1)},
		{"another one's call later", api.Register, sent, 100, valid(2, 1, 0)},
		{"a state that was entered ahead", api.Register, twoWrites(1, 1, 2), 100, invalid(4)},
		{"another key", api.Register, []api.Op{write, at(1, done(0, api.Read, 0, 0, 2, 3))}, 100, valid(2, 0, 1)},
	})
	checkSearch(t, linear.Check, []searchCase{
		{"an old value", api.Register, late, 100, invalid(2)},
		{"another one's call later", api.Register, sent, 100, invalid(1)},
	})
}

// 3.4: two keys, each of which is well alone, are not together (Herlihy and Wing: it is not local).
func TestSameIsNotLocal(t *testing.T) {
	ops := []api.Op{
		done(0, api.Push, 1, 0, 0, 1),
		at(1, done(1, api.Push, 2, 0, 2, 3)),
		at(1, done(0, api.Push, 1, 0, 4, 5)),
		done(1, api.Push, 2, 0, 6, 7),
		done(0, api.Pop, 0, 2, 8, 9),
		at(1, done(1, api.Pop, 0, 1, 10, 11)),
	}
	for key := range 2 {
		var one []api.Op
		for _, op := range ops {
			if op.Key == key {
				one = append(one, op)
			}
		}
		if v, err := linear.Same(api.Queue, one, 1000); v.Code != linear.Valid || err != nil {
			t.Errorf("key %d: %v, %v", key, v, err)
		}
	}
	if v, err := linear.Same(api.Queue, ops, 1000); v.Code != linear.Invalid || err != nil {
		t.Errorf("together: %v, %v", v, err)
	}
}

// As many ops as there may be, one behind the other, and at the same time as far as there are processes.
func TestCheckMostOps(t *testing.T) {
	var ops []api.Op
	var order []int
	for i := range api.MaxOps {
		ops = append(ops, at(i%api.MaxKeys, done(i%api.MaxProcs, api.Add, api.MaxNumber, 0, 2*i, 2*i+1)))
		ops[i].Result = api.MaxNumber
		if i >= api.MaxKeys {
			ops[i].Kind = api.Get
		}
		order = append(order, i)
	}
	checkSearch(t, linear.Check, []searchCase{{"all", api.Counter, ops, api.MaxBudget, valid(api.MaxOps, order...)}})
	ops[api.MaxOps-1].Result--
	checkSearch(t, linear.Check, []searchCase{{"the last is wrong", api.Counter, ops, api.MaxBudget, invalid(api.MaxOps)}})
}

// P1: a search that enters as many states as it may ends soon.
func TestCheckMostStates(t *testing.T) {
	var ops []api.Op
	for i := range api.MaxOps {
		// Rounds of an op a process: within a round any order may be.
		call := i/api.MaxProcs*2*api.MaxProcs + i%api.MaxProcs
		ops = append(ops, done(i%api.MaxProcs, api.Push, i, 0, call, call+api.MaxProcs))
	}
	last := &ops[api.MaxOps-1]
	last.Kind, last.A, last.Result = api.Pop, 0, 99
	for _, ask := range []judge{linear.Check, linear.Same} {
		checkSearch(t, ask, []searchCase{{"many", api.Queue, ops, api.MaxBudget, unknown(api.MaxBudget)}})
	}
}
