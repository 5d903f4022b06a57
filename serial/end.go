package serial

import "testimony/api"

// none stands for a transaction that there isn't.
const none = -1

// end is where a transaction commits, and where it aborts: behind all steps, if it doesn't.
type end struct{ commit, abort int }

// ends are those of all transactions.
type ends [api.MaxTx]end

// endsOf are those that some steps tell.
func endsOf(l []Step) ends {
	var all ends
	for tx := range all {
		all[tx] = end{len(l), len(l)}
	}
	for n, s := range l {
		switch s.Kind {
		case Commit:
			all[s.Tx].commit = n
		case Abort:
			all[s.Tx].abort = n
		}
	}
	return all
}

// open is the other transaction, not over yet, whose Write the Read or Write of that number finds. What one that aborted ahead of it wrote is gone.
func (all ends) open(l []Step, n int) int {
	s := l[n]
	if s.Kind >= Commit {
		return none
	}
	for m := n - 1; m >= 0; m-- {
		writer := l[m].Tx
		if l[m].Kind != Write || l[m].Key != s.Key || all[writer].abort < n {
			continue
		}
		if writer == s.Tx || all[writer].commit < n {
			return none
		}
		return writer
	}
	return none
}
