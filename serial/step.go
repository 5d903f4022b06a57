package serial

import "testimony/api"

// fault is what is wrong with a step, whatever the others are.
func fault(s Step) api.Errno {
	switch {
	case !isTx(s.Tx), s.Key < 0 || s.Key >= api.MaxKeys:
		return api.ErrRange
	case s.Kind < Read || s.Kind > Abort, s.Kind >= Commit && s.Key != 0:
		return api.ErrArg
	}
	return api.OK
}

// isTx says whether a transaction may have that number.
func isTx(tx int) bool { return tx >= 0 && tx < api.MaxTx }

// committed says of each transaction whether it has a Commit, whatever else stands there: Done is asked of steps that Check did not see, too.
func committed(l []Step) [api.MaxTx]bool {
	var commits [api.MaxTx]bool
	for _, s := range l {
		if s.Kind == Commit && isTx(s.Tx) {
			commits[s.Tx] = true
		}
	}
	return commits
}

// clash says whether two Reads or Writes do.
func clash(a, b Step) bool {
	return a.Tx != b.Tx && a.Key == b.Key && (a.Kind == Write || b.Kind == Write)
}
