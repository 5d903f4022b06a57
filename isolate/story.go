package isolate

import (
	"iter"
	"slices"

	"testimony/api"
)

// nobody stands for who wrote what was there at first.
const nobody = -1

// committing tells, of each transaction of a story, whether it commits.
func committing(s Story) func(tx int) bool {
	return func(tx int) bool { return s.Txs[tx].Commits }
}

// reads are those of transactions that commit, and whose they are.
func reads(s Story) iter.Seq2[int, Op] {
	commits := committing(s)
	return func(yield func(tx int, op Op) bool) {
		for tx := range s.Txs {
			if !commits(tx) {
				continue
			}
			for _, op := range s.Txs[tx].Ops {
				if !op.Write && !yield(tx, op) {
					return
				}
			}
		}
	}
}

// versions are how many each transaction writes of each key.
type versions [api.MaxTx][api.MaxKeys]int

// versionsOf are those of a story, whose ops need not have been checked: a read may be of one that comes later.
func versionsOf(s Story) versions {
	var written versions
	for tx := range s.Txs {
		for _, op := range s.Txs[tx].Ops {
			if op.Write && isKey(op.Key) {
				written[tx][op.Key]++
			}
		}
	}
	return written
}

// isLast says whether a read is of the last version that From writes of the key.
func (written versions) isLast(op Op) bool {
	return op.Number == written[op.From][op.Key]-1
}

// isKey says whether there is such a key.
func isKey(key int) bool { return key >= 0 && key < api.MaxKeys }

// isOther says whether a transaction's read is of what another one wrote.
func isOther(tx int, op Op) bool { return op.From != nobody && op.From != tx }

// checkOps says whether a transaction's ops may be.
func checkOps(s Story, written versions, ops []Op) error {
	if len(ops) > api.MaxSteps {
		return api.ErrLimit
	}
	for _, op := range ops {
		switch {
		case !isKey(op.Key), op.From < nobody || op.From >= len(s.Txs), op.Number < 0:
			return api.ErrRange
		case op.Write && (op.From != 0 || op.Number != 0), op.From == nobody && op.Number != 0:
			return api.ErrArg
		case !op.Write && op.From != nobody && op.Number >= written[op.From][op.Key]:
			return api.ErrMissing
		}
	}
	return nil
}

// checkList says whether a key's list may be: just those that commit and write it.
func checkList(s Story, written versions, key int) error {
	commits, list := committing(s), s.Order[key]
	makes := func(tx int) bool { return commits(tx) && written[tx][key] > 0 }
	for n, tx := range list {
		switch {
		case tx < 0 || tx >= len(s.Txs):
			return api.ErrRange
		case !makes(tx):
			return api.ErrNone
		case slices.Contains(list[:n], tx):
			return api.ErrTwice
		}
	}
	makers := 0
	for tx := range s.Txs {
		if makes(tx) {
			makers++
		}
	}
	if len(list) != makers {
		return api.ErrForm
	}
	return nil
}
