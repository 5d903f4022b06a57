package clock

import "testimony/api"

// fault is what is wrong with a step, whatever the others are.
func fault(s Step) api.Errno {
	switch {
	case s.Proc < 0 || s.Proc >= api.MaxProcs, s.Message < 0 || s.Message > api.MaxNumber:
		return api.ErrRange
	case s.Kind < Own || s.Kind > Receive, s.Kind == Own && s.Message != 0:
		return api.ErrArg
	}
	return api.OK
}

// mail is what was done last to each message: Send or Receive. Of a message that was not sent there is nothing.
type mail map[int]int

// pass takes a step down, or tells why that message can't be sent or received now.
func (all mail) pass(s Step) api.Errno {
	done, sent := all[s.Message]
	switch {
	case s.Kind == Own:
		return api.OK
	case s.Kind == Send && sent, s.Kind == Receive && done == Receive:
		return api.ErrTwice
	case s.Kind == Receive && !sent:
		return api.ErrMissing
	}
	all[s.Message] = s.Kind
	return api.OK
}

// sources are, of each step, the numbers of those that it comes straight behind: the one ahead of it of its process, and the one that sent what it receives. All of them are less than its own.
func sources(l []Step) [][]int {
	all := make([][]int, len(l))
	last, sending := map[int]int{}, map[int]int{}
	for n, s := range l {
		if before, there := last[s.Proc]; there {
			all[n] = append(all[n], before)
		}
		last[s.Proc] = n
		switch s.Kind {
		case Send:
			sending[s.Message] = n
		case Receive:
			all[n] = append(all[n], sending[s.Message])
		}
	}
	return all
}
