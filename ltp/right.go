package ltp

import (
	"heliograph/api"
	"heliograph/receiver"
	"heliograph/sender"
)

const (
	maxBoot  = 65535
	maxWait  = 4096
	maxTries = 16
	maxLife  = 65536
)

func isNode(n int) bool {
	return within(n, 1, api.MaxNodes)
}

// isPeer answers whether a node can have sessions with n.
func isPeer(node, n int) bool {
	return isNode(n) && n != node
}

func rightRules(r api.Rules) bool {
	return within(r.Wait, 1, maxWait) && within(r.Tries, 1, maxTries) && within(r.Life, 1, maxLife)
}

func rightOut(l api.Ltp) bool {
	if len(l.Out) > api.MaxSessions {
		return false
	}
	for _, o := range l.Out {
		s := o.Sending
		if !isPeer(l.Node, o.To) || sender.Check(s) != api.OK || ended(s.State) ||
			s.Source != l.Node || s.Wait != l.Rules.Wait || s.Tries != l.Rules.Tries {
			return false
		}
	}
	return true
}

func rightIn(l api.Ltp) bool {
	if len(l.In) > api.MaxSessions {
		return false
	}
	for _, s := range l.In {
		if receiver.Check(s) != api.OK || ended(s.State) || s.Life != l.Rules.Life || !isPeer(l.Node, s.Source) {
			return false
		}
	}
	return true
}

func rightClosed(l api.Ltp) bool {
	if len(l.Closed) > api.MaxClosed {
		return false
	}
	for _, c := range l.Closed {
		if !isPeer(l.Node, c.Source) || c.Session == 0 || !within(c.Total, 1, api.MaxBlock) {
			return false
		}
	}
	return true
}

// rightKeys answers whether each session can be told from the others by its key. It goes through all pairs: the lists are known to be short by then.
func rightKeys(l api.Ltp) bool {
	taken := append(keys(l.In, keyIn), keys(l.Closed, keyClosed)...)
	return apart(keys(l.Out, numberOut)) && apart(taken)
}

func within(x, least, greatest int) bool {
	return least <= x && x <= greatest
}
