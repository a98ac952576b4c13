package sender

import (
	"heliograph/api"
	"heliograph/segment"
)

const (
	maxWait   = 4096
	maxTries  = 16
	maxSeen   = 32
	maxReason = 255
	maxDue    = api.MaxTick + 65536
)

func rightStart(x api.Start) bool {
	return within(x.Source, 1, api.MaxNodes) && x.Session > 0 && within(len(x.Block), 1, api.MaxBlock) &&
		within(x.Wait, 1, maxWait) && within(x.Tries, 1, maxTries)
}

func rightNumbers(s api.Sending) bool {
	return within(s.State, api.SessionOpen, api.SessionOver) && within(s.Due, 0, maxDue) &&
		within(s.Asked, 0, s.Tries) && within(s.Reason, 0, maxReason)
}

// rightRows takes At from the block's length: At and N together could pass the greatest int.
func rightRows(s api.Sending) bool {
	least := 0
	for _, c := range s.Got {
		if c.At < least || !within(c.N, 1, len(s.Block)-c.At) {
			return false
		}
		least = c.At + c.N + 1
	}
	return true
}

// rightLast answers whether Last is a checkpoint of this block. Once its Total is the block's length no byte of its Data lies behind the block's end.
func rightLast(s api.Sending) bool {
	x := s.Last
	if segment.Check(x) != api.OK || x.Kind != api.SegData || !x.Check || x.Source != s.Source || x.Session != s.Session || x.Total != len(s.Block) {
		goto wrong
	}
	for i, b := range x.Data {
		if s.Block[x.Offset+i] != b {
			goto wrong
		}
	}
	return true
wrong:
	return false
}

func rightSeen(s api.Sending) bool {
	if len(s.Seen) > maxSeen {
		return false
	}
	for _, serial := range s.Seen {
		if serial == 0 {
			return false
		}
	}
	return true
}

func within(x, least, greatest int) bool {
	return least <= x && x <= greatest
}
