package bridge

import "bridge/api"

// update: others are headers of the other chain, one for each height, from one that is not above the known one on. Those between are learned of too, because each says only what was new.
func (c *chain) update(height uint64, others []header) api.Errno {
	from := others[0].Height
	if height <= c.known.Height || height-from >= uint64(len(others)) {
		return api.ErrHeader
	}
	for _, h := range others[c.known.Height+1-from : height+1-from] {
		c.known.learn(h)
	}
	return api.OK
}

func (c *chain) receive(seq uint64) api.Errno {
	p, there := c.known.packets[seq]
	switch {
	case !c.open:
		return api.ErrClosed
	case seq != c.nextRecv:
		return api.ErrOrder
	case !there:
		return api.ErrPacket
	case due(p, c.height, c.time):
		return api.ErrLate
	}
	if !account(p.To) {
		c.reply(notCredited)
		return api.OK
	}
	c.give(holding{p.To, p.Coin}, p.Amount)
	c.reply(credited)
	return api.OK
}

func (c *chain) acknowledge(seq uint64) api.Errno {
	p, there := c.pending[seq]
	a, seen := c.known.answers[seq]
	switch {
	case !there:
		return api.ErrPacket
	case c.earlier(seq):
		return api.ErrOrder
	case !seen:
		return api.ErrAck
	}
	c.drop(seq)
	if a == notCredited {
		c.comeBack(p)
	}
	return api.OK
}

// due: a height or a time of 0 is none, not one that has passed long ago.
func due(p api.Packet, height, time uint64) bool {
	return p.Height > 0 && p.Height <= height || p.Time > 0 && p.Time <= time
}
