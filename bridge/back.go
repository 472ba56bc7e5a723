package bridge

import "bridge/api"

// timeout: due by the known header and not received by then, the packet never will be.
func (c *chain) timeout(seq uint64) api.Errno {
	p, there := c.pending[seq]
	switch {
	case !there:
		return api.ErrPacket
	case !due(p, c.known.Height, c.known.Time) || c.known.NextRecv > seq:
		return api.ErrEarly
	}
	c.giveUp(p)
	return api.OK
}

// timeoutClosed: an end that is closed receives nothing more, so the packet need not be due.
func (c *chain) timeoutClosed(seq uint64) api.Errno {
	p, there := c.pending[seq]
	switch {
	case !there:
		return api.ErrPacket
	case c.known.Open:
		return api.ErrOpen
	case c.known.NextRecv > seq:
		return api.ErrEarly
	}
	c.giveUp(p)
	return api.OK
}

// giveUp: a packet that never will be received. The other end waits for its number for good, so nothing sent behind it could be received either.
func (c *chain) giveUp(p api.Packet) {
	c.drop(p.Seq)
	c.comeBack(p)
	c.open = false
}

func (c *chain) comeBack(p api.Packet) {
	c.give(holding{p.From, p.Coin}, p.Amount)
}

func (c *chain) shut() api.Errno {
	if !c.open {
		return api.ErrClosed
	}
	c.open = false
	return api.OK
}

func (c *chain) confirm() api.Errno {
	switch {
	case !c.open:
		return api.ErrClosed
	case c.known.Open:
		return api.ErrOpen
	}
	c.open = false
	return api.OK
}
