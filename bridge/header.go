package bridge

import "bridge/api"

// header: what a chain said of itself when it reached a height: in short, and the packets and answers themselves. Nobody writes into its maps.
type header struct {
	api.Head
	packets map[uint64]api.Packet // pending then
	answers map[uint64]answer
}

// tell: the header of the chain as it is now.
func (c *chain) tell() header {
	c.told = true
	return header{
		Head: api.Head{
			Height:   c.height,
			Time:     c.time,
			Open:     c.open,
			NextRecv: c.nextRecv,
			Packets:  len(c.pending),
			Answers:  len(c.answers),
		},
		packets: c.pending,
		answers: c.answers,
	}
}
