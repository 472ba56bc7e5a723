package bridge

import (
	"slices"

	"bridge/api"
)

// news: what has become of packets since a header.
type news struct {
	sent    []api.Packet
	gone    []uint64 // numbers of packets that are pending no more
	answers []answer // to the packets that have been received, in their order
}

// handOn: by copy, because the end goes on with the room that its lists have.
func (n *news) handOn() news {
	out := news{slices.Clone(n.sent), slices.Clone(n.gone), slices.Clone(n.answers)}
	n.sent, n.gone, n.answers = n.sent[:0], n.gone[:0], n.answers[:0]
	return out
}

// header: what a chain said of itself when it reached a height: in short, and what was new then. With all the packets and answers of its height in each, the headers would soon be more than the chain. Nobody writes into its lists.
type header struct {
	api.Head
	news // since the header before
}

// tell: the header of the chain as it is now.
func (c *chain) tell() header {
	return header{
		Head: api.Head{
			Height:   c.height,
			Time:     c.time,
			Open:     c.open,
			NextRecv: c.nextRecv,
			Packets:  len(c.pending),
			Answers:  int(c.nextRecv - 1), // one to each packet that has been received
		},
		news: c.handOn(),
	}
}

// view: a chain as one of its headers says that it is, with all the packets and answers of its height.
type view struct {
	api.Head
	packets map[uint64]api.Packet // pending
	answers map[uint64]answer
}

func newView(first header) view {
	return view{Head: first.Head, packets: map[uint64]api.Packet{}, answers: map[uint64]answer{}}
}

// learn: of the next header. What was sent comes ahead of what is gone, as one packet may be both.
func (v *view) learn(h header) {
	for _, p := range h.sent {
		v.packets[p.Seq] = p
	}
	for _, seq := range h.gone {
		delete(v.packets, seq)
	}
	for k, a := range h.answers {
		v.answers[v.NextRecv+uint64(k)] = a
	}
	v.Head = h.Head
}
