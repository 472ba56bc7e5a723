package bridge

import "bridge/api"

// answer: what became of a packet that was received.
type answer int

const (
	credited answer = iota + 1
	notCredited
)

// end: a chain's end of the channel.
type end struct {
	open               bool
	nextSend, nextRecv uint64
	pending            map[uint64]api.Packet
	news               // since the newest header
}

func newEnd() end {
	return end{open: true, nextSend: 1, nextRecv: 1, pending: map[uint64]api.Packet{}}
}

// post: the packet is pending, under the number that is answered.
func (e *end) post(p api.Packet) uint64 {
	p.Seq = e.nextSend
	e.nextSend++
	e.pending[p.Seq] = p
	e.sent = append(e.sent, p)
	return p.Seq
}

// drop: the packet is pending no more.
func (e *end) drop(seq uint64) {
	delete(e.pending, seq)
	e.gone = append(e.gone, seq)
}

// reply: the answer to the packet whose turn it is; the next one's turn comes.
func (e *end) reply(a answer) {
	e.nextRecv++
	e.answers = append(e.answers, a)
}

// earlier: is a packet of a lower number pending?
func (e *end) earlier(seq uint64) bool {
	for k := range e.pending {
		if k < seq {
			return true
		}
	}
	return false
}
