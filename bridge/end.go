package bridge

import (
	"maps"

	"bridge/api"
)

// answer: what became of a packet that was received.
type answer int

const (
	credited answer = iota + 1
	notCredited
)

// end: a chain's end of the channel.
type end struct {
	open               bool
	nextSend, nextRecv uint64
	pending            map[uint64]api.Packet
	answers            map[uint64]answer
	told               bool // the newest header has these very maps
}

func newEnd() end {
	return end{open: true, nextSend: 1, nextRecv: 1, pending: map[uint64]api.Packet{}, answers: map[uint64]answer{}}
}

// part: called ahead of each change of the maps. What a header says stays as it was, so the end goes on with a copy; it is made here and not with each header, because most headers come without a change between.
func (e *end) part() {
	if !e.told {
		return
	}
	e.pending, e.answers = maps.Clone(e.pending), maps.Clone(e.answers)
	e.told = false
}

// post: the packet is pending, under the number that is answered.
func (e *end) post(p api.Packet) uint64 {
	e.part()
	p.Seq = e.nextSend
	e.nextSend++
	e.pending[p.Seq] = p
	return p.Seq
}
