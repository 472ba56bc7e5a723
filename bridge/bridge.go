// Package bridge: two chains, and a channel between them: see DOC.md.
package bridge

import (
	"sync/atomic"

	"bridge/api"
)

// Bridge: two chains.
type Bridge struct {
	chains [2]chain
	taken  atomic.Int64 // both chains count here, also when they run at the same time
}

// New: two chains, whose accounts have so many coins each (P2).
func New(coins uint64) (*Bridge, api.Errno) {
	if coins > api.MaxCoins {
		return nil, api.ErrAmount
	}
	b := &Bridge{chains: [2]chain{newChain(0, coins), newChain(1, coins)}}
	for c := range b.chains {
		b.chains[c].known = newView(b.chains[1-c].headers[0])
	}
	return b, api.OK
}

// find: the chain of that number, or nil. A bridge that New did not make has none, so that its calls end in an error and not in a panic.
func (b *Bridge) find(c int) *chain {
	if b == nil || c < 0 || c >= len(b.chains) || len(b.chains[c].headers) == 0 {
		return nil
	}
	return &b.chains[c]
}

// others: the other chain's headers that a chain's Update may go by: from the one that it knows on.
func (b *Bridge) others(c int) []header {
	on := b.find(c)
	if on == nil {
		return nil
	}
	return b.chains[1-c].headers[on.known.Height:]
}

// Do: a step of a chain (P3, P5 to P7).
func (b *Bridge) Do(c int, s api.Step) (uint64, api.Errno) {
	return b.step(c, s, b.others(c))
}

// step: one that comes to no error counts. Of the other chain it sees the headers that are handed in alone, so that both chains may take steps at the same time.
func (b *Bridge) step(c int, s api.Step, others []header) (uint64, api.Errno) {
	on := b.find(c)
	if on == nil {
		return 0, api.ErrChain
	}
	n, e := on.step(s, others)
	if e == api.OK {
		b.taken.Add(1)
	}
	return n, e
}

// Run: steps of both chains at the same time (P8).
func (b *Bridge) Run(first []api.Step, second []api.Step) ([]api.Errno, []api.Errno) {
	// Both ahead of either start: neither chain sees a header of this call.
	ofSecond, ofFirst := b.ahead(0), b.ahead(1)
	return gather(b.start(0, first, ofSecond), b.start(1, second, ofFirst))
}

// Taken: how many steps have been taken (P4).
func (b *Bridge) Taken() int {
	if b == nil {
		return 0
	}
	return int(b.taken.Load())
}

// Balance: what an account of a chain has of a coin (P4).
func (b *Bridge) Balance(c int, user int, coin int) uint64 {
	of := b.find(c)
	if of == nil {
		return 0
	}
	return of.funds[holding{user, coin}]
}

// Look: what a chain holds (P4).
func (b *Bridge) Look(c int) (api.Look, api.Errno) {
	at := b.find(c)
	if at == nil {
		return api.Look{}, api.ErrChain
	}
	return at.look(), api.OK
}

// Head: of a chain, at a height: in short (P4).
func (b *Bridge) Head(c int, height uint64) (api.Head, api.Errno) {
	of := b.find(c)
	if of == nil {
		return api.Head{}, api.ErrChain
	}
	if height >= uint64(len(of.headers)) {
		return api.Head{}, api.ErrHeader
	}
	return of.headers[height].Head, api.OK
}

// Same: do two headers say the same in short (P4)?
func (b *Bridge) Same(c int, height uint64, d int, other uint64) bool {
	x, ex := b.Head(c, height)
	y, ey := b.Head(d, other)
	return ex == api.OK && ey == api.OK && x == y
}
