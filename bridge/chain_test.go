package bridge

import (
	"maps"
	"testing"

	"bridge/api"
)

// What the steps that are built can't bring about yet (a closed end, the other's coins, answers) is laid in by hand here.

func TestSendAtAClosedEnd(t *testing.T) {
	c := newChain(0, 100)
	c.open = false
	for _, p := range []api.Packet{{Amount: 1, Height: 1}, {From: 3}, {Coin: 2}, {}, {Amount: 101}, {Amount: 1}} {
		if n, e := c.step(api.Step{Kind: api.Send, P: p}); n != 0 || e != api.ErrClosed {
			t.Errorf("Send of %v: %d, %d, want ErrClosed", p, n, e)
		}
	}
	if len(c.pending) != 0 || c.nextSend != 1 || c.locked != 0 || c.funds[holding{0, 0}] != 100 {
		t.Errorf("an error has changed the chain: %v", c.look())
	}
	if e := c.tick(1); e != api.OK || c.headers[1].Open || !c.headers[0].Open {
		t.Errorf("Tick at a closed end: %d, headers %v", e, c.headers)
	}
}

func TestSendOfTheOthersCoinTakesItFromWhatIsAbout(t *testing.T) {
	for own := range 2 {
		c := newChain(own, 100)
		c.funds[holding{2, 1 - own}], c.about = 50, 50
		for _, x := range []struct {
			amount, n, left uint64
			e               api.Errno
		}{{51, 0, 50, api.ErrFunds}, {20, 1, 30, api.OK}, {31, 0, 30, api.ErrFunds}, {30, 2, 0, api.OK}, {1, 0, 0, api.ErrFunds}} {
			n, e := c.send(api.Packet{From: 2, Coin: 1 - own, Amount: x.amount, Time: 1})
			if n != x.n || e != x.e || c.about != x.left || c.funds[holding{2, 1 - own}] != x.left {
				t.Errorf("Send of %d: %d, %d; about %d, want %v", x.amount, n, e, c.about, x)
			}
		}
		if c.locked != 0 || c.look().About != 0 || c.funds[holding{2, own}] != 100 {
			t.Errorf("locked %d, about %d, own coins %d", c.locked, c.look().About, c.funds[holding{2, own}])
		}
	}
}

func TestAHeaderKeepsItsPacketsAndAnswers(t *testing.T) {
	c := newChain(0, 100)
	first := api.Packet{Seq: 1, From: 1, To: 7, Coin: 0, Amount: 5, Height: 6, Time: 8}
	sent := first
	sent.Seq = 77
	c.send(sent)
	c.part()
	c.answers[1], c.nextRecv = credited, 2
	c.tick(1)
	c.tick(1)
	c.send(sent)
	c.part()
	c.answers[2], c.nextRecv = notCredited, 3
	delete(c.pending, 1)
	c.tick(1)

	second := first
	second.Seq = 2
	for _, x := range []struct {
		head    api.Head
		packets map[uint64]api.Packet
		answers map[uint64]answer
	}{
		{api.Head{Open: true, NextRecv: 1}, nil, nil},
		{api.Head{Height: 1, Time: 1, Open: true, NextRecv: 2, Packets: 1, Answers: 1}, map[uint64]api.Packet{1: first}, map[uint64]answer{1: credited}},
		{api.Head{Height: 2, Time: 2, Open: true, NextRecv: 2, Packets: 1, Answers: 1}, map[uint64]api.Packet{1: first}, map[uint64]answer{1: credited}},
		{api.Head{Height: 3, Time: 3, Open: true, NextRecv: 3, Packets: 1, Answers: 2}, map[uint64]api.Packet{2: second}, map[uint64]answer{1: credited, 2: notCredited}},
	} {
		h := c.headers[x.head.Height]
		if h.Head != x.head || !maps.Equal(h.packets, x.packets) || !maps.Equal(h.answers, x.answers) {
			t.Errorf("header %v, want %v", h, x)
		}
	}
}

func TestEachChainKnowsTheOthersFirstHeader(t *testing.T) {
	b, _ := New(1)
	for c := range b.chains {
		if b.chains[c].known.Head != b.chains[1-c].headers[0].Head || b.chains[c].own != c {
			t.Errorf("chain %d: %v", c, b.chains[c].known)
		}
	}
	b.chains[0].known.Height = 4
	if l, _ := b.Look(0); l.Known != 4 {
		t.Errorf("Look(0).Known = %d, want 4", l.Known)
	}
	if l, _ := b.Look(1); l.Known != 0 {
		t.Errorf("Look(1).Known = %d, want 0", l.Known)
	}
}
