package bridge

import (
	"maps"
	"testing"

	"bridge/api"
)

// What the steps that are built can't bring about yet (a closed end, a packet that is gone and was not received) is laid in by hand here.

func TestSendAtAClosedEnd(t *testing.T) {
	c := newChain(0, 100)
	c.open = false
	for _, p := range []api.Packet{{Amount: 1, Height: 1}, {From: 3}, {Coin: 2}, {}, {Amount: 101}, {Amount: 1}} {
		if n, e := c.step(api.Step{Kind: api.Send, P: p}, nil); n != 0 || e != api.ErrClosed {
			t.Errorf("Send of %v: %d, %d, want ErrClosed", p, n, e)
		}
	}
	if len(c.pending) != 0 || c.nextSend != 1 || c.locked != 0 || c.funds[holding{0, 0}] != 100 {
		t.Errorf("an error has changed the chain: %v", c.look())
	}
	if e := c.tick(1); e != api.OK || c.headers[1].Open || !c.headers[0].Open {
		t.Errorf("Tick at a closed end: %d, headers %v", e, c.headers)
	}
}

// An end that is closed receives nothing more, whatever else is wrong; what it has sent may still be answered.
func TestRecvAndAckAtAClosedEnd(t *testing.T) {
	b, _ := New(100)
	for c := range b.chains {
		b.Do(c, api.Step{Kind: api.Send, P: api.Packet{From: 1, To: 3 * c, Coin: c, Amount: 7, Height: 2}})
		b.Do(c, api.Step{Kind: api.Tick})
	}
	one := &b.chains[1]
	one.update(1, b.chains[0].headers)
	one.open = false
	one.height = 2
	for _, seq := range []uint64{0, 1, 2, 9} {
		if e := one.receive(seq); e != api.ErrClosed {
			t.Errorf("Recv %d: %d, want ErrClosed", seq, e)
		}
	}
	if one.nextRecv != 1 || len(one.answers) != 0 || one.about != 0 || one.funds[holding{0, 0}] != 0 {
		t.Errorf("an error has changed the chain: %v", one.look())
	}
	zero := &b.chains[0]
	zero.update(1, one.headers)
	if e := zero.receive(1); e != api.OK {
		t.Fatalf("Recv at the open end: %d", e)
	}
	zero.tick(0)
	one.update(2, zero.headers)
	if e := one.acknowledge(1); e != api.OK || len(one.pending) != 0 || one.locked != 0 || one.funds[holding{1, 1}] != 100 {
		t.Errorf("Ack at a closed end: %d, %v", e, one.look())
	}
}

// seen: a chain as its header of a height says, learned of header by header.
func seen(headers []header, height uint64) view {
	v := newView(headers[0])
	for _, h := range headers[1 : height+1] {
		v.learn(h)
	}
	return v
}

func TestHeadersSayEachPacketAndAnswerOfTheirHeight(t *testing.T) {
	c := newChain(0, 100)
	first := api.Packet{Seq: 1, From: 1, To: 7, Coin: 0, Amount: 5, Height: 6, Time: 8}
	sent := first
	sent.Seq = 77
	c.send(sent)
	c.reply(credited)
	c.tick(1)
	c.tick(1)
	c.send(sent)
	c.send(sent)
	c.drop(1)
	c.drop(3)
	c.reply(notCredited)
	c.reply(credited)
	c.tick(1)
	c.drop(2)
	c.reply(notCredited)

	second := first
	second.Seq = 2
	for _, x := range []struct {
		head    api.Head
		packets map[uint64]api.Packet
		answers map[uint64]answer
	}{
		{api.Head{Open: true, NextRecv: 1}, nil, nil},
		{api.Head{Height: 1, Time: 1, Open: true, NextRecv: 2, Packets: 1, Answers: 1}, map[uint64]api.Packet{1: first}, map[uint64]answer{1: credited}},
		{api.Head{Height: 2, Time: 2, Open: true, NextRecv: 2, Packets: 1, Answers: 1}, map[uint64]api.Packet{1: first}, map[uint64]answer{1: credited}},
		{api.Head{Height: 3, Time: 3, Open: true, NextRecv: 4, Packets: 1, Answers: 3}, map[uint64]api.Packet{2: second}, map[uint64]answer{1: credited, 2: notCredited, 3: credited}},
	} {
		v := seen(c.headers, x.head.Height)
		if v.Head != x.head || !maps.Equal(v.packets, x.packets) || !maps.Equal(v.answers, x.answers) {
			t.Errorf("header %v, want %v", v, x)
		}
	}
}

// A packet that has come back by the known header is none that may be received, though an older header had it.
func TestRecvOfAPacketThatIsGone(t *testing.T) {
	for _, known := range []uint64{0, 1} {
		b, _ := New(100)
		zero, one := &b.chains[0], &b.chains[1]
		zero.send(api.Packet{Amount: 1, Height: 9})
		zero.tick(0)
		one.update(known, zero.headers)
		zero.drop(1)
		zero.tick(0)
		one.update(2, zero.headers)
		if e := one.receive(1); e != api.ErrPacket {
			t.Errorf("Recv, having known header %d: %d, want ErrPacket", known, e)
		}
	}
}

func TestSendOfTheOthersCoinTakesItFromWhatIsAbout(t *testing.T) {
	for own := range 2 {
		c := newChain(own, 100)
		c.funds[holding{2, 1 - own}], c.about = 50, 50
		for _, x := range []struct {
			amount, n, left uint64
			e               api.Errno
		}{{51, 0, 50, api.ErrFunds}, {20, 1, 30, api.OK}, {31, 0, 30, api.ErrFunds}, {30, 2, 0, api.OK}, {1, 0, 0, api.ErrFunds}} {
			n, e := c.send(api.Packet{From: 2, Coin: 1 - own, Amount: x.amount, Time: 1})
			if n != x.n || e != x.e || c.about != x.left || c.funds[holding{2, 1 - own}] != x.left {
				t.Errorf("Send of %d: %d, %d; about %d, want %v", x.amount, n, e, c.about, x)
			}
		}
		if c.locked != 0 || c.look().About != 0 || c.funds[holding{2, own}] != 100 {
			t.Errorf("locked %d, about %d, own coins %d", c.locked, c.look().About, c.funds[holding{2, own}])
		}
	}
}

func TestEachChainKnowsTheOthersFirstHeader(t *testing.T) {
	b, _ := New(1)
	for c := range b.chains {
		if b.chains[c].known.Head != b.chains[1-c].headers[0].Head || b.chains[c].own != c {
			t.Errorf("chain %d: %v", c, b.chains[c].known)
		}
	}
	b.chains[0].known.Height = 4
	if l, _ := b.Look(0); l.Known != 4 {
		t.Errorf("Look(0).Known = %d, want 4", l.Known)
	}
	if l, _ := b.Look(1); l.Known != 0 {
		t.Errorf("Look(1).Known = %d, want 0", l.Known)
	}
}
