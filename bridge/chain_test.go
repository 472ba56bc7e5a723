package bridge

import (
	"maps"
	"testing"

	"bridge/api"
)

// seen: a chain as its header of a height says, learned of header by header.
func seen(headers []header, height uint64) view {
	v := newView(headers[0])
	for _, h := range headers[1 : height+1] {
		v.learn(h)
	}
	return v
}

func TestHeadersSayEachPacketAndAnswerOfTheirHeight(t *testing.T) {
	c := newChain(0, 100)
	first := api.Packet{Seq: 1, From: 1, To: 7, Coin: 0, Amount: 5, Height: 6, Time: 8}
	sent := first
	sent.Seq = 77
	c.send(sent)
	c.reply(credited)
	c.tick(1)
	c.tick(1)
	c.send(sent)
	c.send(sent)
	c.drop(1)
	c.drop(3)
	c.reply(notCredited)
	c.reply(credited)
	c.tick(1)
	c.drop(2)
	c.reply(notCredited)

	second := first
	second.Seq = 2
	for _, x := range []struct {
		head    api.Head
		packets map[uint64]api.Packet
		answers map[uint64]answer
	}{
		{api.Head{Open: true, NextRecv: 1}, nil, nil},
		{api.Head{Height: 1, Time: 1, Open: true, NextRecv: 2, Packets: 1, Answers: 1}, map[uint64]api.Packet{1: first}, map[uint64]answer{1: credited}},
		{api.Head{Height: 2, Time: 2, Open: true, NextRecv: 2, Packets: 1, Answers: 1}, map[uint64]api.Packet{1: first}, map[uint64]answer{1: credited}},
		{api.Head{Height: 3, Time: 3, Open: true, NextRecv: 4, Packets: 1, Answers: 3}, map[uint64]api.Packet{2: second}, map[uint64]answer{1: credited, 2: notCredited, 3: credited}},
	} {
		v := seen(c.headers, x.head.Height)
		if v.Head != x.head || !maps.Equal(v.packets, x.packets) || !maps.Equal(v.answers, x.answers) {
			t.Errorf("header %v, want %v", v, x)
		}
	}
}

func TestSendOfTheOthersCoinTakesItFromWhatIsAbout(t *testing.T) {
	for own := range 2 {
		c := newChain(own, 100)
		c.funds[holding{2, 1 - own}], c.about = 50, 50
		for _, x := range []struct {
			amount, n, left uint64
			e               api.Errno
		}{{51, 0, 50, api.ErrFunds}, {20, 1, 30, api.OK}, {31, 0, 30, api.ErrFunds}, {30, 2, 0, api.OK}, {1, 0, 0, api.ErrFunds}} {
			n, e := c.send(api.Packet{From: 2, Coin: 1 - own, Amount: x.amount, Time: 1})
			if n != x.n || e != x.e || c.about != x.left || c.funds[holding{2, 1 - own}] != x.left {
				t.Errorf("Send of %d: %d, %d; about %d, want %v", x.amount, n, e, c.about, x)
			}
		}
		if c.locked != 0 || c.look().About != 0 || c.funds[holding{2, own}] != 100 {
			t.Errorf("locked %d, about %d, own coins %d", c.locked, c.look().About, c.funds[holding{2, own}])
		}
	}
}

func TestEachChainKnowsTheOthersFirstHeader(t *testing.T) {
	b, _ := New(1)
	for c := range b.chains {
		if b.chains[c].known.Head != b.chains[1-c].headers[0].Head || b.chains[c].own != c {
			t.Errorf("chain %d: %v", c, b.chains[c].known)
		}
	}
	b.chains[0].known.Height = 4
	if l, _ := b.Look(0); l.Known != 4 {
		t.Errorf("Look(0).Known = %d, want 4", l.Known)
	}
	if l, _ := b.Look(1); l.Known != 0 {
		t.Errorf("Look(1).Known = %d, want 0", l.Known)
	}
}
