package bridge_test

import (
	"math"
	"slices"
	"testing"

	"bridge/api"
	"bridge/bridge"
)

func update(n uint64) api.Step { return api.Step{Kind: api.Update, N: n} }

func recv(n uint64) api.Step { return api.Step{Kind: api.Recv, N: n} }

func ack(n uint64) api.Step { return api.Step{Kind: api.Ack, N: n} }

// all: steps of one chain, none of them with an error.
func all(t *testing.T, b *bridge.Bridge, c int, l ...api.Step) {
	t.Helper()
	for _, s := range l {
		if _, e := b.Do(c, s); e != api.OK {
			t.Fatalf("Do(%d, %v): %d", c, s, e)
		}
	}
}

// refused: the error, and that it has changed nothing.
func refused(t *testing.T, b *bridge.Bridge, c int, s api.Step, e api.Errno) {
	t.Helper()
	before := tell(t, b)
	if n, got := b.Do(c, s); n != 0 || got != e {
		t.Errorf("Do(%d, %v) = %d, %d, want 0, %d", c, s, n, got, e)
	}
	same(t, "an error", tell(t, b), before)
}

// carry: chain c ticks, and the other learns of it.
func carry(t *testing.T, b *bridge.Bridge, c int) {
	t.Helper()
	all(t, b, c, tick(0))
	l, _ := b.Look(c)
	all(t, b, 1-c, update(l.Height))
}

func look(t *testing.T, b *bridge.Bridge, c int) api.Look {
	t.Helper()
	l, e := b.Look(c)
	if e != api.OK {
		t.Fatalf("Look(%d): %d", c, e)
	}
	return l
}

// The document's examples 2 to 5.
func TestOverAndBack(t *testing.T) {
	b := begin(t, 100)
	do(t, b, 0, send(api.Packet{From: 0, To: 1, Coin: 0, Amount: 60, Height: 3}), 1, api.OK)
	refused(t, b, 1, recv(1), api.ErrPacket)
	all(t, b, 0, tick(5))
	all(t, b, 1, update(1))
	refused(t, b, 1, recv(2), api.ErrOrder)
	do(t, b, 1, recv(1), 0, api.OK)
	if n, l := b.Balance(1, 1, 0), look(t, b, 1); n != 60 || l.About != 60 || l.NextRecv != 2 || l.Known != 1 {
		t.Errorf("received: Balance(1, 1, 0) = %d, Look(1) = %v", n, l)
	}

	refused(t, b, 0, ack(1), api.ErrAck)
	all(t, b, 1, tick(0))
	refused(t, b, 0, ack(1), api.ErrAck)
	all(t, b, 0, update(1))
	do(t, b, 0, ack(1), 0, api.OK)
	if l := look(t, b, 0); len(l.Pending) != 0 || l.Locked != 60 || b.Balance(0, 0, 0) != 40 {
		t.Errorf("answered: Look(0) = %v, Balance(0, 0, 0) = %d", l, b.Balance(0, 0, 0))
	}
	refused(t, b, 0, ack(1), api.ErrPacket)

	do(t, b, 1, send(api.Packet{From: 1, To: 0, Coin: 0, Amount: 20, Height: 9}), 1, api.OK)
	if l := look(t, b, 1); l.About != 40 || b.Balance(1, 1, 0) != 40 {
		t.Errorf("sent back: Look(1) = %v", l)
	}
	carry(t, b, 1)
	do(t, b, 0, recv(1), 0, api.OK)
	if l := look(t, b, 0); l.Locked != 40 || l.About != 0 || b.Balance(0, 0, 0) != 60 {
		t.Errorf("received back: Look(0) = %v, Balance(0, 0, 0) = %d", l, b.Balance(0, 0, 0))
	}

	do(t, b, 0, send(api.Packet{From: 2, To: 7, Coin: 0, Amount: 100, Height: 9}), 2, api.OK)
	carry(t, b, 0)
	do(t, b, 1, recv(2), 0, api.OK)
	carry(t, b, 1)
	if l := look(t, b, 0); l.Locked != 140 || b.Balance(0, 2, 0) != 0 {
		t.Errorf("not credited: Look(0) = %v", l)
	}
	do(t, b, 0, ack(2), 0, api.OK)
	if l := look(t, b, 0); l.Locked != 40 || b.Balance(0, 2, 0) != 100 || len(l.Pending) != 0 {
		t.Errorf("come back: Look(0) = %v, Balance(0, 2, 0) = %d", l, b.Balance(0, 2, 0))
	}
}

func TestUpdateGoesToANewerHeaderOfTheOther(t *testing.T) {
	b := begin(t, 100)
	for range 6 {
		all(t, b, 0, tick(3))
	}
	all(t, b, 1, tick(1))
	for _, x := range []struct {
		n uint64
		e api.Errno
	}{
		{0, api.ErrHeader}, {7, api.ErrHeader}, {1 << 63, api.ErrHeader}, {math.MaxUint64, api.ErrHeader},
		{2, api.OK}, {2, api.ErrHeader}, {1, api.ErrHeader}, {0, api.ErrHeader},
		{3, api.OK}, {7, api.ErrHeader}, {6, api.OK}, {6, api.ErrHeader}, {5, api.ErrHeader}, {math.MaxUint64, api.ErrHeader},
	} {
		if x.e != api.OK {
			refused(t, b, 1, update(x.n), x.e)
			continue
		}
		want := tell(t, b)
		do(t, b, 1, update(x.n), 0, api.OK)
		want.Taken++
		want.Looks[1].Known = x.n
		same(t, "Update", tell(t, b), want)
	}
	refused(t, b, 0, update(2), api.ErrHeader) // of its own there is one, of the other's none
	do(t, b, 0, update(1), 0, api.OK)
}

// What is known is what the header said, not what the other is.
func TestRecvGoesByTheKnownHeader(t *testing.T) {
	b := begin(t, 100)
	all(t, b, 0, send(valid()), tick(0), send(valid()), tick(0), send(valid()), tick(0), send(valid()))
	refused(t, b, 1, recv(1), api.ErrPacket)
	all(t, b, 1, update(1), recv(1))
	refused(t, b, 1, recv(2), api.ErrPacket)
	all(t, b, 1, update(3), recv(2), recv(3))
	refused(t, b, 1, recv(4), api.ErrPacket)
	if l := look(t, b, 1); l.About != 3 || l.NextRecv != 4 {
		t.Errorf("Look(1) = %v", l)
	}
}

func TestRecvInOrderAndOnce(t *testing.T) {
	b := begin(t, 100)
	late := valid()
	late.Height = 1
	all(t, b, 0, send(valid()), send(valid()), send(late), tick(0))
	all(t, b, 1, tick(0), update(1))
	for _, n := range []uint64{0, 2, 3, 4, math.MaxUint64} {
		refused(t, b, 1, recv(n), api.ErrOrder)
	}
	all(t, b, 1, recv(1))
	for _, n := range []uint64{0, 1, 3, math.MaxUint64} {
		refused(t, b, 1, recv(n), api.ErrOrder)
	}
	all(t, b, 1, recv(2))
	refused(t, b, 1, recv(3), api.ErrLate)
	refused(t, b, 1, recv(4), api.ErrOrder) // no packet either, but its turn is asked first
	if n := b.Balance(1, 1, 0); n != 2 {
		t.Errorf("Balance(1, 1, 0) = %d, want 2", n)
	}
}

func TestRecvOfWhatIsDueAtTheReceiver(t *testing.T) {
	for _, x := range []struct {
		height, time uint64 // of the packet
		late         bool   // at height 3 and time 50
	}{
		{4, 0, false}, {3, 0, true}, {2, 0, true}, {1, 0, true}, {math.MaxUint64, 0, false},
		{0, 51, false}, {0, 50, true}, {0, 49, true}, {0, 1, true}, {0, math.MaxUint64, false},
		{4, 51, false}, {3, 51, true}, {4, 50, true}, {3, 50, true}, {50, 51, false},
	} {
		for c := range 2 {
			b := begin(t, 100)
			all(t, b, c, tick(100), tick(100), tick(100), tick(100)) // the sender's height and time are of no matter
			all(t, b, c, send(api.Packet{To: 0, Coin: c, Amount: 5, Height: x.height, Time: x.time}), tick(0))
			all(t, b, 1-c, tick(50), tick(0), update(5), tick(0))
			if x.late {
				refused(t, b, 1-c, recv(1), api.ErrLate)
				continue
			}
			do(t, b, 1-c, recv(1), 0, api.OK)
		}
	}
}

func TestRecvOfWhatIsDueAtTheLastTime(t *testing.T) {
	b := begin(t, 100)
	all(t, b, 0, send(api.Packet{Amount: 1, Time: math.MaxUint64}), send(api.Packet{Amount: 1, Time: math.MaxUint64}), tick(0))
	all(t, b, 1, update(1), tick(math.MaxUint64-1), recv(1), tick(1))
	refused(t, b, 1, recv(2), api.ErrLate)
}

// Whoever it is for: the number goes up and there is an answer, but only an account has the coins.
func TestRecvCreditsAccountsAlone(t *testing.T) {
	for c := range 2 {
		b := begin(t, 100)
		receivers := []int{0, 1, 2, -1, 3, 7, math.MinInt, math.MaxInt, 1}
		for k, to := range receivers {
			all(t, b, c, send(api.Packet{From: k % 3, To: to, Coin: c, Amount: uint64(k) + 1, Height: 99}))
		}
		carry(t, b, c)
		var credited [api.Users]uint64
		for k, to := range receivers {
			want := tell(t, b)
			do(t, b, 1-c, recv(uint64(k)+1), 0, api.OK)
			want.Taken++
			want.Looks[1-c].NextRecv++
			if to >= 0 && to < api.Users {
				credited[to] += uint64(k) + 1
				want.Funds[1-c][to][c] = credited[to]
				want.Looks[1-c].About += uint64(k) + 1
			}
			same(t, "Recv", tell(t, b), want)
		}
		all(t, b, 1-c, tick(0))
		if h, _ := b.Head(1-c, 1); h.NextRecv != 10 || h.Answers != 9 || h.Packets != 0 {
			t.Errorf("Head(%d, 1) = %v", 1-c, h)
		}
		carryAnswers(t, b, c, receivers)
	}
}

// carryAnswers: the sender's accounts have again what no account was credited with.
func carryAnswers(t *testing.T, b *bridge.Bridge, c int, receivers []int) {
	t.Helper()
	all(t, b, c, update(1))
	for k, to := range receivers {
		want := tell(t, b)
		do(t, b, c, ack(uint64(k)+1), 0, api.OK)
		want.Taken++
		want.Looks[c].Pending = want.Looks[c].Pending[1:]
		if k == len(receivers)-1 {
			want.Looks[c].Pending = nil
		}
		if to < 0 || to >= api.Users {
			want.Funds[c][k%3][c] += uint64(k) + 1
			want.Looks[c].Locked -= uint64(k) + 1
		}
		same(t, "Ack", tell(t, b), want)
	}
}

// The other's coin, sent back to no account: it is about again where it was.
func TestAckBringsTheOthersCoinBack(t *testing.T) {
	for c := range 2 {
		b := begin(t, 100)
		all(t, b, c, send(api.Packet{From: 0, To: 2, Coin: c, Amount: 80, Height: 99}))
		carry(t, b, c)
		all(t, b, 1-c, recv(1), send(api.Packet{From: 2, To: 3, Coin: c, Amount: 50, Height: 99}), send(api.Packet{From: 2, To: 1, Coin: c, Amount: 30, Height: 99}))
		carry(t, b, 1-c)
		all(t, b, c, recv(1), recv(2), ack(1))
		carry(t, b, c)
		if l := look(t, b, 1-c); l.About != 0 || b.Balance(1-c, 2, c) != 0 {
			t.Errorf("ahead of Ack: Look = %v", l)
		}
		all(t, b, 1-c, ack(1), ack(2))
		if l := look(t, b, 1-c); l.About != 50 || l.Locked != 0 || b.Balance(1-c, 2, c) != 50 || b.Balance(1-c, 2, 1-c) != 100 {
			t.Errorf("behind Ack: Look = %v, account 2 has %d", l, b.Balance(1-c, 2, c))
		}
		if l := look(t, b, c); l.Locked != 50 || b.Balance(c, 1, c) != 130 || b.Balance(c, 0, c) != 20 {
			t.Errorf("the other's Look = %v", l)
		}
	}
}

func TestAckInOrderAndOnce(t *testing.T) {
	b := begin(t, 100)
	refused(t, b, 0, ack(1), api.ErrPacket)
	all(t, b, 0, send(valid()), send(valid()), send(valid()))
	carry(t, b, 0)
	all(t, b, 1, recv(1), recv(2), send(api.Packet{Coin: 1, Amount: 1, Height: 9}))
	for _, n := range []uint64{0, 4, math.MaxUint64} {
		refused(t, b, 0, ack(n), api.ErrPacket)
	}
	refused(t, b, 0, ack(1), api.ErrAck)
	refused(t, b, 0, ack(2), api.ErrOrder)
	refused(t, b, 0, ack(3), api.ErrOrder)
	carry(t, b, 1)
	refused(t, b, 0, ack(2), api.ErrOrder)
	refused(t, b, 0, ack(3), api.ErrOrder) // no answer either, but its turn is asked first
	all(t, b, 0, ack(1))
	refused(t, b, 0, ack(1), api.ErrPacket) // it has an answer, but is pending no more
	refused(t, b, 0, ack(3), api.ErrOrder)
	all(t, b, 0, ack(2))
	refused(t, b, 0, ack(2), api.ErrPacket)
	refused(t, b, 0, ack(3), api.ErrAck)
	refused(t, b, 1, ack(1), api.ErrAck) // chain 1's own packet 1, which nobody has received
	if l := look(t, b, 0); !slices.Equal(l.Pending, []uint64{3}) || l.NextSend != 4 {
		t.Errorf("Look(0) = %v", l)
	}
}

// An answer that only a newer header has is not seen; one of an older header still is.
func TestAckGoesByTheKnownHeader(t *testing.T) {
	b := begin(t, 100)
	all(t, b, 0, send(valid()), send(valid()), send(valid()))
	carry(t, b, 0)
	all(t, b, 1, recv(1), tick(0), recv(2), tick(0), recv(3))
	all(t, b, 0, update(1), ack(1))
	refused(t, b, 0, ack(2), api.ErrAck)
	all(t, b, 0, update(2), ack(2))
	refused(t, b, 0, ack(3), api.ErrAck)
	all(t, b, 1, tick(0), tick(0))
	all(t, b, 0, update(4), ack(3))
	if h, e := b.Head(1, 1); e != api.OK || h != (api.Head{Height: 1, Open: true, NextRecv: 2, Answers: 1}) {
		t.Errorf("Head(1, 1) = %v, %d", h, e)
	}
	all(t, b, 0, tick(0))
	if h, e := b.Head(0, 2); e != api.OK || h != (api.Head{Height: 2, Open: true, NextRecv: 1}) {
		t.Errorf("Head(0, 2) = %v, %d", h, e)
	}
}

// All that there is of a coin goes over and back, at the greatest numbers.
func TestAllCoinsOverAndBack(t *testing.T) {
	b := begin(t, api.MaxCoins)
	for user := range api.Users {
		all(t, b, 0, send(api.Packet{From: user, To: 1, Coin: 0, Amount: api.MaxCoins, Time: 1}))
	}
	carry(t, b, 0)
	all(t, b, 1, recv(1), recv(2), recv(3))
	if n := b.Balance(1, 1, 0); n != api.Users*api.MaxCoins || look(t, b, 1).About != n {
		t.Errorf("Balance(1, 1, 0) = %d", n)
	}
	all(t, b, 1, send(api.Packet{From: 1, To: 2, Coin: 0, Amount: api.Users * api.MaxCoins, Time: 1}))
	carry(t, b, 1)
	all(t, b, 0, recv(1))
	if n := b.Balance(0, 2, 0); n != api.Users*api.MaxCoins || look(t, b, 0).Locked != 0 || look(t, b, 1).About != 0 {
		t.Errorf("Balance(0, 2, 0) = %d", n)
	}
}

func TestStepsOverOfNoChain(t *testing.T) {
	for _, b := range []*bridge.Bridge{nil, {}} {
		for _, s := range []api.Step{update(0), update(1), recv(1), ack(1)} {
			do(t, b, 0, s, 0, api.ErrChain)
			do(t, b, 1, s, 0, api.ErrChain)
		}
	}
	b := begin(t, 100)
	for _, c := range []int{math.MinInt, -1, 2, math.MaxInt} {
		for _, s := range []api.Step{update(0), update(1), recv(1), ack(1)} {
			refused(t, b, c, s, api.ErrChain)
		}
	}
}

// Many packets over, one at a time: what a header costs does not grow with all that went over ahead of it.
func TestManyPacketsOver(t *testing.T) {
	b := begin(t, api.MaxCoins)
	const many = 20000
	for n := uint64(1); n <= many; n++ {
		all(t, b, 0, send(api.Packet{To: 1, Amount: 1, Height: 1 << 40}))
		carry(t, b, 0)
		all(t, b, 1, recv(n))
		carry(t, b, 1)
		all(t, b, 0, ack(n))
	}
	if n := b.Balance(1, 1, 0); n != many || len(look(t, b, 0).Pending) != 0 {
		t.Errorf("Balance(1, 1, 0) = %d", n)
	}
}
