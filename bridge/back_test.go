package bridge_test

import (
	"math"
	"slices"
	"testing"

	"bridge/api"
	"bridge/bridge"
)

func timeout(n uint64) api.Step { return api.Step{Kind: api.Timeout, N: n} }

func timeoutClosed(n uint64) api.Step { return api.Step{Kind: api.TimeoutClosed, N: n} }

// shut and confirm: with a number and a packet, which are of no matter to them.
func shut() api.Step { return api.Step{Kind: api.Close, N: 5, P: api.Packet{From: -1}} }

func confirm() api.Step { return api.Step{Kind: api.Confirm, N: 5, P: api.Packet{From: -1}} }

// cameBack: the step is taken, and all that has changed is that chain c's packet is pending no more, that its sender has the coins again, and that the end is closed.
func cameBack(t *testing.T, b *bridge.Bridge, c int, s api.Step, p api.Packet) {
	t.Helper()
	want := tell(t, b)
	do(t, b, c, s, 0, api.OK)
	at := &want.Looks[c]
	want.Taken++
	want.Funds[c][p.From][p.Coin] += p.Amount
	if p.Coin == c {
		at.Locked -= p.Amount
	} else {
		at.About += p.Amount
	}
	at.Open = false
	at.Pending = without(at.Pending, s.N)
	same(t, "a packet that comes back", tell(t, b), want)
}

func without(l []uint64, n uint64) []uint64 {
	var out []uint64
	for _, k := range l {
		if k != n {
			out = append(out, k)
		}
	}
	return out
}

// closes: the step is taken, and all that has changed is that chain c's end is closed.
func closes(t *testing.T, b *bridge.Bridge, c int, s api.Step) {
	t.Helper()
	want := tell(t, b)
	do(t, b, c, s, 0, api.OK)
	want.Taken++
	want.Looks[c].Open = false
	same(t, "a closed end", tell(t, b), want)
}

// The document's example 6.
func TestTimeoutBringsBackWhatWasNotReceived(t *testing.T) {
	b := begin(t, 100)
	p := api.Packet{From: 0, To: 1, Coin: 0, Amount: 60, Height: 2}
	all(t, b, 0, send(p), tick(0))
	all(t, b, 1, update(1), tick(0), tick(0))
	refused(t, b, 0, timeout(1), api.ErrEarly) // due at the other, which chain 0 has not seen
	all(t, b, 0, update(1))
	refused(t, b, 0, timeout(1), api.ErrEarly)
	all(t, b, 0, update(2))
	cameBack(t, b, 0, timeout(1), p)
	refused(t, b, 0, timeout(1), api.ErrPacket)
	refused(t, b, 0, send(valid()), api.ErrClosed)
	refused(t, b, 1, recv(1), api.ErrLate)
	if l := look(t, b, 0); l.Open || l.Locked != 0 || l.NextSend != 2 || b.Balance(0, 0, 0) != 100 {
		t.Errorf("Look(0) = %v, Balance(0, 0, 0) = %d", l, b.Balance(0, 0, 0))
	}
}

// The document's example 7.
func TestNoTimeoutOfWhatWasReceived(t *testing.T) {
	b := begin(t, 100)
	all(t, b, 0, send(api.Packet{To: 1, Amount: 60, Height: 2}), tick(0))
	all(t, b, 1, update(1), recv(1), tick(0), tick(0))
	all(t, b, 0, update(2))
	refused(t, b, 0, timeout(1), api.ErrEarly)
	refused(t, b, 0, timeoutClosed(1), api.ErrOpen)
	all(t, b, 0, ack(1))
	refused(t, b, 0, timeout(1), api.ErrPacket)
	refused(t, b, 0, timeoutClosed(1), api.ErrPacket)
}

// The document's example 8.
func TestCloseAndWhatComesOfIt(t *testing.T) {
	b := begin(t, 100)
	sent := []api.Packet{
		{From: 0, To: 1, Coin: 1, Amount: 10, Height: 99}, {From: 1, To: 3, Coin: 1, Amount: 20, Height: 99},
		{From: 2, To: 1, Coin: 1, Amount: 30, Height: 99}, {From: 2, To: 1, Coin: 1, Amount: 40, Height: 99},
	}
	for _, p := range sent {
		all(t, b, 1, send(p))
	}
	carry(t, b, 1)
	all(t, b, 0, recv(1), recv(2))
	closes(t, b, 0, shut())
	refused(t, b, 1, confirm(), api.ErrOpen)
	all(t, b, 0, tick(0))
	refused(t, b, 1, confirm(), api.ErrOpen)
	all(t, b, 1, update(1))
	closes(t, b, 1, confirm())
	for _, n := range []uint64{1, 2} {
		refused(t, b, 1, timeoutClosed(n), api.ErrEarly)
	}
	cameBack(t, b, 1, timeoutClosed(4), sent[3])
	cameBack(t, b, 1, timeoutClosed(3), sent[2])
	all(t, b, 1, ack(1), ack(2))
	s := tell(t, b)
	if l := s.Looks[1]; len(l.Pending) != 0 || l.Locked != 10 || l.Open {
		t.Errorf("Look(1) = %v", l)
	}
	if want := [api.Users][2]uint64{{0, 90}, {0, 100}, {0, 100}}; s.Funds[1] != want {
		t.Errorf("chain 1's accounts have %v, want %v", s.Funds[1], want)
	}
	if n := b.Balance(0, 1, 1); n != 10 {
		t.Errorf("Balance(0, 1, 1) = %d, want 10", n)
	}
}

func TestTimeoutOfWhatIsDueByTheKnownHeader(t *testing.T) {
	for _, x := range []struct {
		height, time uint64 // of the packet
		due          bool   // at height 3 and time 50
	}{
		{4, 0, false}, {3, 0, true}, {2, 0, true}, {1, 0, true}, {math.MaxUint64, 0, false},
		{0, 51, false}, {0, 50, true}, {0, 49, true}, {0, 1, true}, {0, math.MaxUint64, false},
		{4, 51, false}, {3, 51, true}, {4, 50, true}, {3, 50, true}, {50, 51, false}, {51, 4, true},
	} {
		for c := range 2 {
			b := begin(t, 100)
			p := api.Packet{From: 1, To: 0, Coin: c, Amount: 5, Height: x.height, Time: x.time}
			all(t, b, c, tick(100), send(p), tick(100), tick(100), tick(100)) // the sender's own height and time are of no matter
			all(t, b, 1-c, tick(20), tick(30), tick(0), tick(100))            // nor are those that the other has come to since
			refused(t, b, c, timeout(1), api.ErrEarly)
			all(t, b, c, update(3))
			if x.due {
				cameBack(t, b, c, timeout(1), p)
				continue
			}
			refused(t, b, c, timeout(1), api.ErrEarly)
		}
	}
}

// A packet that the header has received does not come back, though it is due by then; the next one does.
func TestTimeoutGoesByWhatTheHeaderHasReceived(t *testing.T) {
	b := begin(t, 100)
	p := api.Packet{From: 1, To: 2, Amount: 3, Height: 3}
	all(t, b, 0, send(p), send(p), send(p))
	carry(t, b, 0)
	all(t, b, 1, recv(1), tick(0), tick(0), tick(0))
	all(t, b, 0, update(2))
	for _, n := range []uint64{1, 2, 3} {
		refused(t, b, 0, timeout(n), api.ErrEarly)
	}
	all(t, b, 0, update(3))
	refused(t, b, 0, timeout(1), api.ErrEarly)
	cameBack(t, b, 0, timeout(2), p)
	refused(t, b, 0, timeout(1), api.ErrEarly)
	cameBack(t, b, 0, timeout(3), p)
	refused(t, b, 1, recv(2), api.ErrLate)
	all(t, b, 0, ack(1))
}

// They need not come back in order, and one that is not due is left as it is.
func TestTimeoutInAnyOrder(t *testing.T) {
	b := begin(t, 100)
	soon := api.Packet{From: 0, To: 2, Amount: 3, Time: 10}
	late := api.Packet{From: 1, To: 2, Amount: 4, Time: 20}
	all(t, b, 0, send(soon), send(late), send(soon), send(soon), send(late))
	all(t, b, 1, tick(10), tick(10))
	all(t, b, 0, update(1))
	cameBack(t, b, 0, timeout(3), soon)
	refused(t, b, 0, timeout(2), api.ErrEarly)
	cameBack(t, b, 0, timeout(1), soon)
	refused(t, b, 0, timeout(3), api.ErrPacket)
	cameBack(t, b, 0, timeout(4), soon)
	refused(t, b, 0, timeout(5), api.ErrEarly)
	all(t, b, 0, update(2))
	cameBack(t, b, 0, timeout(5), late)
	cameBack(t, b, 0, timeout(2), late)
	if l := look(t, b, 0); l.Locked != 0 || l.Pending != nil || l.NextSend != 6 {
		t.Errorf("Look(0) = %v", l)
	}
}

// A number of which nothing is pending: none was sent yet, or the other chain's alone.
func TestComingBackOfNoPacket(t *testing.T) {
	b := begin(t, 100)
	p := api.Packet{From: 1, Coin: 1, Amount: 3, Height: 1, Time: 1}
	all(t, b, 1, send(p))
	all(t, b, 0, send(valid()), shut(), tick(5))
	all(t, b, 1, send(p), update(1))
	for _, n := range []uint64{0, 3, 1 << 63, math.MaxUint64} {
		refused(t, b, 1, timeout(n), api.ErrPacket)
		refused(t, b, 1, timeoutClosed(n), api.ErrPacket)
		refused(t, b, 0, timeout(n), api.ErrPacket)
		refused(t, b, 0, timeoutClosed(n), api.ErrPacket) // the other is seen open, but the packet is asked first
	}
	refused(t, b, 0, timeout(2), api.ErrPacket)
	refused(t, b, 0, timeoutClosed(2), api.ErrPacket)
	cameBack(t, b, 1, timeout(1), p)
	refused(t, b, 1, timeoutClosed(1), api.ErrPacket)
	cameBack(t, b, 1, timeoutClosed(2), p)
	refused(t, b, 1, timeout(2), api.ErrPacket)
}

// It goes by the header that is known, and is asked ahead of what that header has received.
func TestTimeoutClosedWhileTheOtherIsSeenOpen(t *testing.T) {
	b := begin(t, 100)
	p := api.Packet{From: 2, To: 0, Amount: 8, Height: 1}
	all(t, b, 0, send(p), send(p))
	carry(t, b, 0)
	all(t, b, 1, recv(1), tick(0), shut())
	refused(t, b, 0, timeoutClosed(1), api.ErrOpen)
	refused(t, b, 0, timeoutClosed(2), api.ErrOpen)
	all(t, b, 0, update(1))
	refused(t, b, 0, timeoutClosed(1), api.ErrOpen)
	refused(t, b, 0, timeoutClosed(2), api.ErrOpen) // though it is due
	all(t, b, 1, tick(0))
	refused(t, b, 0, timeoutClosed(2), api.ErrOpen)
	all(t, b, 0, update(2))
	refused(t, b, 0, timeoutClosed(1), api.ErrEarly)
	cameBack(t, b, 0, timeoutClosed(2), p)
	refused(t, b, 0, timeoutClosed(1), api.ErrEarly)
	refused(t, b, 0, confirm(), api.ErrClosed)
	all(t, b, 0, ack(1))
}

// Without a Confirm: the packet need not be due, and this chain's end is closed too.
func TestTimeoutClosedClosesThisEnd(t *testing.T) {
	for c := range 2 {
		b := begin(t, 100)
		p := api.Packet{From: 2, To: 0, Coin: c, Amount: 100, Time: math.MaxUint64}
		all(t, b, c, send(p))
		all(t, b, 1-c, shut())
		carry(t, b, 1-c)
		if !look(t, b, c).Open {
			t.Fatalf("chain %d is closed by what it has learned", c)
		}
		cameBack(t, b, c, timeoutClosed(1), p)
		refused(t, b, c, send(p), api.ErrClosed)
		all(t, b, c, tick(0))
		if h, e := b.Head(c, 1); e != api.OK || h != (api.Head{Height: 1, NextRecv: 1}) {
			t.Errorf("Head(%d, 1) = %v, %d", c, h, e)
		}
	}
}

// The other's coin is about again where it was, by either way.
func TestTheOthersCoinComesBack(t *testing.T) {
	for c := range 2 {
		b := begin(t, 100)
		all(t, b, c, send(api.Packet{From: 0, To: 2, Coin: c, Amount: 80, Height: 99}))
		carry(t, b, c)
		first := api.Packet{From: 2, To: 1, Coin: c, Amount: 50, Height: 2}
		second := api.Packet{From: 2, To: 1, Coin: c, Amount: 30, Height: 99}
		all(t, b, 1-c, recv(1), send(first), send(second))
		if l := look(t, b, 1-c); l.About != 0 || b.Balance(1-c, 2, c) != 0 {
			t.Errorf("sent: Look = %v", l)
		}
		all(t, b, c, tick(0))
		all(t, b, 1-c, update(2))
		cameBack(t, b, 1-c, timeout(1), first)
		carry(t, b, 1-c)
		closes(t, b, c, confirm())
		carry(t, b, c)
		cameBack(t, b, 1-c, timeoutClosed(2), second)
		if l := look(t, b, 1-c); l.About != 80 || l.Locked != 0 || b.Balance(1-c, 2, c) != 80 {
			t.Errorf("come back: Look = %v", l)
		}
		if l := look(t, b, c); l.Locked != 80 || l.About != 0 {
			t.Errorf("the other's Look = %v", l)
		}
	}
}

func TestCloseOnce(t *testing.T) {
	for c := range 2 {
		b := begin(t, 100)
		closes(t, b, c, shut())
		refused(t, b, c, shut(), api.ErrClosed)
		refused(t, b, c, confirm(), api.ErrClosed) // the other is seen open, but this end is asked first
		if !look(t, b, 1-c).Open {
			t.Errorf("chain %d is closed too", 1-c)
		}
		closes(t, b, 1-c, shut())
		refused(t, b, 1-c, shut(), api.ErrClosed)
		all(t, b, c, tick(0))
		all(t, b, 1-c, update(1))
		refused(t, b, 1-c, confirm(), api.ErrClosed)
	}
}

// Confirm goes by the header that is known, not by what the other is.
func TestConfirmOnceTheOtherIsSeenClosed(t *testing.T) {
	b := begin(t, 100)
	refused(t, b, 1, confirm(), api.ErrOpen)
	all(t, b, 0, tick(0), shut(), tick(0), tick(0))
	refused(t, b, 1, confirm(), api.ErrOpen)
	all(t, b, 1, update(1))
	refused(t, b, 1, confirm(), api.ErrOpen)
	all(t, b, 1, update(3))
	closes(t, b, 1, confirm())
	refused(t, b, 1, confirm(), api.ErrClosed)
	refused(t, b, 1, shut(), api.ErrClosed)
}

// A header says that an end is closed, by whichever step, from the next height on.
func TestHeadersOfAClosedEnd(t *testing.T) {
	b := begin(t, 100)
	all(t, b, 0, tick(0), tick(0), shut())
	all(t, b, 1, tick(0), tick(0), tick(0))
	if !b.Same(0, 2, 1, 2) {
		t.Errorf("a header of an open end has changed: %v", tell(t, b).Heads)
	}
	all(t, b, 0, tick(0), tick(0))
	if b.Same(0, 3, 1, 3) {
		t.Errorf("the end's closing is not in the header: %v", tell(t, b).Heads)
	}
	all(t, b, 1, update(4), confirm(), tick(0))
	if !b.Same(0, 4, 1, 4) {
		t.Errorf("both ends are closed, but the headers differ: %v", tell(t, b).Heads)
	}
	want := []api.Head{{Open: true, NextRecv: 1}, {Height: 1, Open: true, NextRecv: 1}, {Height: 2, Open: true, NextRecv: 1}, {Height: 3, NextRecv: 1}, {Height: 4, NextRecv: 1}}
	if got := tell(t, b).Heads[0]; !slices.Equal(got, want) {
		t.Errorf("headers: %v, want %v", got, want)
	}
}

// closings: a bridge for each way of closing chain 1's end, at height 2, which knows chain 0's header of height 3; of that a packet is pending.
func closings(t *testing.T) []*bridge.Bridge {
	t.Helper()
	var out []*bridge.Bridge
	for _, last := range []api.Step{shut(), confirm(), timeout(1), timeoutClosed(1)} {
		b := begin(t, 100)
		all(t, b, 0, send(api.Packet{To: 1, Amount: 7, Height: 99}), tick(0))
		if last.Kind == api.Confirm || last.Kind == api.TimeoutClosed {
			all(t, b, 0, shut())
		}
		all(t, b, 0, tick(0), tick(0))
		p := api.Packet{From: 1, To: 1, Coin: 1, Amount: 5, Height: 3}
		all(t, b, 1, tick(0), tick(0), update(3), send(p), last)
		if look(t, b, 1).Open {
			t.Fatalf("%v has not closed the end", last)
		}
		out = append(out, b)
	}
	return out
}

// However the end was closed: it sends and receives nothing, whatever else is wrong, and never opens; time goes on there, and it learns of the other.
func TestAtAClosedEnd(t *testing.T) {
	for _, b := range closings(t) {
		for _, p := range []api.Packet{{From: 1, Coin: 1, Amount: 1, Height: 9}, {From: 3}, {Coin: 2}, {}, {Coin: 1, Amount: 101}, {Coin: 1, Amount: 1}} {
			refused(t, b, 1, send(p), api.ErrClosed)
		}
		for _, n := range []uint64{0, 1, 2, math.MaxUint64} {
			refused(t, b, 1, recv(n), api.ErrClosed)
		}
		refused(t, b, 1, shut(), api.ErrClosed)
		refused(t, b, 1, confirm(), api.ErrClosed)
		refused(t, b, 1, update(4), api.ErrHeader)
		refused(t, b, 1, api.Step{Kind: 10}, api.ErrKind)
		carry(t, b, 0)
		all(t, b, 1, tick(3))
		if l := look(t, b, 1); l.Open || l.Height != 3 || l.Time != 3 || l.Known != 4 || l.NextRecv != 1 || l.NextSend != 2 || l.About != 0 {
			t.Errorf("Look(1) = %v", l)
		}
		if h, e := b.Head(1, 3); e != api.OK || h.Open {
			t.Errorf("Head(1, 3) = %v, %d", h, e)
		}
	}
}

// What was sent ahead of the closing is answered or comes back behind it.
func TestAnswersAndComingBackAtAClosedEnd(t *testing.T) {
	b := begin(t, 100)
	p := api.Packet{From: 0, To: 0, Amount: 10, Height: 9}
	nobodys := api.Packet{From: 1, To: -1, Amount: 20, Height: 9}
	due := api.Packet{From: 2, To: 1, Amount: 30, Height: 2}
	all(t, b, 0, send(p), send(nobodys), send(due), send(p))
	carry(t, b, 0)
	all(t, b, 1, recv(1), recv(2), tick(0), tick(0))
	all(t, b, 0, update(2))
	closes(t, b, 0, shut())
	refused(t, b, 0, ack(2), api.ErrOrder)
	all(t, b, 0, ack(1))
	cameBack(t, b, 0, timeout(3), due)
	all(t, b, 0, ack(2))
	refused(t, b, 0, ack(4), api.ErrAck)
	refused(t, b, 0, timeout(4), api.ErrEarly)
	refused(t, b, 0, timeoutClosed(4), api.ErrOpen)
	carry(t, b, 0)
	closes(t, b, 1, confirm())
	carry(t, b, 1)
	cameBack(t, b, 0, timeoutClosed(4), p)
	s := tell(t, b)
	if want := [api.Users][2]uint64{{90, 0}, {100, 0}, {100, 0}}; s.Funds[0] != want || s.Looks[0].Locked != 10 || s.Looks[1].About != 10 {
		t.Errorf("chain 0's accounts have %v, want %v; locked %d, about %d", s.Funds[0], want, s.Looks[0].Locked, s.Looks[1].About)
	}
}

// A packet that the sender has given up may leave an open end waiting: by a header that still has it it is late, by a newer one it is none.
func TestRecvOfWhatHasComeBack(t *testing.T) {
	for _, known := range []uint64{0, 1} {
		b := begin(t, 100)
		all(t, b, 0, send(api.Packet{Amount: 1, Height: 1}), send(api.Packet{Amount: 1, Height: 9}), tick(0))
		if known > 0 {
			all(t, b, 1, update(known))
		}
		all(t, b, 1, tick(0))
		all(t, b, 0, update(1), timeout(1), tick(0))
		if known > 0 {
			refused(t, b, 1, recv(1), api.ErrLate)
		}
		all(t, b, 1, update(2))
		refused(t, b, 1, recv(1), api.ErrPacket)
		refused(t, b, 1, recv(2), api.ErrOrder) // its turn never comes
		if h, e := b.Head(0, 2); e != api.OK || h != (api.Head{Height: 2, NextRecv: 1, Packets: 1}) {
			t.Errorf("Head(0, 2) = %v, %d", h, e)
		}
	}
}

// A packet that was sent ahead of the one that has come back may still be received.
func TestRecvOfAnEarlierPacketThanTheOneThatHasComeBack(t *testing.T) {
	b := begin(t, 100)
	all(t, b, 0, send(api.Packet{To: 2, Amount: 1, Height: 9}), send(api.Packet{Amount: 5, Height: 1}), tick(0))
	all(t, b, 1, tick(0))
	all(t, b, 0, update(1), timeout(2), tick(0))
	all(t, b, 1, update(2), recv(1))
	refused(t, b, 1, recv(2), api.ErrPacket)
	carry(t, b, 1)
	all(t, b, 0, ack(1))
	if l := look(t, b, 0); l.Locked != 1 || l.Pending != nil || b.Balance(1, 2, 0) != 1 {
		t.Errorf("Look(0) = %v", l)
	}
}

// All that there is of a coin comes back, at the greatest numbers.
func TestAllCoinsComeBack(t *testing.T) {
	b := begin(t, api.MaxCoins)
	p := api.Packet{From: 1, Coin: 0, Amount: api.MaxCoins, Time: math.MaxUint64}
	all(t, b, 0, send(p), send(api.Packet{From: 0, Amount: api.MaxCoins, Height: 1}))
	all(t, b, 1, tick(math.MaxUint64-1))
	all(t, b, 0, update(1))
	refused(t, b, 0, timeout(1), api.ErrEarly)
	all(t, b, 1, tick(1))
	all(t, b, 0, update(2))
	cameBack(t, b, 0, timeout(1), p)
	all(t, b, 0, timeout(2))
	if l := look(t, b, 0); l.Locked != 0 || b.Balance(0, 0, 0) != api.MaxCoins || b.Balance(0, 1, 0) != api.MaxCoins {
		t.Errorf("Look(0) = %v", l)
	}
}

func TestStepsBackOfNoChain(t *testing.T) {
	steps := []api.Step{timeout(0), timeout(1), timeoutClosed(0), timeoutClosed(1), shut(), confirm()}
	for _, b := range []*bridge.Bridge{nil, {}} {
		for _, s := range steps {
			do(t, b, 0, s, 0, api.ErrChain)
			do(t, b, 1, s, 0, api.ErrChain)
		}
	}
	b := begin(t, 100)
	for _, c := range []int{math.MinInt, -1, 2, math.MaxInt} {
		for _, s := range steps {
			refused(t, b, c, s, api.ErrChain)
		}
	}
}
