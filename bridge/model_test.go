package bridge_test

import (
	"maps"
	"math"
	"slices"
	"testing"

	"bridge/api"
)

// plain: a chain told a second time, as plainly as the document does: each header is the whole chain, copied.
type plain struct {
	height, time, nextSend, nextRecv, locked, about uint64
	open                                            bool
	funds                                           [api.Users][2]uint64
	pending                                         map[uint64]api.Packet
	answers                                         map[uint64]bool // credited?
	headers                                         []plain
	known                                           int
}

type plainBridge struct {
	chains [2]plain
	taken  int
}

func (c plain) header() plain {
	c.pending, c.answers, c.headers = maps.Clone(c.pending), maps.Clone(c.answers), nil
	return c
}

func newPlain(coins uint64) *plainBridge {
	b := &plainBridge{}
	for k := range b.chains {
		c := &b.chains[k]
		*c = plain{open: true, nextSend: 1, nextRecv: 1, pending: map[uint64]api.Packet{}, answers: map[uint64]bool{}}
		for user := range api.Users {
			c.funds[user][k] = coins
		}
		c.headers = []plain{c.header()}
	}
	return b
}

func (b *plainBridge) do(k int, s api.Step) (uint64, api.Errno) {
	if k != 0 && k != 1 {
		return 0, api.ErrChain
	}
	return b.step(k, s, b.chains[1-k].headers)
}

func (b *plainBridge) step(k int, s api.Step, others []plain) (uint64, api.Errno) {
	n, e := b.chains[k].step(k, s, others)
	if e == api.OK {
		b.taken++
	}
	return n, e
}

func (c *plain) step(k int, s api.Step, others []plain) (uint64, api.Errno) {
	known := others[c.known]
	switch s.Kind {
	case api.Send:
		return c.send(k, s.P)
	case api.Tick:
		if c.time+s.N < c.time {
			return 0, api.ErrTime
		}
		c.time += s.N
		c.height++
		c.headers = append(c.headers, c.header())
	case api.Update:
		if s.N >= uint64(len(others)) || int(s.N) <= c.known {
			return 0, api.ErrHeader
		}
		c.known = int(s.N)
	case api.Recv:
		return 0, c.receive(k, known, s.N)
	case api.Ack:
		return 0, c.acknowledge(k, known, s.N)
	case api.Timeout, api.TimeoutClosed:
		return 0, c.expire(k, known, s.N, s.Kind == api.TimeoutClosed)
	case api.Close, api.Confirm:
		if !c.open {
			return 0, api.ErrClosed
		}
		if s.Kind == api.Confirm && known.open {
			return 0, api.ErrOpen
		}
		c.open = false
	default:
		return 0, api.ErrKind
	}
	return 0, api.OK
}

func (c *plain) send(k int, p api.Packet) (uint64, api.Errno) {
	if !c.open {
		return 0, api.ErrClosed
	}
	if p.From < 0 || p.From > 2 {
		return 0, api.ErrUser
	}
	if p.Coin < 0 || p.Coin > 1 {
		return 0, api.ErrCoin
	}
	if p.Amount == 0 {
		return 0, api.ErrAmount
	}
	if c.funds[p.From][p.Coin] < p.Amount {
		return 0, api.ErrFunds
	}
	if p.Height == 0 && p.Time == 0 {
		return 0, api.ErrDue
	}
	c.funds[p.From][p.Coin] -= p.Amount
	if p.Coin == k {
		c.locked += p.Amount
	} else {
		c.about -= p.Amount
	}
	p.Seq = c.nextSend
	c.nextSend++
	c.pending[p.Seq] = p
	return p.Seq, api.OK
}

func (c *plain) credit(k, user int, p api.Packet) {
	c.funds[user][p.Coin] += p.Amount
	if p.Coin == k {
		c.locked -= p.Amount
	} else {
		c.about += p.Amount
	}
}

// past: is the packet due, at this chain or by this header?
func (c *plain) past(p api.Packet) bool {
	return p.Height != 0 && c.height >= p.Height || p.Time != 0 && c.time >= p.Time
}

func (c *plain) receive(k int, known plain, n uint64) api.Errno {
	if !c.open {
		return api.ErrClosed
	}
	if n != c.nextRecv {
		return api.ErrOrder
	}
	p, ok := known.pending[n]
	if !ok {
		return api.ErrPacket
	}
	if c.past(p) {
		return api.ErrLate
	}
	c.nextRecv++
	c.answers[n] = p.To == 0 || p.To == 1 || p.To == 2
	if c.answers[n] {
		c.credit(k, p.To, p)
	}
	return api.OK
}

func (c *plain) acknowledge(k int, known plain, n uint64) api.Errno {
	p, ok := c.pending[n]
	if !ok {
		return api.ErrPacket
	}
	if slices.Min(slices.Collect(maps.Keys(c.pending))) < n {
		return api.ErrOrder
	}
	credited, ok := known.answers[n]
	if !ok {
		return api.ErrAck
	}
	delete(c.pending, n)
	if !credited {
		c.credit(k, p.From, p)
	}
	return api.OK
}

func (c *plain) expire(k int, known plain, n uint64, closed bool) api.Errno {
	p, ok := c.pending[n]
	if !ok {
		return api.ErrPacket
	}
	if closed && known.open {
		return api.ErrOpen
	}
	if !closed && !known.past(p) {
		return api.ErrEarly
	}
	if n < known.nextRecv {
		return api.ErrEarly
	}
	delete(c.pending, n)
	c.credit(k, p.From, p)
	c.open = false
	return api.OK
}

func (c *plain) look() api.Look {
	return api.Look{Height: c.height, Time: c.time, Known: uint64(c.known), Open: c.open, NextSend: c.nextSend, NextRecv: c.nextRecv,
		Pending: slices.Sorted(maps.Keys(c.pending)), Locked: c.locked, About: c.about}
}

func (b *plainBridge) tell() state {
	s := state{Taken: b.taken}
	for k, c := range b.chains {
		s.Funds[k] = c.funds
		s.Looks[k] = c.look()
		for _, h := range c.headers {
			s.Heads[k] = append(s.Heads[k], api.Head{Height: h.height, Time: h.time, Open: h.open, NextRecv: h.nextRecv, Packets: len(h.pending), Answers: len(h.answers)})
		}
	}
	return s
}

// numbers: the same ones in each run.
type numbers uint64

func (x *numbers) below(n uint64) uint64 {
	*x = *x*6364136223846793005 + 1442695040888963407
	return uint64(*x>>33) % n
}

// kind: while the end is open seldom one of those that may close it, as no step opens it again.
func (x *numbers) kind(open bool) api.Kind {
	switch n := x.below(400); {
	case !open:
		return api.Kind(n%9 + 1)
	case n < 360:
		return api.Kind(n%5 + 1)
	case n < 396:
		return api.Timeout + api.Kind(n%2)
	case n < 399:
		return api.Confirm
	}
	return api.Close
}

// likely: a step that now and then is of use, on a chain that looks so, with the other so high.
func (x *numbers) likely(at api.Look, other uint64) api.Step {
	s := api.Step{Kind: x.kind(at.Open)}
	switch s.Kind {
	case api.Send:
		s.P = api.Packet{Seq: x.below(9), From: int(x.below(4)), To: int(x.below(5)) - 1, Coin: int(x.below(2)), Amount: x.below(9), Height: x.below(3) * (at.Height + x.below(60))}
		s.P.Time = x.below(2) * (at.Time + x.below(90))
		if x.below(20) == 0 {
			s.P.Coin, s.P.Amount = int(x.below(4))-1, x.below(3)*math.MaxUint64/2
		}
	case api.Tick:
		s.N = x.below(4)
	case api.Update:
		s.N = at.Known + x.below(other-at.Known+2)
	case api.Recv:
		s.N = at.NextRecv + x.below(8)/6 - x.below(8)/7
	case api.Ack:
		s.N = x.below(at.NextSend + 1)
		if len(at.Pending) > 0 && x.below(3) > 0 {
			s.N = at.Pending[0] + x.below(8)/7
		}
	case api.Timeout, api.TimeoutClosed:
		s.N = x.below(at.NextSend + 1)
		if len(at.Pending) > 0 && x.below(5) > 0 {
			s.N = at.Pending[x.below(uint64(len(at.Pending)))]
		}
	}
	return s
}

func TestAsThePlainTelling(t *testing.T) {
	came := map[api.Kind]map[api.Errno]int{}
	x := numbers(1)
	for round := range 150 {
		coins := x.below(60)
		b, want := begin(t, coins), newPlain(coins)
		for k := range 300 {
			c := int(x.below(2))
			at, other := look(t, b, c), look(t, b, 1-c)
			s := x.likely(at, other.Height)
			wantN, wantE := want.do(c, s)
			if n, e := b.Do(c, s); n != wantN || e != wantE {
				t.Fatalf("round %d, step %d: Do(%d, %v) = %d, %d, want %d, %d", round, k, c, s, n, e, wantN, wantE)
			}
			if came[s.Kind] == nil {
				came[s.Kind] = map[api.Errno]int{}
			}
			came[s.Kind][wantE]++
			if k%10 == 0 || wantE != api.OK {
				same(t, "the plain telling", tell(t, b), want.tell())
			}
		}
		same(t, "the plain telling", tell(t, b), want.tell())
	}
	for kind, errors := range map[api.Kind][]api.Errno{
		api.Send:          {api.OK, api.ErrClosed, api.ErrUser, api.ErrCoin, api.ErrAmount, api.ErrFunds, api.ErrDue},
		api.Update:        {api.OK, api.ErrHeader},
		api.Recv:          {api.OK, api.ErrClosed, api.ErrOrder, api.ErrPacket, api.ErrLate},
		api.Ack:           {api.OK, api.ErrPacket, api.ErrOrder, api.ErrAck},
		api.Timeout:       {api.OK, api.ErrPacket, api.ErrEarly},
		api.TimeoutClosed: {api.OK, api.ErrPacket, api.ErrOpen, api.ErrEarly},
		api.Close:         {api.OK, api.ErrClosed},
		api.Confirm:       {api.OK, api.ErrClosed, api.ErrOpen},
	} {
		for _, e := range errors {
			if came[kind][e] == 0 {
				t.Errorf("no step of kind %d came to %d", kind, e)
			}
		}
	}
}

// likelyRun: lists of steps, each likely behind those ahead of it, and what comes of them by the plain telling: one chain's first, then the other's, each by the headers that the other had ahead of both.
func (x *numbers) likelyRun(b *plainBridge) (lists [2][]api.Step, want [2][]api.Errno) {
	others := [2][]plain{b.chains[1].headers, b.chains[0].headers}
	turn := int(x.below(2))
	for _, c := range [2]int{turn, 1 - turn} {
		for range x.below(30) {
			s := x.likely(b.chains[c].look(), uint64(len(others[c])))
			_, e := b.step(c, s, others[c])
			lists[c], want[c] = append(lists[c], s), append(want[c], e)
		}
	}
	return lists, want
}

func TestRunAsThePlainTelling(t *testing.T) {
	came := map[api.Kind]map[bool]int{}
	x := numbers(5)
	for round := range 150 {
		coins := x.below(60)
		b, want := begin(t, coins), newPlain(coins)
		for k := range 25 {
			lists, errors := x.likelyRun(want)
			first, second := b.Run(lists[0], lists[1])
			if !slices.Equal(first, errors[0]) || !slices.Equal(second, errors[1]) {
				t.Fatalf("round %d, call %d: Run(%v, %v) =\n%v, %v, want\n%v, %v", round, k, lists[0], lists[1], first, second, errors[0], errors[1])
			}
			same(t, "the plain telling of Run", tell(t, b), want.tell())
			for c := range 2 {
				for i, s := range lists[c] {
					if came[s.Kind] == nil {
						came[s.Kind] = map[bool]int{}
					}
					came[s.Kind][errors[c][i] == api.OK]++
				}
				s := x.likely(look(t, b, c), look(t, b, 1-c).Height) // one by Do now and then between
				n, e := want.do(c, s)
				do(t, b, c, s, n, e)
			}
		}
	}
	for kind := api.Send; kind <= api.Confirm; kind++ {
		if came[kind][true] == 0 || kind != api.Tick && came[kind][false] == 0 {
			t.Errorf("steps of kind %d: %v", kind, came[kind])
		}
	}
}
