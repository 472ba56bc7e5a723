package bridge_test

import (
	"math"
	"reflect"
	"slices"
	"testing"

	"bridge/api"
	"bridge/bridge"
)

func begin(t *testing.T, coins uint64) *bridge.Bridge {
	t.Helper()
	b, e := bridge.New(coins)
	if b == nil || e != api.OK {
		t.Fatalf("New(%d) = %v, %d", coins, b, e)
	}
	return b
}

// valid: a packet that account 0 of chain 0 may send, if it has a coin.
func valid() api.Packet {
	return api.Packet{From: 0, To: 1, Coin: 0, Amount: 1, Height: 3}
}

func validFrom(user int) api.Packet {
	p := valid()
	p.From = user
	return p
}

func send(p api.Packet) api.Step { return api.Step{Kind: api.Send, P: p} }

func tick(n uint64) api.Step { return api.Step{Kind: api.Tick, N: n} }

func do(t *testing.T, b *bridge.Bridge, c int, s api.Step, n uint64, e api.Errno) {
	t.Helper()
	if gotN, gotE := b.Do(c, s); gotN != n || gotE != e {
		t.Fatalf("Do(%d, %v) = %d, %d, want %d, %d", c, s, gotN, gotE, n, e)
	}
}

// state: all that the calls tell of a bridge.
type state struct {
	Funds [2][api.Users][2]uint64
	Looks [2]api.Look
	Heads [2][]api.Head
	Taken int
}

func tell(t *testing.T, b *bridge.Bridge) state {
	t.Helper()
	s := state{Taken: b.Taken()}
	for c := range 2 {
		for user := range api.Users {
			for coin := range 2 {
				s.Funds[c][user][coin] = b.Balance(c, user, coin)
			}
		}
		var e api.Errno
		if s.Looks[c], e = b.Look(c); e != api.OK {
			t.Fatalf("Look(%d): %d", c, e)
		}
		for height := range s.Looks[c].Height + 1 {
			h, e := b.Head(c, height)
			if e != api.OK {
				t.Fatalf("Head(%d, %d): %d", c, height, e)
			}
			s.Heads[c] = append(s.Heads[c], h)
		}
	}
	return s
}

func same(t *testing.T, what string, got, want state) {
	t.Helper()
	if !reflect.DeepEqual(got, want) {
		t.Errorf("%s: the bridge is\n%v, want\n%v", what, got, want)
	}
}

func TestNewGivesEachAccountItsOwnChainsCoins(t *testing.T) {
	for _, coins := range []uint64{0, 1, 100, api.MaxCoins - 1, api.MaxCoins} {
		b := begin(t, coins)
		at := api.Look{Open: true, NextSend: 1, NextRecv: 1}
		first := []api.Head{{Open: true, NextRecv: 1}}
		want := state{Looks: [2]api.Look{at, at}, Heads: [2][]api.Head{first, first}}
		for user := range api.Users {
			want.Funds[0][user][0], want.Funds[1][user][1] = coins, coins
		}
		same(t, "New", tell(t, b), want)
	}
}

func TestNewRefusesTooManyCoins(t *testing.T) {
	for _, coins := range []uint64{api.MaxCoins + 1, 1 << 63, math.MaxUint64} {
		if b, e := bridge.New(coins); b != nil || e != api.ErrAmount {
			t.Errorf("New(%d) = %v, %d, want nil, ErrAmount", coins, b, e)
		}
	}
}

func TestSendLocksWhatTheAccountGives(t *testing.T) {
	b := begin(t, 100)
	do(t, b, 0, send(api.Packet{Seq: 9, From: 0, To: 1, Coin: 0, Amount: 60, Height: 3}), 1, api.OK)
	if n := b.Balance(0, 0, 0); n != 40 {
		t.Errorf("Balance(0, 0, 0) = %d, want 40", n)
	}
	want := api.Look{Open: true, NextSend: 2, NextRecv: 1, Pending: []uint64{1}, Locked: 60}
	if l, e := b.Look(0); e != api.OK || !reflect.DeepEqual(l, want) {
		t.Errorf("Look(0) = %v, %d, want %v", l, e, want)
	}
}

func TestSendTakesAllThatAnAccountHasAndNoMore(t *testing.T) {
	for c := range 2 {
		b := begin(t, api.MaxCoins)
		for user := range api.Users {
			p := api.Packet{From: user, Coin: c, Amount: api.MaxCoins + 1, Time: 1}
			do(t, b, c, send(p), 0, api.ErrFunds)
			p.Amount = math.MaxUint64
			do(t, b, c, send(p), 0, api.ErrFunds)
			p.Amount = api.MaxCoins
			do(t, b, c, send(p), uint64(user)+1, api.OK)
			p.Amount = 1
			do(t, b, c, send(p), 0, api.ErrFunds)
		}
		s := tell(t, b)
		if s.Funds[c] != ([api.Users][2]uint64{}) || s.Looks[c].Locked != api.Users*api.MaxCoins {
			t.Errorf("chain %d: funds %v, locked %d", c, s.Funds[c], s.Looks[c].Locked)
		}
		for user := range api.Users {
			if n := s.Funds[1-c][user][1-c]; n != api.MaxCoins {
				t.Errorf("chain %d, account %d has %d", 1-c, user, n)
			}
		}
	}
}

func TestSendTakesAnyReceiverAndAnyDueHeightOrTime(t *testing.T) {
	b := begin(t, 100)
	var n uint64
	for _, to := range []int{math.MinInt, -1, 0, 2, 3, 7, math.MaxInt} {
		for _, due := range [][2]uint64{{1, 0}, {0, 1}, {math.MaxUint64, 0}, {0, math.MaxUint64}, {1, 1}} {
			n++
			do(t, b, 1, send(api.Packet{From: 2, To: to, Coin: 1, Amount: 1, Height: due[0], Time: due[1]}), n, api.OK)
		}
	}
	if l, _ := b.Look(1); l.NextSend != n+1 || l.Locked != n || len(l.Pending) != int(n) {
		t.Errorf("Look(1) = %v behind %d packets", l, n)
	}
}

// wrongSends: the fault of each is the one named first of those that it has.
func wrongSends() map[api.Errno][]api.Packet {
	return map[api.Errno][]api.Packet{
		api.ErrUser: {
			{From: -1, Amount: 1, Height: 1}, {From: api.Users, Amount: 1, Height: 1},
			{From: math.MinInt, Amount: 1, Height: 1}, {From: math.MaxInt, Amount: 1, Height: 1},
			{From: 3, Coin: 2}, {From: 3, Coin: 0, Amount: 101},
		},
		api.ErrCoin: {
			{Coin: -1, Amount: 1, Height: 1}, {Coin: 2, Amount: 1, Height: 1},
			{Coin: math.MinInt, Amount: 1, Height: 1}, {Coin: math.MaxInt, Amount: 1, Height: 1},
			{Coin: 2}, {Coin: 2, Amount: 101},
		},
		api.ErrAmount: {{Height: 1}, {Time: 1}, {}, {Coin: 1}},
		api.ErrFunds: {
			{Amount: 101, Height: 1}, {From: 2, Amount: math.MaxUint64, Height: 1},
			{Coin: 1, Amount: 1, Height: 1}, {Amount: 101}, {Coin: 1, Amount: 1},
		},
		api.ErrDue: {{Amount: 1}, {From: 2, To: 7, Amount: 100}},
	}
}

func TestErrorsOfDoChangeNothing(t *testing.T) {
	b := begin(t, 100)
	do(t, b, 0, send(valid()), 1, api.OK)
	do(t, b, 0, tick(math.MaxUint64), 0, api.OK)
	before := tell(t, b)
	for e, l := range wrongSends() {
		for _, p := range l {
			do(t, b, 0, send(p), 0, e)
		}
	}
	for _, n := range []uint64{1, 2, 1 << 63, math.MaxUint64} {
		do(t, b, 0, tick(n), 0, api.ErrTime)
	}
	for _, k := range []api.Kind{math.MinInt, -1, 0, api.Confirm + 1, math.MaxInt} {
		do(t, b, 0, api.Step{Kind: k, N: 1, P: valid()}, 0, api.ErrKind)
		do(t, b, 1, api.Step{Kind: k, N: 1, P: valid()}, 0, api.ErrKind)
	}
	for _, c := range []int{math.MinInt, -1, 2, math.MaxInt} {
		for _, s := range []api.Step{tick(0), send(valid()), {}, send(api.Packet{From: -1})} {
			do(t, b, c, s, 0, api.ErrChain)
		}
	}
	same(t, "errors", tell(t, b), before)
}

func TestTickUpToTheLastTime(t *testing.T) {
	b := begin(t, 1)
	do(t, b, 0, tick(math.MaxUint64), 0, api.OK)
	do(t, b, 0, tick(1), 0, api.ErrTime)
	do(t, b, 0, tick(0), 0, api.OK)
	do(t, b, 1, tick(5), 0, api.OK)
	do(t, b, 1, tick(math.MaxUint64-4), 0, api.ErrTime)
	do(t, b, 1, tick(math.MaxUint64-5), 0, api.OK)
	s := tell(t, b)
	last := api.Head{Height: 2, Time: math.MaxUint64, Open: true, NextRecv: 1}
	for c, first := range []uint64{math.MaxUint64, 5} {
		want := []api.Head{{Open: true, NextRecv: 1}, {Height: 1, Time: first, Open: true, NextRecv: 1}, last}
		if !slices.Equal(s.Heads[c], want) {
			t.Errorf("headers of chain %d: %v, want %v", c, s.Heads[c], want)
		}
		if l := s.Looks[c]; l.Height != 2 || l.Time != math.MaxUint64 || l.Known != 0 {
			t.Errorf("Look(%d) = %v", c, l)
		}
	}
}

func TestHeadersSayWhatWasWhenTheirHeightWasReached(t *testing.T) {
	b := begin(t, 100)
	want := []api.Head{{Open: true, NextRecv: 1}}
	for k := range 5 {
		for range k {
			if _, e := b.Do(1, send(api.Packet{From: 1, Coin: 1, Amount: 1, Height: 1})); e != api.OK {
				t.Fatalf("Send: %d", e)
			}
		}
		do(t, b, 1, tick(7), 0, api.OK)
		last := want[k]
		want = append(want, api.Head{Height: last.Height + 1, Time: last.Time + 7, Open: true, NextRecv: 1, Packets: last.Packets + k})
	}
	do(t, b, 1, send(api.Packet{From: 1, Coin: 1, Amount: 1, Height: 1}), 11, api.OK)
	if s := tell(t, b); !slices.Equal(s.Heads[1], want) || len(s.Heads[0]) != 1 {
		t.Errorf("headers: %v, want %v", s.Heads, want)
	}
}

func TestHeadOfWhatIsNotThere(t *testing.T) {
	b := begin(t, 100)
	do(t, b, 1, tick(7), 0, api.OK)
	for _, x := range []struct {
		c      int
		height uint64
		e      api.Errno
	}{
		{0, 1, api.ErrHeader}, {1, 2, api.ErrHeader}, {1, 1 << 32, api.ErrHeader}, {1, 1 << 63, api.ErrHeader}, {1, math.MaxUint64, api.ErrHeader},
		{-1, 0, api.ErrChain}, {2, 0, api.ErrChain}, {2, 9, api.ErrChain}, {math.MinInt, 0, api.ErrChain}, {math.MaxInt, 0, api.ErrChain},
	} {
		if h, e := b.Head(x.c, x.height); h != (api.Head{}) || e != x.e {
			t.Errorf("Head(%d, %d) = %v, %d, want %d", x.c, x.height, h, e, x.e)
		}
	}
}

func TestSame(t *testing.T) {
	b := begin(t, 100)
	for c := range 2 {
		do(t, b, c, tick(4), 0, api.OK)
		do(t, b, c, send(api.Packet{Coin: c, Amount: uint64(c) + 1, Height: 1}), 1, api.OK)
		do(t, b, c, tick(uint64(c)), 0, api.OK)
		do(t, b, c, tick(1-uint64(c)), 0, api.OK)
	}
	do(t, b, 0, send(valid()), 2, api.OK)
	do(t, b, 0, tick(0), 0, api.OK)
	do(t, b, 1, tick(0), 0, api.OK)
	for _, x := range []struct {
		c      int
		height uint64
		d      int
		other  uint64
		want   bool
	}{
		{0, 0, 1, 0, true}, {0, 1, 1, 1, true}, {1, 1, 0, 1, true}, {0, 3, 1, 3, true}, {1, 4, 1, 4, true},
		{0, 0, 0, 1, false}, {0, 2, 0, 3, false}, {0, 2, 1, 2, false}, {0, 4, 1, 4, false},
		{0, 5, 0, 5, false}, {0, 5, 1, 5, false}, {0, 0, 1, 5, false}, {1, 5, 0, 0, false},
		{2, 0, 2, 0, false}, {-1, 0, -1, 0, false}, {0, 0, 2, 0, false}, {2, 0, 0, 0, false},
		{0, math.MaxUint64, 0, math.MaxUint64, false},
	} {
		if got := b.Same(x.c, x.height, x.d, x.other); got != x.want {
			t.Errorf("Same(%d, %d, %d, %d) = %v", x.c, x.height, x.d, x.other, got)
		}
	}
}

func TestBalanceOfWhatIsNotThere(t *testing.T) {
	b := begin(t, 100)
	for _, n := range []int{math.MinInt, -1, 3, math.MaxInt} {
		for _, x := range [][3]int{{n, 0, 0}, {0, n, 0}, {0, 0, n}, {1, n, 1}, {1, 0, n}, {n, n, n}} {
			if got := b.Balance(x[0], x[1], x[2]); got != 0 {
				t.Errorf("Balance%v = %d", x, got)
			}
		}
	}
	if x, y := b.Balance(2, 0, 0), b.Balance(0, 0, 2); x != 0 || y != 0 {
		t.Errorf("Balance of chain 2: %d, of coin 2: %d", x, y)
	}
}

func TestLookAtWhatIsNotThere(t *testing.T) {
	b := begin(t, 100)
	for _, c := range []int{math.MinInt, -1, 2, math.MaxInt} {
		if l, e := b.Look(c); e != api.ErrChain || !reflect.DeepEqual(l, api.Look{}) {
			t.Errorf("Look(%d) = %v, %d", c, l, e)
		}
	}
}

func TestPendingIsRisingAndTheCallers(t *testing.T) {
	b := begin(t, 100)
	var want []uint64
	for n := range uint64(40) {
		do(t, b, 0, send(validFrom(int(n%3))), n+1, api.OK)
		want = append(want, n+1)
	}
	l, _ := b.Look(0)
	if !slices.Equal(l.Pending, want) {
		t.Errorf("Pending = %v, want %v", l.Pending, want)
	}
	m, _ := b.Look(0)
	before := tell(t, b)
	for _, list := range [][]uint64{l.Pending, l.Pending[:cap(l.Pending)]} {
		for k := range list {
			list[k] = 99
		}
	}
	if !slices.Equal(m.Pending, want) {
		t.Errorf("another's Pending = %v, want %v", m.Pending, want)
	}
	same(t, "a changed list", tell(t, b), before)

	n, _ := b.Look(0)
	room := n.Pending[:cap(n.Pending)]
	old := slices.Clone(room)
	do(t, b, 0, send(validFrom(1)), 41, api.OK)
	do(t, b, 0, tick(1), 0, api.OK)
	if _, e := b.Look(0); e != api.OK || !slices.Equal(room, old) {
		t.Errorf("a list that was handed out has become %v, was %v", room, old)
	}
}

func TestTakenCountsStepsWithoutAnError(t *testing.T) {
	b := begin(t, 100)
	want := 0
	for k, x := range []struct {
		c int
		s api.Step
		e api.Errno
	}{
		{0, tick(0), api.OK}, {1, tick(9), api.OK}, {2, tick(0), api.ErrChain}, {0, api.Step{}, api.ErrKind},
		{0, send(valid()), api.OK}, {1, send(valid()), api.ErrFunds}, {1, tick(math.MaxUint64), api.ErrTime}, {0, send(valid()), api.OK},
	} {
		if _, e := b.Do(x.c, x.s); e != x.e {
			t.Fatalf("step %d: %d, want %d", k, e, x.e)
		}
		if x.e == api.OK {
			want++
		}
		if n := b.Taken(); n != want {
			t.Errorf("Taken() = %d behind step %d, want %d", n, k, want)
		}
	}
}

func TestBridgesDoNotHangOnEachOther(t *testing.T) {
	quiet := begin(t, 100)
	before := tell(t, quiet)
	busy := begin(t, 100)
	for k := range 20 {
		do(t, busy, 0, send(validFrom(k%3)), uint64(k)+1, api.OK)
		do(t, busy, 1, tick(3), 0, api.OK)
		do(t, busy, 0, tick(1), 0, api.OK)
	}
	same(t, "another bridge", tell(t, quiet), before)
	do(t, quiet, 0, send(valid()), 1, api.OK)
	if busy.Taken() != 60 || quiet.Taken() != 1 {
		t.Errorf("Taken() = %d and %d", busy.Taken(), quiet.Taken())
	}
}

// No coin of a chain is lost or made: what the accounts have and what is locked stays as many, and of what is locked only so much is about at the other as its accounts have.
func TestCoinsStayAsMany(t *testing.T) {
	x := numbers(7)
	locked := 0
	for range 20 {
		b := begin(t, 1000)
		for k := range 1000 {
			c := int(x.below(2))
			b.Do(c, x.likely(look(t, b, c), look(t, b, 1-c).Height))
			if k%50 == 49 {
				locked += coinsAsMany(t, b, 1000)
			}
		}
	}
	if locked < 400 {
		t.Errorf("only %d times coins were locked", locked)
	}
}

// coinsAsMany: at how many chains there are coins that are locked.
func coinsAsMany(t *testing.T, b *bridge.Bridge, coins uint64) (locked int) {
	t.Helper()
	s := tell(t, b)
	for c := range 2 {
		all, about := s.Looks[c].Locked, uint64(0)
		for user := range api.Users {
			all += s.Funds[c][user][c]
			about += s.Funds[1-c][user][c]
		}
		if all != api.Users*coins {
			t.Errorf("chain %d: %d coins in all, %d locked", c, all, s.Looks[c].Locked)
		}
		if about != s.Looks[1-c].About || about > s.Looks[c].Locked {
			t.Errorf("coin %d: %d about, %d in accounts, %d locked", c, s.Looks[1-c].About, about, s.Looks[c].Locked)
		}
		if s.Looks[c].Locked > 0 {
			locked++
		}
	}
	return locked
}

// Nor do the calls panic on a bridge that New did not make.
func TestNoBridge(t *testing.T) {
	for _, b := range []*bridge.Bridge{nil, {}} {
		for c := range 2 {
			do(t, b, c, tick(0), 0, api.ErrChain)
			do(t, b, c, send(valid()), 0, api.ErrChain)
			if _, e := b.Look(c); e != api.ErrChain {
				t.Errorf("Look(%d): %d", c, e)
			}
			if _, e := b.Head(c, 0); e != api.ErrChain {
				t.Errorf("Head(%d, 0): %d", c, e)
			}
			if n := b.Balance(c, 0, c); n != 0 {
				t.Errorf("Balance(%d, 0, %d) = %d", c, c, n)
			}
		}
		b.Run([]api.Step{tick(0)}, nil)
		if n := b.Taken(); n != 0 || b.Same(0, 0, 1, 0) {
			t.Errorf("Taken() = %d, Same: %v", n, b.Same(0, 0, 1, 0))
		}
	}
}

// A header without news costs no more than its few words, however much is pending.
func TestManyTicksWithMuchPending(t *testing.T) {
	b := begin(t, api.MaxCoins)
	for n := range uint64(2000) {
		do(t, b, 0, send(valid()), n+1, api.OK)
	}
	for range 100000 {
		do(t, b, 0, tick(1), 0, api.OK)
	}
	if h, e := b.Head(0, 100000); e != api.OK || h.Packets != 2000 || h.Time != 100000 {
		t.Errorf("Head = %v, %d", h, e)
	}
}
