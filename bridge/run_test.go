package bridge_test

import (
	"math"
	"runtime"
	"slices"
	"testing"
	"time"

	"bridge/api"
	"bridge/bridge"
)

func run(t *testing.T, b *bridge.Bridge, first, second []api.Step, x, y []api.Errno) {
	t.Helper()
	gotX, gotY := b.Run(first, second)
	if !slices.Equal(gotX, x) || !slices.Equal(gotY, y) {
		t.Fatalf("Run(%v, %v) =\n%v, %v, want\n%v, %v", first, second, gotX, gotY, x, y)
	}
}

// oks: so many steps without an error.
func oks(n int) []api.Errno { return make([]api.Errno, n) }

// each: what comes of steps of one chain, one behind the other by Do.
func each(b *bridge.Bridge, c int, l []api.Step) (out []api.Errno) {
	for _, s := range l {
		_, e := b.Do(c, s)
		out = append(out, e)
	}
	return out
}

// The document's example 10.
func TestRunOfANewBridge(t *testing.T) {
	b := begin(t, 100)
	want := tell(t, b)
	l := []api.Step{tick(1), update(1)}
	run(t, b, l, l, []api.Errno{api.OK, api.ErrHeader}, []api.Errno{api.OK, api.ErrHeader})
	for c := range 2 {
		want.Looks[c].Height, want.Looks[c].Time = 1, 1
		want.Heads[c] = append(want.Heads[c], api.Head{Height: 1, Time: 1, Open: true, NextRecv: 1})
	}
	want.Taken = 2
	same(t, "Run", tell(t, b), want)
	run(t, b, l[1:], l[1:], oks(1), oks(1))
}

// Steps of first are chain 0's alone and those of second chain 1's, each in its order.
func TestRunDoesEachListOnItsChainInOrder(t *testing.T) {
	b := begin(t, 100)
	first := []api.Step{tick(3), send(valid()), tick(4), send(api.Packet{From: 0, Amount: 99, Time: 1}), send(valid()), tick(5)}
	second := []api.Step{send(api.Packet{From: 2, Coin: 1, Amount: 7, Time: 9}), tick(10), shut(), tick(20), send(api.Packet{Coin: 1, Amount: 1, Time: 9})}
	run(t, b, first, second, []api.Errno{api.OK, api.OK, api.OK, api.OK, api.ErrFunds, api.OK}, []api.Errno{api.OK, api.OK, api.OK, api.OK, api.ErrClosed})
	s := tell(t, b)
	heads := [2][]api.Head{
		{{Open: true, NextRecv: 1}, {Height: 1, Time: 3, Open: true, NextRecv: 1}, {Height: 2, Time: 7, Open: true, NextRecv: 1, Packets: 1}, {Height: 3, Time: 12, Open: true, NextRecv: 1, Packets: 2}},
		{{Open: true, NextRecv: 1}, {Height: 1, Time: 10, Open: true, NextRecv: 1, Packets: 1}, {Height: 2, Time: 30, NextRecv: 1, Packets: 1}},
	}
	for c, l := range []api.Look{
		{Height: 3, Time: 12, Open: true, NextSend: 3, NextRecv: 1, Pending: []uint64{1, 2}, Locked: 100},
		{Height: 2, Time: 30, NextSend: 2, NextRecv: 1, Pending: []uint64{1}, Locked: 7},
	} {
		if got := s.Looks[c]; !slices.Equal(got.Pending, l.Pending) || got.Locked != l.Locked || got.Open != l.Open || got.NextSend != l.NextSend || got.Time != l.Time {
			t.Errorf("Look(%d) = %v, want %v", c, got, l)
		}
		if !slices.Equal(s.Heads[c], heads[c]) {
			t.Errorf("headers of chain %d: %v, want %v", c, s.Heads[c], heads[c])
		}
	}
	if s.Funds[0][0][0] != 0 || s.Funds[1][2][1] != 93 || s.Taken != 9 {
		t.Errorf("funds %v, taken %d", s.Funds, s.Taken)
	}
}

// full: a bridge on which steps of all kinds may come to no error, on either chain: 1 to 4 are sent and seen, the first two received and answered (the second not credited), and the answers seen.
func full(t *testing.T) *bridge.Bridge {
	t.Helper()
	b := begin(t, 100)
	for c := range 2 {
		for _, to := range []int{1, 7, 2, 0} {
			all(t, b, c, send(api.Packet{From: 0, To: to, Coin: c, Amount: 10, Height: 9, Time: 50}))
		}
		all(t, b, c, tick(1))
	}
	for c := range 2 {
		all(t, b, c, update(1), recv(1), recv(2), tick(2), tick(3))
	}
	for c := range 2 {
		all(t, b, c, update(2))
	}
	return b
}

// mixed: lists for full, each with steps of all kinds, taken and refused.
func mixed() (lists [2][]api.Step, came [2][]api.Errno) {
	for c := range 2 {
		for _, x := range []struct {
			s api.Step
			e api.Errno
		}{
			{recv(4), api.ErrOrder}, {recv(3), api.OK}, {ack(2), api.ErrOrder}, {ack(1), api.OK}, {ack(1), api.ErrPacket}, {ack(2), api.OK}, {ack(3), api.ErrAck},
			{send(api.Packet{From: 1, Coin: 1 - c, Amount: 10, Height: 8}), api.OK}, {send(api.Packet{From: 1, Coin: 1 - c, Amount: 1, Height: 8}), api.ErrFunds},
			{send(api.Packet{From: 3}), api.ErrUser}, {send(api.Packet{Coin: 2}), api.ErrCoin}, {send(api.Packet{Height: 1}), api.ErrAmount}, {send(api.Packet{Coin: c, Amount: 1}), api.ErrDue},
			{timeout(3), api.ErrEarly}, {timeout(9), api.ErrPacket}, {timeoutClosed(3), api.ErrOpen}, {confirm(), api.ErrOpen},
			{update(2), api.ErrHeader}, {update(4), api.ErrHeader}, {update(3), api.OK}, {update(3), api.ErrHeader},
			{tick(math.MaxUint64), api.ErrTime}, {tick(1000), api.OK}, {recv(4), api.ErrLate}, {api.Step{Kind: api.Confirm + 1}, api.ErrKind},
			{shut(), api.OK}, {shut(), api.ErrClosed}, {confirm(), api.ErrClosed}, {recv(4), api.ErrClosed}, {send(valid()), api.ErrClosed}, {tick(0), api.OK},
		} {
			lists[c], came[c] = append(lists[c], x.s), append(came[c], x.e)
		}
	}
	return lists, came
}

func TestRunTellsOfEachStep(t *testing.T) {
	lists, came := mixed()
	for c := range 2 {
		if got := each(full(t), c, lists[c]); !slices.Equal(got, came[c]) {
			t.Fatalf("by Do on chain %d: %v, want %v", c, got, came[c])
		}
	}
	b, other := full(t), full(t)
	run(t, b, lists[0], lists[1], came[0], came[1])
	each(other, 1, lists[1])
	each(other, 0, lists[0][:slices.IndexFunc(lists[0], func(s api.Step) bool { return s == update(2) })])
	all(t, other, 0, update(3), tick(1000), shut(), tick(0)) // without Update 4, which by Do would find what chain 1 has come to
	same(t, "Run", tell(t, b), tell(t, other))

	all(t, b, 0, update(5)) // what Run has done is there for what comes behind it
	all(t, b, 1, update(5))
	for c := range 2 {
		refused(t, b, c, timeoutClosed(3), api.ErrEarly)
		all(t, b, c, ack(3), timeout(4), timeoutClosed(5))
	}
}

// What comes to an error does nothing: without it all else is the same.
func TestErrorsOfRunChangeNothing(t *testing.T) {
	lists, came := mixed()
	var good [2][]api.Step
	for c := range 2 {
		for k, s := range lists[c] {
			if came[c][k] == api.OK {
				good[c] = append(good[c], s)
			}
		}
	}
	b, other := full(t), full(t)
	run(t, b, lists[0], lists[1], came[0], came[1])
	run(t, other, good[0], good[1], oks(len(good[0])), oks(len(good[1])))
	same(t, "errors among steps", tell(t, b), tell(t, other))

	before := tell(t, b)
	closed := []api.Step{shut(), send(valid()), recv(4), confirm(), update(3), update(9), ack(9), timeout(9), timeoutClosed(9), tick(math.MaxUint64), {}}
	errors := []api.Errno{api.ErrClosed, api.ErrClosed, api.ErrClosed, api.ErrClosed, api.ErrHeader, api.ErrHeader, api.ErrPacket, api.ErrPacket, api.ErrPacket, api.ErrTime, api.ErrKind}
	run(t, b, closed, closed, errors, errors)
	same(t, "errors alone", tell(t, b), before)
}

func TestRunOfWrongSteps(t *testing.T) {
	b := full(t)
	before := tell(t, b)
	var l []api.Step
	var want []api.Errno
	put := func(s api.Step, e api.Errno) {
		l, want = append(l, s), append(want, e)
	}
	for _, k := range []api.Kind{math.MinInt, -1, 0, api.Confirm + 1, math.MaxInt} {
		put(api.Step{Kind: k, N: 1, P: valid()}, api.ErrKind)
	}
	for _, n := range []uint64{1 << 63, math.MaxUint64 - 1, math.MaxUint64} {
		put(update(n), api.ErrHeader)
		put(recv(n), api.ErrOrder)
		for _, s := range []api.Step{ack(n), timeout(n), timeoutClosed(n)} {
			put(s, api.ErrPacket)
		}
	}
	put(update(0), api.ErrHeader)
	put(recv(0), api.ErrOrder)
	put(tick(math.MaxUint64-5), api.ErrTime)
	for _, n := range []int{math.MinInt, -1, 3, math.MaxInt} {
		put(send(api.Packet{From: n, Coin: n}), api.ErrUser)
		put(send(api.Packet{Coin: n}), api.ErrCoin)
	}
	put(send(api.Packet{Amount: math.MaxUint64}), api.ErrFunds)
	run(t, b, l, l, want, want)
	same(t, "wrong steps", tell(t, b), before)
}

// On either chain, however long ago within the call the other has ticked.
func TestRunUpdatesByTheHeadersAheadOfTheCall(t *testing.T) {
	for c := range 2 {
		b := begin(t, 100)
		all(t, b, c, send(api.Packet{To: 1, Coin: c, Amount: 5, Height: 1 << 40}), tick(1), tick(1), tick(1))
		var lists [2][]api.Step
		var want [2][]api.Errno
		for range 500 {
			lists[c] = append(lists[c], send(api.Packet{To: 1, Coin: c, Amount: 1, Height: 1 << 40}), tick(0))
			lists[1-c] = append(lists[1-c], update(4), tick(0))
			want[1-c] = append(want[1-c], api.ErrHeader, api.OK)
		}
		want[c] = slices.Concat(oks(190), slices.Repeat([]api.Errno{api.ErrFunds, api.OK}, 405))
		lists[1-c] = append(lists[1-c], update(1), update(2), recv(1), update(2), update(4), update(3), update(4), update(503), recv(2))
		want[1-c] = append(want[1-c], api.OK, api.OK, api.OK, api.ErrHeader, api.ErrHeader, api.OK, api.ErrHeader, api.ErrHeader, api.ErrPacket)
		run(t, b, lists[0], lists[1], want[0], want[1])
		if l := look(t, b, 1-c); l.Known != 3 || l.NextRecv != 2 || l.Height != 500 {
			t.Errorf("Look(%d) = %v", 1-c, l)
		}
		lists[c], lists[1-c] = []api.Step{update(501), update(500), ack(1)}, []api.Step{update(504), update(4), recv(2), recv(3), update(503), recv(3)}
		want[c], want[1-c] = []api.Errno{api.ErrHeader, api.OK, api.ErrAck}, []api.Errno{api.ErrHeader, api.OK, api.OK, api.ErrPacket, api.OK, api.OK}
		run(t, b, lists[0], lists[1], want[0], want[1])
	}
}

// Short calls, many of them: the other's first tick comes as near to the beginning of the call as may be.
func TestRunNeverUpdatesByAHeaderOfTheCall(t *testing.T) {
	for range 200 {
		b := begin(t, 100)
		for height := range uint64(100) {
			l := []api.Step{tick(0), update(height + 1)}
			run(t, b, l[:1], l[1:], oks(1), []api.Errno{api.ErrHeader})
			run(t, b, l[1:], l[:1], []api.Errno{api.ErrHeader}, oks(1))
			run(t, b, l[1:], l[1:], oks(1), oks(1))
		}
	}
}

// Nothing of the other chain is seen but by a header: not what it sends, not that it closes, not its answers.
func TestRunSeesNothingOfTheOtherChain(t *testing.T) {
	for c := range 2 {
		b := begin(t, 100)
		var lists [2][]api.Step
		var want [2][]api.Errno
		lists[c] = []api.Step{send(api.Packet{To: 1, Coin: c, Amount: 5, Height: 9}), tick(0), shut(), tick(0)}
		want[c] = oks(4)
		for range 200 {
			lists[1-c] = append(lists[1-c], update(1), update(2), recv(1), confirm())
			want[1-c] = append(want[1-c], api.ErrHeader, api.ErrHeader, api.ErrPacket, api.ErrOpen)
		}
		run(t, b, lists[0], lists[1], want[0], want[1])
		lists[1-c] = []api.Step{recv(1), confirm(), update(1), confirm(), recv(1), update(2), confirm(), recv(2), tick(0)}
		want[1-c] = []api.Errno{api.ErrPacket, api.ErrOpen, api.OK, api.ErrOpen, api.OK, api.OK, api.OK, api.ErrClosed, api.OK}
		lists[c] = slices.Repeat([]api.Step{update(1), ack(1)}, 200)
		want[c] = slices.Repeat([]api.Errno{api.ErrHeader, api.ErrAck}, 200)
		run(t, b, lists[0], lists[1], want[0], want[1])
		all(t, b, c, update(1), ack(1))
	}
}

// Where no Update goes beyond what was there ahead of the call, it is of no matter how the chains' steps lie between each other.
func TestRunIsAsDoInAnyOrder(t *testing.T) {
	x := numbers(11)
	for round := range 40 {
		b, zero, one, turns := full(t), full(t), full(t), full(t)
		var lists [2][]api.Step
		for c := range 2 {
			for range 30 {
				if s := x.likely(look(t, b, c), 3); s.Kind != api.Update || s.N <= 3 {
					lists[c] = append(lists[c], s)
				}
			}
		}
		wantX := each(zero, 0, lists[0])
		wantY := each(zero, 1, lists[1])
		each(one, 1, lists[1])
		each(one, 0, lists[0])
		for k := range 30 {
			for c := range 2 {
				if k < len(lists[c]) {
					turns.Do(c, lists[c][k])
				}
			}
		}
		run(t, b, lists[0], lists[1], wantX, wantY)
		same(t, "chain 0 first", tell(t, b), tell(t, zero))
		same(t, "chain 1 first", tell(t, b), tell(t, one))
		same(t, "in turns", tell(t, b), tell(t, turns))
		if t.Failed() {
			t.Fatalf("round %d: %v", round, lists)
		}
	}
}

func TestRunOfNoSteps(t *testing.T) {
	b := full(t)
	before := tell(t, b)
	for _, first := range [][]api.Step{nil, {}} {
		for _, second := range [][]api.Step{nil, {}} {
			run(t, b, first, second, nil, nil)
		}
	}
	same(t, "no steps", tell(t, b), before)
	run(t, b, []api.Step{tick(1), {}}, nil, []api.Errno{api.OK, api.ErrKind}, nil)
	run(t, b, nil, []api.Step{{}, tick(2), tick(2)}, nil, []api.Errno{api.ErrKind, api.OK, api.OK})
	run(t, b, []api.Step{}, []api.Step{tick(0)}, nil, oks(1))
	if s := tell(t, b); s.Looks[0].Height != before.Looks[0].Height+1 || s.Looks[1].Height != before.Looks[1].Height+3 || s.Taken != before.Taken+4 {
		t.Errorf("Looks %v, Taken %d", s.Looks, s.Taken)
	}
}

func TestTakenCountsTheStepsOfRunToo(t *testing.T) {
	b := begin(t, 100)
	do(t, b, 0, tick(0), 0, api.OK)
	want := 1
	for _, n := range []int{0, 1, 7, 3000} {
		first := slices.Repeat([]api.Step{tick(0), {}, tick(1)}, n)
		second := slices.Repeat([]api.Step{recv(9), tick(0)}, 2*n)
		run(t, b, first, second, slices.Repeat([]api.Errno{api.OK, api.ErrKind, api.OK}, n), slices.Repeat([]api.Errno{api.ErrOrder, api.OK}, 2*n))
		if want += 4 * n; b.Taken() != want {
			t.Errorf("Taken() = %d, want %d", b.Taken(), want)
		}
	}
	do(t, b, 1, tick(0), 0, api.OK)
	if b.Taken() != want+1 {
		t.Errorf("Taken() = %d, want %d", b.Taken(), want+1)
	}
}

func TestRunOnlyReadsItsLists(t *testing.T) {
	lists, came := mixed()
	b := full(t)
	var whole, old [2][]api.Step
	for c := range 2 {
		whole[c] = append(slices.Clone(lists[c]), make([]api.Step, 9)...)
		old[c] = slices.Clone(whole[c])
	}
	run(t, b, whole[0][:len(lists[0])], whole[1][:len(lists[1])], came[0], came[1])
	for c := range 2 {
		if !slices.Equal(whole[c], old[c]) {
			t.Errorf("list %d has become %v, was %v", c, whole[c], old[c])
		}
	}
	before := tell(t, b)
	for c := range 2 {
		for k := range whole[c] {
			whole[c][k] = send(api.Packet{Seq: 9, From: 9, Coin: 9, Amount: 9, Height: 1, Time: 1})
		}
	}
	same(t, "changed lists of steps", tell(t, b), before)
	all(t, b, 0, update(5))
	all(t, b, 0, timeoutClosed(5)) // the packet is still the one that was sent
	if n := b.Balance(0, 1, 1); n != 10 {
		t.Errorf("Balance(0, 1, 1) = %d, want 10", n)
	}
}

// One list may be both.
func TestRunOfOneListTwice(t *testing.T) {
	b := begin(t, 100)
	l := []api.Step{tick(1), send(valid()), tick(2), tick(4), tick(8)}
	run(t, b, l[:4], l[1:], oks(4), []api.Errno{api.ErrFunds, api.OK, api.OK, api.OK})
	if x, y := look(t, b, 0), look(t, b, 1); x.Time != 7 || y.Time != 14 {
		t.Errorf("times %d and %d, want 7 and 14", x.Time, y.Time)
	}
}

func TestRunHandsOutNewLists(t *testing.T) {
	lists, came := mixed()
	b, other := full(t), full(t)
	x, y := b.Run(lists[0], lists[1])
	otherX, otherY := other.Run(lists[0], lists[1])
	before := tell(t, b)
	x = x[:cap(x)]
	for k := range x {
		x[k] = 99
	}
	if !slices.Equal(y, came[1]) || !slices.Equal(otherX, came[0]) || !slices.Equal(otherY, came[1]) {
		t.Errorf("other lists have become %v, %v, %v", y, otherX, otherY)
	}
	y = y[:cap(y)]
	for k := range y {
		y[k] = 88
	}
	same(t, "changed lists", tell(t, b), before)
	oldX, oldY := slices.Clone(x), slices.Clone(y)
	run(t, b, []api.Step{tick(0), {}}, []api.Step{{}, {}, tick(0)}, []api.Errno{api.OK, api.ErrKind}, []api.Errno{api.ErrKind, api.ErrKind, api.OK})
	if !slices.Equal(x, oldX) || !slices.Equal(y, oldY) {
		t.Errorf("lists of an earlier call have become %v, %v", x, y)
	}
}

func TestRunOfManySteps(t *testing.T) {
	b := begin(t, api.MaxCoins)
	const many = 20000
	var first, second []api.Step
	for range many {
		first = append(first, send(api.Packet{To: 1, Amount: 1, Height: 1 << 40}))
	}
	run(t, b, append(first, tick(0)), nil, oks(many+1), nil)
	second = append(second, update(1))
	for n := range uint64(many) {
		second = append(second, recv(n+1), tick(1))
	}
	run(t, b, []api.Step{tick(0), tick(0)}, second, oks(2), oks(2*many+1))
	if n := b.Balance(1, 1, 0); n != many {
		t.Errorf("Balance(1, 1, 0) = %d, want %d", n, many)
	}
}

// Many short calls: what one costs does not grow with the headers that are known.
func TestManyRuns(t *testing.T) {
	b := begin(t, api.MaxCoins)
	const many = 20000
	for n := uint64(1); n <= many; n++ {
		run(t, b, []api.Step{send(api.Packet{To: 1, Amount: 1, Height: 1 << 40}), tick(0)}, nil, oks(2), nil)
		run(t, b, nil, []api.Step{update(n), recv(n), tick(0)}, nil, oks(3))
		run(t, b, []api.Step{update(n), ack(n)}, nil, oks(2), nil)
	}
	if n := b.Balance(1, 1, 0); n != many || len(look(t, b, 0).Pending) != 0 {
		t.Errorf("Balance(1, 1, 0) = %d", n)
	}
}

// Nobody is left at work behind a call. One that has closed its channel may take a moment to be gone.
func TestRunLeavesNobodyAtWork(t *testing.T) {
	lists, came := mixed()
	before := runtime.NumGoroutine()
	for range 200 {
		b := full(t)
		run(t, b, lists[0], lists[1], came[0], came[1])
		run(t, b, nil, nil, nil, nil)
		(*bridge.Bridge)(nil).Run(lists[0], lists[1])
	}
	for range 2000 {
		if runtime.NumGoroutine() <= before {
			return
		}
		time.Sleep(time.Millisecond)
	}
	t.Errorf("%d at work, ahead of the calls %d", runtime.NumGoroutine(), before)
}

func TestRunOfBridgesAtTheSameTime(t *testing.T) {
	lists, came := mixed()
	var all [8]*bridge.Bridge
	for k := range all {
		all[k] = full(t)
	}
	done := make(chan [2][]api.Errno)
	for _, b := range all {
		go func() {
			x, y := b.Run(lists[0], lists[1])
			done <- [2][]api.Errno{x, y}
		}()
	}
	for range all {
		if got := <-done; !slices.Equal(got[0], came[0]) || !slices.Equal(got[1], came[1]) {
			t.Errorf("Run = %v, want %v", got, came)
		}
	}
	for _, b := range all[1:] {
		same(t, "another bridge", tell(t, b), tell(t, all[0]))
	}
}

// Nor does Run panic on a bridge that New did not make: its steps come to what they come to by Do.
func TestRunOfNoBridge(t *testing.T) {
	for _, b := range []*bridge.Bridge{nil, {}} {
		l := []api.Step{tick(0), update(1), send(valid()), {}}
		want := slices.Repeat([]api.Errno{api.ErrChain}, 4)
		run(t, b, l, l, want, want)
		run(t, b, nil, l[:1], nil, want[:1])
		run(t, b, nil, nil, nil, nil)
		if n := b.Taken(); n != 0 {
			t.Errorf("Taken() = %d", n)
		}
	}
}
