package bridge

import (
	"maps"
	"math"
	"slices"

	"bridge/api"
)

// holding: an account and a coin that it may have.
type holding struct {
	user, coin int
}

// chain: one of the two, with its end of the channel.
type chain struct {
	end
	own           int // its own coin
	height, time  uint64
	funds         map[holding]uint64 // none of a coin: no entry
	locked, about uint64
	headers       []header // by height
	known         view     // of the other chain
}

// newChain: as it is at the beginning, but for what it knows of the other, which New lays in.
func newChain(own int, coins uint64) chain {
	c := chain{end: newEnd(), own: own, funds: map[holding]uint64{}}
	if coins > 0 {
		for user := range api.Users {
			c.funds[holding{user, own}] = coins
		}
	}
	c.headers = []header{c.tell()}
	return c
}

// step: of any kind; others are the other chain's headers that Update may go by. An error leaves the chain as it was.
func (c *chain) step(s api.Step, others []header) (uint64, api.Errno) {
	switch s.Kind {
	case api.Send:
		return c.send(s.P)
	case api.Tick:
		return 0, c.tick(s.N)
	case api.Update:
		return 0, c.update(s.N, others)
	case api.Recv:
		return 0, c.receive(s.N)
	case api.Ack:
		return 0, c.acknowledge(s.N)
	case api.Timeout:
		return 0, c.timeout(s.N)
	case api.TimeoutClosed:
		return 0, c.timeoutClosed(s.N)
	case api.Close:
		return 0, c.shut()
	case api.Confirm:
		return 0, c.confirm()
	}
	return 0, api.ErrKind
}

func (c *chain) send(p api.Packet) (uint64, api.Errno) {
	if e := c.refusal(p); e != api.OK {
		return 0, e
	}
	c.take(holding{p.From, p.Coin}, p.Amount)
	return c.post(p), api.OK
}

// refusal: why a packet may not be sent. Where several errors apply, the document's order decides.
func (c *chain) refusal(p api.Packet) api.Errno {
	switch {
	case !c.open:
		return api.ErrClosed
	case !account(p.From):
		return api.ErrUser
	case p.Coin != 0 && p.Coin != 1:
		return api.ErrCoin
	case p.Amount == 0:
		return api.ErrAmount
	case c.funds[holding{p.From, p.Coin}] < p.Amount:
		return api.ErrFunds
	case p.Height == 0 && p.Time == 0:
		return api.ErrDue
	}
	return api.OK
}

// account: is there one of that number?
func account(user int) bool {
	return user >= 0 && user < api.Users
}

// take: for a packet that goes out. The account must have so many; one that has none left keeps no entry.
func (c *chain) take(h holding, amount uint64) {
	if c.funds[h] == amount {
		delete(c.funds, h)
	} else {
		c.funds[h] -= amount
	}
	if h.coin == c.own {
		c.locked += amount
	} else {
		c.about -= amount
	}
}

// give: take's other way, for a packet that has come over or comes back. No sum wraps round: the accounts of both chains never have more of a coin than they had at the beginning.
func (c *chain) give(h holding, amount uint64) {
	c.funds[h] += amount
	if h.coin == c.own {
		c.locked -= amount
	} else {
		c.about += amount
	}
}

func (c *chain) tick(passed uint64) api.Errno {
	if passed > math.MaxUint64-c.time { // the sum itself would wrap round
		return api.ErrTime
	}
	c.time += passed
	c.height++
	c.headers = append(c.headers, c.tell())
	return api.OK
}

func (c *chain) look() api.Look {
	return api.Look{
		Height:   c.height,
		Time:     c.time,
		Known:    c.known.Height,
		Open:     c.open,
		NextSend: c.nextSend,
		NextRecv: c.nextRecv,
		Pending:  slices.Sorted(maps.Keys(c.pending)),
		Locked:   c.locked,
		About:    c.about,
	}
}
