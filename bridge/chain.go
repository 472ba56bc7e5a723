package bridge

import (
	"maps"
	"math"
	"slices"

	"bridge/api"
)

// holding: an account and a coin that it may have.
type holding struct {
	user, coin int
}

// chain: one of the two, with its end of the channel.
type chain struct {
	end
	own           int // its own coin
	height, time  uint64
	funds         map[holding]uint64 // none of a coin: no entry
	locked, about uint64
	headers       []header // by height
	known         header   // of the other chain
}

// newChain: as it is at the beginning, but for the other's header, which New lays in.
func newChain(own int, coins uint64) chain {
	c := chain{end: newEnd(), own: own, funds: map[holding]uint64{}}
	if coins > 0 {
		for user := range api.Users {
			c.funds[holding{user, own}] = coins
		}
	}
	c.headers = []header{c.tell()}
	return c
}

// step: of any kind. An error leaves the chain as it was.
func (c *chain) step(s api.Step) (uint64, api.Errno) {
	switch s.Kind {
	case api.Send:
		return c.send(s.P)
	case api.Tick:
		return 0, c.tick(s.N)
	}
	return 0, api.ErrKind
}

func (c *chain) send(p api.Packet) (uint64, api.Errno) {
	if e := c.refusal(p); e != api.OK {
		return 0, e
	}
	c.take(holding{p.From, p.Coin}, p.Amount)
	if p.Coin == c.own {
		c.locked += p.Amount
	} else {
		c.about -= p.Amount
	}
	return c.post(p), api.OK
}

// refusal: why a packet may not be sent. Where several errors apply, the document's order decides.
func (c *chain) refusal(p api.Packet) api.Errno {
	switch {
	case !c.open:
		return api.ErrClosed
	case p.From < 0 || p.From >= api.Users:
		return api.ErrUser
	case p.Coin != 0 && p.Coin != 1:
		return api.ErrCoin
	case p.Amount == 0:
		return api.ErrAmount
	case c.funds[holding{p.From, p.Coin}] < p.Amount:
		return api.ErrFunds
	case p.Height == 0 && p.Time == 0:
		return api.ErrDue
	}
	return api.OK
}

// take: the account must have so many. An account that has none left keeps no entry.
func (c *chain) take(h holding, amount uint64) {
	if c.funds[h] == amount {
		delete(c.funds, h)
		return
	}
	c.funds[h] -= amount
}

func (c *chain) tick(passed uint64) api.Errno {
	if passed > math.MaxUint64-c.time { // the sum itself would wrap round
		return api.ErrTime
	}
	c.time += passed
	c.height++
	c.headers = append(c.headers, c.tell())
	return api.OK
}

func (c *chain) look() api.Look {
	return api.Look{
		Height:   c.height,
		Time:     c.time,
		Known:    c.known.Height,
		Open:     c.open,
		NextSend: c.nextSend,
		NextRecv: c.nextRecv,
		Pending:  slices.Sorted(maps.Keys(c.pending)),
		Locked:   c.locked,
		About:    c.about,
	}
}
