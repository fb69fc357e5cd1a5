package bank

import (
	"paystone/api"
	"paystone/post"
)

// other has for each side the one that it sends to.
var other = [2]int{api.SideCards: api.SideShops, api.SideShops: api.SideCards}

// send: all that side n keeps goes out once more, it may have been lost; and the other side is told how many came, to keep them no longer.
func (g *going) send(n int) api.Errno {
	if !isSide(n) {
		return api.ErrNone
	}
	way := g.Ways[other[n]]
	for _, t := range g.Senders[n].Kept {
		way = append(way, api.Packet{Transfer: t, Seen: -1})
	}
	way = append(way, api.Packet{Seen: g.Seen[n]})
	if len(way) > api.MaxWay {
		return api.ErrMany
	}
	g.Ways[other[n]] = way
	return api.OK
}

// next answers what is next on its way to side n, which it isn't any more then.
func (g *going) next(n int) (api.Packet, api.Errno) {
	if !isSide(n) || len(g.Ways[n]) == 0 {
		return api.Packet{}, api.ErrNone
	}
	p := g.Ways[n][0]
	g.Ways[n] = g.Ways[n][1:]
	return p, api.OK
}

// arrive: what is next on its way to side n comes there.
func (g *going) arrive(n int) api.Errno {
	p, err := g.next(n)
	if err != api.OK {
		return err
	}
	if p.Seen >= 0 {
		return g.back(n, p.Seen)
	}
	seen, ok := post.Take(g.Seen[n], p.Transfer)
	if !ok {
		return api.OK
	}
	g.Seen[n] = seen
	return g.take(p.Transfer)
}

// back: side n is told that the other one saw so many of its transfers.
func (g *going) back(n, seen int) api.Errno {
	s, err := post.Back(g.Senders[n], seen)
	if err != api.OK {
		return err
	}
	g.Senders[n] = s
	return api.OK
}

// take: the money is where the transfer brings it.
func (g *going) take(t api.Transfer) api.Errno {
	a := g.Auths[t.Auth]
	switch t.Kind {
	case api.ToShop:
		return g.shopGets(a.Shop, api.Transit, t.Sum)
	case api.ToCard:
		return g.cardGets(a.Card, api.Transit, t.Sum)
	}
	// FromShop: senders keep no other kind.
	return g.shopGives(a.Shop, api.Disputes, t.Sum)
}

func isSide(n int) bool { return n >= 0 && n < len(other) }
