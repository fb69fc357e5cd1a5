package bank

import (
	"cmp"

	"paystone/api"
	"paystone/auth"
	"paystone/book"
	"paystone/card"
	"paystone/day"
	"paystone/post"
	"paystone/stand"
)

// going is a bank that goes on, and what it told of that which was done under an ID.
//
// What its methods do they do to a bank that is dropped if one of them refuses: behind an error it doesn't matter what else was done, and cmp.Or answers the first one.
type going struct {
	api.Bank
	told map[int]api.Answer
}

// hear answers what comes of d: what was told already, if its ID was heard before.
func (g *going) hear(d api.Do) api.Answer {
	if a, ok := g.told[d.ID]; ok {
		return a
	}
	next := going{Bank: own(g.Bank)}
	a := next.do(d)
	if a.Err == api.OK {
		g.Bank = next.Bank
	}
	if d.ID != 0 {
		g.told[d.ID] = a
	}
	return a
}

// do does d, whatever its ID is.
func (g *going) do(d api.Do) api.Answer {
	var a api.Answer
	switch d.Kind {
	case api.DoLoad:
		a.Err = g.load(d.N, d.Sum)
	case api.DoAsk:
		a.Auth, a.Err = g.ask(d)
	case api.DoMove:
		a.Err = g.move(d)
	case api.DoTick:
		a.Err = g.tick(d.Sum)
	case api.DoSend:
		a.Err = g.send(d.N)
	case api.DoArrive:
		a.Err = g.arrive(d.N)
	case api.DoLose:
		_, a.Err = g.next(d.N)
	case api.DoDown:
		a.Err = g.down()
	case api.DoUp:
		a.Err = g.up()
	case api.DoDay:
		a.Err = g.day()
	case api.DoPayOut:
		a.Err = g.payOut(d.N)
	default:
		a.Err = api.ErrKind
	}
	return a
}

// load: the card's money comes from outside.
func (g *going) load(n, sum int) api.Errno {
	if !g.isCard(n) {
		return api.ErrNone
	}
	if sum < 1 || sum > api.MaxSum {
		return api.ErrRange
	}
	return g.cardGets(n, api.Outside, sum)
}

// ask answers which permission was given, by the card or, while nobody is there, by the stand.
func (g *going) ask(d api.Do) (int, api.Errno) {
	if !g.isCard(d.N) || !g.isShop(d.Shop) {
		return 0, api.ErrNone
	}
	if g.Down {
		return g.askStand(api.Advice{Card: d.N, Shop: d.Shop, Sum: d.Sum, Time: g.Time})
	}
	return g.askCard(d.N, d.Shop, d.Sum)
}

// askStand: an advice already has the number that its permission will have.
func (g *going) askStand(x api.Advice) (int, api.Errno) {
	ahead := len(g.Auths) + len(g.Stand.Advices)
	s, err := stand.Give(g.Stand, x)
	if err == api.ErrFunds {
		return 0, api.ErrDown
	}
	if err != api.OK {
		return 0, err
	}
	if ahead >= api.MaxAuths {
		return 0, api.ErrMany
	}
	g.Stand = s
	return ahead, api.OK
}

func (g *going) askCard(n, shop, sum int) (int, api.Errno) {
	a, err := auth.New(n, shop, sum, g.Time)
	if err != api.OK {
		return 0, err
	}
	if len(g.Auths) >= api.MaxAuths {
		return 0, api.ErrMany
	}
	c, err := card.Allow(g.Cards[n], sum, g.Time)
	if err != api.OK {
		return 0, err
	}
	g.Cards[n] = c
	g.Auths = append(g.Auths, a)
	return len(g.Auths) - 1, api.OK
}

// move: something becomes of permission d.N, and the day's file will tell it.
func (g *going) move(d api.Do) api.Errno {
	if g.Down {
		return api.ErrDown
	}
	if d.N < 0 || d.N >= len(g.Auths) {
		return api.ErrNone
	}
	a, err := auth.Move(g.Auths[d.N], d.Move, d.Sum)
	if err != api.OK {
		return err
	}
	if d.Move == api.MoreSum && d.Sum > card.Free(g.Cards[a.Card]) {
		return api.ErrFunds
	}
	return cmp.Or(
		g.become(d.N, a),
		g.pass(a, d),
		g.note(api.Record{Shop: a.Shop, Auth: d.N, Kind: d.Move, Sum: d.Sum}),
	)
}

// become: permission n is a from now on, and its card holds as much more, or less.
func (g *going) become(n int, a api.Auth) api.Errno {
	more := auth.Hold(a) - auth.Hold(g.Auths[n])
	g.Auths[n] = a
	return g.shift(a.Card, more, 0)
}

// pass: the money goes where d has it go; what the other side must know of is sent there.
func (g *going) pass(a api.Auth, d api.Do) api.Errno {
	t := api.Transfer{Auth: d.N, Sum: d.Sum}
	switch d.Move {
	case api.Capture, api.Last:
		t.Kind = api.ToShop
		return cmp.Or(g.cardGives(a.Card, api.Transit, d.Sum), g.put(api.SideCards, t))
	case api.Refund:
		t.Kind = api.ToCard
		return cmp.Or(g.shopGives(a.Shop, api.Transit, d.Sum), g.put(api.SideShops, t))
	case api.Dispute:
		return g.cardGets(a.Card, api.Disputes, d.Sum)
	case api.ForCard:
		// The card has it since the dispute: the shop is yet to give it.
		t.Kind = api.FromShop
		return g.put(api.SideCards, t)
	case api.ForShop:
		return g.cardGives(a.Card, api.Disputes, d.Sum)
	}
	return api.OK
}

func (g *going) note(r api.Record) api.Errno {
	if len(g.Today) >= api.MaxRecords {
		return api.ErrMany
	}
	g.Today = append(g.Today, r)
	return api.OK
}

func (g *going) tick(ticks int) api.Errno {
	// Not by their sum: it might be more than a number can be.
	if ticks < 0 || ticks > api.MaxTime-g.Time {
		return api.ErrRange
	}
	g.Time += ticks
	if g.Down {
		return api.OK
	}
	return g.late()
}

// late: permissions whose time is over are, and hold nothing any more.
func (g *going) late() api.Errno {
	err := api.OK
	for i, a := range g.Auths {
		err = cmp.Or(err, g.become(i, auth.Late(a, g.Time)))
	}
	return err
}

func (g *going) down() api.Errno {
	if g.Down {
		return api.ErrFit
	}
	g.Down = true
	return api.OK
}

// up: what the stand gave meanwhile is taken as permitted, whatever the cards have.
func (g *going) up() api.Errno {
	if !g.Down {
		return api.ErrFit
	}
	for _, x := range g.Stand.Advices {
		if err := g.honour(x); err != api.OK {
			return err
		}
	}
	s, _, err := stand.Clear(g.Stand)
	if err != api.OK {
		return err
	}
	g.Stand = s
	g.Down = false
	return g.late()
}

// honour: the advice's permission is given, and its card must hold it.
func (g *going) honour(x api.Advice) api.Errno {
	a, err := auth.New(x.Card, x.Shop, x.Sum, x.Time)
	if err != api.OK {
		return err
	}
	c, err := card.Force(g.Cards[x.Card], x.Sum)
	if err != api.OK {
		return err
	}
	g.Auths = append(g.Auths, a)
	g.Cards[x.Card] = c
	return api.OK
}

func (g *going) day() api.Errno {
	b, f := day.Bytes(g.Today)
	if f.Err != api.OK {
		return f.Err
	}
	g.Days = append(g.Days, b)
	g.Today = nil
	return api.OK
}

func (g *going) payOut(n int) api.Errno {
	if !g.isShop(n) {
		return api.ErrNone
	}
	if g.Due[n] <= 0 {
		return api.ErrFunds
	}
	return g.shopGives(n, api.Outside, g.Due[n])
}

// cardGets: the card's money is more by what moves from that account to its own.
func (g *going) cardGets(n, from, sum int) api.Errno {
	return cmp.Or(g.shift(n, 0, sum), g.enter(from, api.Cards+n, sum))
}

func (g *going) cardGives(n, to, sum int) api.Errno {
	return cmp.Or(g.shift(n, 0, -sum), g.enter(api.Cards+n, to, sum))
}

// shopGets: the shop is due more by what moves from that account to its own.
func (g *going) shopGets(n, from, sum int) api.Errno {
	g.Due[n] += sum
	return g.enter(from, api.Shops+n, sum)
}

func (g *going) shopGives(n, to, sum int) api.Errno {
	g.Due[n] -= sum
	return g.enter(api.Shops+n, to, sum)
}

func (g *going) shift(n, held, money int) api.Errno {
	c, err := card.Shift(g.Cards[n], held, money)
	if err != api.OK {
		return err
	}
	g.Cards[n] = c
	return api.OK
}

func (g *going) enter(from, to, sum int) api.Errno {
	l, err := book.Move(g.Book, from, to, sum)
	if err != api.OK {
		return err
	}
	g.Book = l
	return api.OK
}

func (g *going) put(side int, t api.Transfer) api.Errno {
	s, err := post.Put(g.Senders[side], t)
	if err != api.OK {
		return err
	}
	g.Senders[side] = s
	return api.OK
}

func (g *going) isCard(n int) bool { return n >= 0 && n < len(g.Cards) }

func (g *going) isShop(n int) bool { return n >= 0 && n < len(g.Due) }

// own answers the bank with lists that may be changed, and be dropped, without it: what stands deeper in them is never changed, only replaced.
func own(b api.Bank) api.Bank {
	b.Cards = append([]api.Card(nil), b.Cards...)
	b.Due = append([]int(nil), b.Due...)
	b.Auths = append([]api.Auth(nil), b.Auths...)
	for side, way := range b.Ways {
		b.Ways[side] = append([]api.Packet(nil), way...)
	}
	b.Today = append([]api.Record(nil), b.Today...)
	b.Days = append([][]byte(nil), b.Days...)
	return b
}
