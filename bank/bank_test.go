package bank

import (
	"fmt"
	"math"
	"reflect"
	"slices"
	"testing"

	"paystone/api"
	"paystone/auth"
	"paystone/book"
	"paystone/card"
	"paystone/day"
	"paystone/post"
	"paystone/stand"
)

func load(n, sum int) api.Do { return api.Do{Kind: api.DoLoad, N: n, Sum: sum} }

func ask(n, shop, sum int) api.Do { return api.Do{Kind: api.DoAsk, N: n, Shop: shop, Sum: sum} }

func move(kind, n, sum int) api.Do { return api.Do{Kind: api.DoMove, Move: kind, N: n, Sum: sum} }

func tick(sum int) api.Do { return api.Do{Kind: api.DoTick, Sum: sum} }

func send(n int) api.Do { return api.Do{Kind: api.DoSend, N: n} }

func arrive(n int) api.Do { return api.Do{Kind: api.DoArrive, N: n} }

func lose(n int) api.Do { return api.Do{Kind: api.DoLose, N: n} }

func down() api.Do { return api.Do{Kind: api.DoDown} }

func up() api.Do { return api.Do{Kind: api.DoUp} }

func file() api.Do { return api.Do{Kind: api.DoDay} }

func payOut(n int) api.Do { return api.Do{Kind: api.DoPayOut, N: n} }

// under is d, done under that ID.
func under(id int, d api.Do) api.Do {
	d.ID = id
	return d
}

// times is d, done n times.
func times(n int, d api.Do) []api.Do { return slices.Repeat([]api.Do{d}, n) }

// list puts things, and lists of things, one behind the other.
func list(l ...any) []api.Do {
	var out []api.Do
	for _, x := range l {
		switch x := x.(type) {
		case api.Do:
			out = append(out, x)
		case []api.Do:
			out = append(out, x...)
		}
	}
	return out
}

// brisk is a pace that hinders nobody here.
func brisk() api.Pace { return api.Pace{Ticks: 10, Count: api.MaxUses, Sum: api.MaxTotal} }

// three has three cards and two shops, so that no number of a card is taken for one of a shop.
func three() api.Setup {
	return api.Setup{Paces: []api.Pace{brisk(), brisk(), brisk()}, Shops: 2, Cap: 60}
}

// asked: permission 0 of 7 from card 0 for shop 0; permission 1 of 100 from card 2, which has 300, for shop 1.
func asked() []api.Do {
	return []api.Do{load(0, 50), load(2, 300), ask(0, 0, 7), ask(2, 1, 100)}
}

// captured: 60 of permission 1 are taken, too.
func captured() []api.Do { return list(asked(), move(api.Capture, 1, 60)) }

// disputed: 20 of these are disputed, too.
func disputed() []api.Do { return list(captured(), move(api.Dispute, 1, 20)) }

// paid: what was captured came to the shop; 60 are due.
func paid() []api.Do {
	return list(captured(), send(api.SideCards), arrive(api.SideShops), arrive(api.SideShops))
}

// entries of accounts and sums in turn.
func entries(l ...int) []api.Entry {
	var out []api.Entry
	for i := 0; i < len(l); i += 2 {
		out = append(out, api.Entry{Account: l[i], Sum: l[i+1]})
	}
	return out
}

func transfer(number, kind, auth, sum int) api.Transfer {
	return api.Transfer{Number: number, Kind: kind, Auth: auth, Sum: sum}
}

func carry(l ...api.Transfer) []api.Packet {
	var out []api.Packet
	for _, t := range l {
		out = append(out, api.Packet{Transfer: t, Seen: -1})
	}
	return out
}

func seen(n int) api.Packet { return api.Packet{Seen: n} }

// tell: a list without entries is told alike, whether it is nil or not.
func tell(b api.Bank) string { return fmt.Sprintf("%+v", b) }

// played is the bank behind l, and what came of the last thing.
func played(t *testing.T, s api.Setup, l []api.Do) (api.Bank, api.Answer) {
	t.Helper()
	b, a, f := Play(s, l)
	if f != (api.Fault{}) || len(a) != len(l) {
		t.Fatalf("%v, %v: %v, %d answers come", s, l, f, len(a))
	}
	if len(a) == 0 {
		return b, api.Answer{}
	}
	return b, a[len(a)-1]
}

// allOK: none of l is refused, or a test of what comes behind it would look at something else.
func allOK(t *testing.T, name string, s api.Setup, l []api.Do) {
	t.Helper()
	_, answers, _ := Play(s, l)
	for i, a := range answers {
		if a.Err != api.OK {
			t.Errorf("%s: %d comes of %v, ahead of what is looked at", name, a.Err, l[i])
		}
	}
}

type effect struct {
	name   string
	ahead  []api.Do
	d      api.Do
	auth   int
	change func(b *api.Bank) // of what was there ahead
}

// checkEffects: each thing is done, changes what it must, and nothing else.
func checkEffects(t *testing.T, s api.Setup, l []effect) {
	t.Helper()
	for _, x := range l {
		allOK(t, x.name, s, x.ahead)
		want, _ := played(t, s, x.ahead)
		got, a := played(t, s, list(x.ahead, x.d))
		x.change(&want)
		if tell(got) != tell(want) || a != (api.Answer{Auth: x.auth}) {
			t.Errorf("%s: %s %v comes, not %s %d", x.name, tell(got), a, tell(want), x.auth)
		}
	}
}

type refusal struct {
	name  string
	ahead []api.Do
	d     api.Do
	want  api.Errno
}

// checkRefusals: each thing is refused, and changes nothing.
func checkRefusals(t *testing.T, s api.Setup, l []refusal) {
	t.Helper()
	for _, x := range l {
		allOK(t, x.name, s, x.ahead)
		want, _ := played(t, s, x.ahead)
		got, a := played(t, s, list(x.ahead, x.d))
		if a != (api.Answer{Err: x.want}) {
			t.Errorf("%s: %v comes, not %d", x.name, a, x.want)
		}
		if tell(got) != tell(want) {
			t.Errorf("%s: %s comes, not %s", x.name, tell(got), tell(want))
		}
	}
}

// nowhere are numbers that neither a card nor a shop nor a side nor a permission has here.
func nowhere() []int { return []int{-1, 3, 30, 77, math.MinInt, math.MaxInt} }

type wrongSetup struct {
	name string
	s    api.Setup
	want api.Fault
}

// wrongSetups are setups that are wrong, and what is wrong with them.
func wrongSetups() []wrongSetup {
	none := api.Pace{}
	of := func(shops, limit int, l ...api.Pace) api.Setup { return api.Setup{Paces: l, Shops: shops, Cap: limit} }
	many := func(n int, p api.Pace) []api.Pace { return slices.Repeat([]api.Pace{p}, n) }
	return []wrongSetup{
		{"too many cards", of(2, 60, many(9, brisk())...), api.Fault{Err: api.ErrMany}},
		{"far too many cards", of(2, 60, many(500, brisk())...), api.Fault{Err: api.ErrMany}},
		{"shops below 0", of(-1, 60, brisk()), api.Fault{Err: api.ErrMany}},
		{"too many shops", of(9, 60, brisk()), api.Fault{Err: api.ErrMany}},
		{"the least number of shops", of(math.MinInt, 60, brisk()), api.Fault{Err: api.ErrMany}},
		{"the greatest number of shops", of(math.MaxInt, 60, brisk()), api.Fault{Err: api.ErrMany}},
		{"cards ahead of the limit", of(2, -1, many(9, brisk())...), api.Fault{Err: api.ErrMany}},
		{"cards ahead of paces", of(2, 60, many(9, none)...), api.Fault{Err: api.ErrMany}},
		{"shops ahead of the limit", of(9, api.MaxSum+1), api.Fault{Err: api.ErrMany}},
		{"shops ahead of paces", of(-1, 60, none), api.Fault{Err: api.ErrMany}},
		{"a limit below 0", of(2, -1, brisk()), api.Fault{Err: api.ErrRange}},
		{"a limit below 0, and nothing else", of(0, -1), api.Fault{Err: api.ErrRange}},
		{"too great a limit", of(2, api.MaxSum+1, brisk()), api.Fault{Err: api.ErrRange}},
		{"the least number as limit", of(2, math.MinInt, brisk()), api.Fault{Err: api.ErrRange}},
		{"the greatest number as limit", of(2, math.MaxInt, brisk()), api.Fault{Err: api.ErrRange}},
		{"limit ahead of paces", of(2, -1, brisk(), none), api.Fault{Err: api.ErrRange}},
		{"the first pace", of(2, 60, none), api.Fault{Err: api.ErrRange}},
		{"the last pace", of(2, 60, brisk(), brisk(), none), api.Fault{Err: api.ErrRange, At: 2}},
		{"the first of two wrong paces", of(2, 60, brisk(), none, none), api.Fault{Err: api.ErrRange, At: 1}},
		{"the last pace of all that may be", of(2, 60, append(many(7, brisk()), none)...), api.Fault{Err: api.ErrRange, At: 7}},
		{"a pace of too many uses", of(2, 60, brisk(), api.Pace{Ticks: 1, Count: api.MaxUses + 1}), api.Fault{Err: api.ErrRange, At: 1}},
		{"a pace of too great a sum", of(2, 60, brisk(), api.Pace{Ticks: 1, Sum: api.MaxTotal + 1}), api.Fault{Err: api.ErrRange, At: 1}},
	}
}

// TestWrong: a wrong setup is told, ahead of all that is done, and nothing comes beside that.
func TestWrong(t *testing.T) {
	for _, x := range wrongSetups() {
		if got := Wrong(x.s); got != x.want {
			t.Errorf("%s: %v comes, not %v", x.name, got, x.want)
		}
		for _, l := range [][]api.Do{nil, {}, asked(), make([]api.Do, 151)} {
			b, a, f := Play(x.s, l)
			if !reflect.DeepEqual(b, api.Bank{}) || len(a) > 0 || f != x.want {
				t.Errorf("%s, %d things done: %s %v %v comes, not nothing and %v", x.name, len(l), tell(b), a, f, x.want)
			}
		}
	}
}

// TestRight: a bank of a right setup has cards, shops and a stand, and nothing else.
func TestRight(t *testing.T) {
	slow := api.Pace{Ticks: api.MaxTime, Count: 0, Sum: 0}
	right := []struct {
		name string
		s    api.Setup
		want api.Bank
	}{
		{"nothing", api.Setup{}, api.Bank{}},
		{"nothing, of an empty list", api.Setup{Paces: []api.Pace{}}, api.Bank{}},
		{"shops alone", api.Setup{Shops: 3}, api.Bank{Due: []int{0, 0, 0}}},
		{"cards alone", api.Setup{Paces: []api.Pace{slow, brisk()}}, api.Bank{Cards: []api.Card{{Pace: slow}, {Pace: brisk()}}, Stand: api.Stand{Used: []int{0, 0}}}},
		{"a limit alone", api.Setup{Cap: 1}, api.Bank{Stand: api.Stand{Cap: 1}}},
		{"all", api.Setup{Paces: []api.Pace{slow, brisk()}, Shops: 1, Cap: 60}, api.Bank{Cards: []api.Card{{Pace: slow}, {Pace: brisk()}}, Due: []int{0}, Stand: api.Stand{Cap: 60, Used: []int{0, 0}}}},
		{"the most", api.Setup{Paces: slices.Repeat([]api.Pace{slow}, 8), Shops: 8, Cap: api.MaxSum}, api.Bank{Cards: slices.Repeat([]api.Card{{Pace: slow}}, 8), Due: make([]int, 8), Stand: api.Stand{Cap: api.MaxSum, Used: make([]int, 8)}}},
	}
	for _, x := range right {
		if f := Wrong(x.s); f != (api.Fault{}) {
			t.Errorf("%s: %v comes", x.name, f)
		}
		for _, l := range [][]api.Do{nil, {}} {
			got, a, f := Play(x.s, l)
			if tell(got) != tell(x.want) || len(a) > 0 || f != (api.Fault{}) {
				t.Errorf("%s: %s %v %v comes, not %s", x.name, tell(got), a, f, tell(x.want))
			}
		}
	}
}

func TestPlayMany(t *testing.T) {
	b, a, f := Play(three(), times(150, tick(1)))
	if b.Time != 150 || !slices.Equal(a, make([]api.Answer, 150)) || f != (api.Fault{}) {
		t.Errorf("150 ticks: time %d, %v %v comes", b.Time, a, f)
	}
	for _, d := range []api.Do{{}, tick(1), under(7, tick(1))} {
		b, a, f = Play(three(), times(151, d))
		if !reflect.DeepEqual(b, api.Bank{}) || len(a) > 0 || f != (api.Fault{Err: api.ErrMany}) {
			t.Errorf("151 of %v: %s %v %v comes", d, tell(b), a, f)
		}
	}
}

// TestInTurn: what comes of each stands where it was done.
func TestInTurn(t *testing.T) {
	l := list(asked(), api.Do{}, ask(0, 0, 44), ask(0, 0, 43), payOut(0), load(3, 1))
	b, got, f := Play(three(), l)
	want := []api.Answer{{}, {}, {}, {Auth: 1}, {Err: api.ErrKind}, {Err: api.ErrFunds}, {Auth: 2}, {Err: api.ErrFunds}, {Err: api.ErrNone}}
	if !slices.Equal(got, want) || f != (api.Fault{}) || len(b.Auths) != 3 {
		t.Errorf("%v %v comes, not %v", got, f, want)
	}
}

func TestKinds(t *testing.T) {
	for _, kind := range []int{0, -1, 12, 100, math.MinInt, math.MaxInt} {
		checkRefusals(t, three(), []refusal{
			{fmt.Sprintf("kind %d", kind), captured(), api.Do{Kind: kind, N: 1, Move: api.Capture, Sum: 1}, api.ErrKind},
			{fmt.Sprintf("kind %d, while nobody is there", kind), list(captured(), down()), api.Do{Kind: kind}, api.ErrKind},
		})
	}
}

// TestIDs: what is done under an ID that was heard is told again, and not done.
func TestIDs(t *testing.T) {
	tests := []struct {
		name  string
		ahead []api.Do
		d     api.Do
		want  api.Answer
	}{
		{"one done", list(under(7, load(0, 5))), under(7, load(0, 5)), api.Answer{}},
		{"another thing under it", list(under(7, load(0, 5))), under(7, tick(5)), api.Answer{}},
		{"a wrong one under it", list(under(7, load(0, 5))), under(7, load(9, 0)), api.Answer{}},
		{"no kind under it", list(under(7, load(0, 5))), under(7, api.Do{}), api.Answer{}},
		{"a permission", list(load(0, 50), ask(0, 0, 1), under(7, ask(0, 0, 2))), under(7, ask(0, 0, 2)), api.Answer{Auth: 1}},
		{"a permission, another thing under it", list(load(0, 50), ask(0, 0, 1), under(7, ask(0, 0, 2))), under(7, tick(1)), api.Answer{Auth: 1}},
		{"a permission, long ago", list(load(0, 50), ask(0, 0, 1), under(7, ask(0, 0, 2)), tick(100), under(8, ask(0, 0, 3))), under(7, ask(0, 0, 2)), api.Answer{Auth: 1}},
		{"a third time", list(load(0, 50), ask(0, 0, 1), under(7, ask(0, 0, 2)), under(7, tick(1))), under(7, ask(0, 0, 2)), api.Answer{Auth: 1}},
		{"one refused, that would be done now", list(under(7, ask(0, 0, 2)), load(0, 50)), under(7, ask(0, 0, 2)), api.Answer{Err: api.ErrFunds}},
		{"one refused, a right one under it", list(under(7, load(9, 5))), under(7, load(0, 5)), api.Answer{Err: api.ErrNone}},
		{"no kind ahead", list(under(7, api.Do{})), under(7, load(0, 5)), api.Answer{Err: api.ErrKind}},
		{"a number below 0", list(under(-7, load(0, 5))), under(-7, load(0, 5)), api.Answer{}},
		{"the least number", list(under(math.MinInt, load(0, 5))), under(math.MinInt, load(0, 5)), api.Answer{}},
		{"the greatest number", list(under(math.MaxInt, load(0, 5))), under(math.MaxInt, load(0, 5)), api.Answer{}},
		{"two of them, the first", list(under(7, load(9, 5)), under(8, load(0, 0))), under(7, load(0, 5)), api.Answer{Err: api.ErrNone}},
		{"two of them, the second", list(under(7, load(9, 5)), under(8, load(0, 0))), under(8, load(0, 5)), api.Answer{Err: api.ErrRange}},
	}
	for _, x := range tests {
		want, _ := played(t, three(), x.ahead)
		got, a := played(t, three(), list(x.ahead, x.d))
		if tell(got) != tell(want) || a != x.want {
			t.Errorf("%s: %s %v comes, not %s %v", x.name, tell(got), a, tell(want), x.want)
		}
	}
	done := [][]api.Do{
		list(load(0, 5), load(0, 5)),
		list(under(7, load(0, 5)), under(8, load(0, 5))),
		list(under(7, load(0, 5)), load(0, 5)),
		list(load(0, 5), under(7, load(0, 5))),
		list(under(7, load(0, 5)), under(-7, load(0, 5))),
		list(under(1, load(9, 5)), under(2, load(0, 5)), under(1, load(0, 5)), under(3, load(0, 5))),
	}
	for _, l := range done {
		if b, a := played(t, three(), l); b.Cards[0].Money != 10 || a != (api.Answer{}) {
			t.Errorf("%v: %s %v comes, not 10", l, tell(b), a)
		}
	}
}

func TestLoad(t *testing.T) {
	checkEffects(t, three(), []effect{
		{"some", nil, load(1, 300), 0, func(b *api.Bank) {
			b.Cards[1].Money = 300
			b.Book = entries(api.Outside, -300, api.Cards+1, 300)
		}},
		{"more", asked(), load(2, 1), 0, func(b *api.Bank) {
			b.Cards[2].Money = 301
			b.Book = entries(api.Outside, -351, api.Cards+0, 50, api.Cards+2, 301)
		}},
		{"the most", nil, load(0, api.MaxSum), 0, func(b *api.Bank) {
			b.Cards[0].Money = api.MaxSum
			b.Book = entries(api.Outside, -api.MaxSum, api.Cards+0, api.MaxSum)
		}},
		{"while nobody is there", list(down()), load(2, 5), 0, func(b *api.Bank) {
			b.Cards[2].Money = 5
			b.Book = entries(api.Outside, -5, api.Cards+2, 5)
		}},
		{"whatever shop and move stand beside it", nil, api.Do{Kind: api.DoLoad, N: 1, Shop: 99, Move: 99, Sum: 5}, 0, func(b *api.Bank) {
			b.Cards[1].Money = 5
			b.Book = entries(api.Outside, -5, api.Cards+1, 5)
		}},
	})
	for _, sum := range []int{0, -1, api.MaxSum + 1, math.MinInt, math.MaxInt} {
		checkRefusals(t, three(), []refusal{
			{fmt.Sprintf("sum %d", sum), asked(), load(1, sum), api.ErrRange},
			{fmt.Sprintf("card ahead of sum %d", sum), asked(), load(3, sum), api.ErrNone},
		})
	}
	for _, n := range nowhere() {
		checkRefusals(t, three(), []refusal{{fmt.Sprintf("card %d", n), asked(), load(n, 5), api.ErrNone}})
	}
	checkRefusals(t, api.Setup{Shops: 8}, []refusal{{"no card at all", nil, load(0, 5), api.ErrNone}})
}

func TestAsk(t *testing.T) {
	checkEffects(t, three(), []effect{
		{"the first one", list(load(2, 100)), ask(2, 1, 100), 0, func(b *api.Bank) {
			b.Cards[2].Held = 100
			b.Cards[2].Uses = []api.Use{{Time: 0, Sum: 100}}
			b.Auths = []api.Auth{{Card: 2, Shop: 1, Sum: 100, Till: 100}}
		}},
		{"behind others, at another time", list(asked(), tick(5)), ask(2, 0, 200), 2, func(b *api.Bank) {
			b.Cards[2].Held = 300
			b.Cards[2].Uses = append(b.Cards[2].Uses, api.Use{Time: 5, Sum: 200})
			b.Auths = append(b.Auths, api.Auth{Card: 2, Shop: 0, Sum: 200, Till: 105})
		}},
		{"uses that don't count any more", list(asked(), tick(10)), ask(2, 0, 200), 2, func(b *api.Bank) {
			b.Cards[2].Held = 300
			b.Cards[2].Uses = []api.Use{{Time: 10, Sum: 200}}
			b.Auths = append(b.Auths, api.Auth{Card: 2, Shop: 0, Sum: 200, Till: 110})
		}},
		{"at the last time", list(load(0, 1), tick(api.MaxTime)), ask(0, 0, 1), 0, func(b *api.Bank) {
			b.Cards[0].Held = 1
			b.Cards[0].Uses = []api.Use{{Time: api.MaxTime, Sum: 1}}
			b.Auths = []api.Auth{{Sum: 1, Till: api.MaxTime + api.Lasts}}
		}},
		{"the thirtieth", list(load(0, 50), times(29, ask(0, 1, 1))), ask(0, 1, 1), 29, func(b *api.Bank) {
			b.Cards[0].Held = 30
			b.Cards[0].Uses = append(b.Cards[0].Uses, api.Use{Sum: 1})
			b.Auths = append(b.Auths, api.Auth{Shop: 1, Sum: 1, Till: 100})
		}},
		{"whatever move stands beside it", list(load(2, 100)), api.Do{Kind: api.DoAsk, N: 2, Shop: 1, Move: 99, Sum: 1}, 0, func(b *api.Bank) {
			b.Cards[2].Held = 1
			b.Cards[2].Uses = []api.Use{{Sum: 1}}
			b.Auths = []api.Auth{{Card: 2, Shop: 1, Sum: 1, Till: 100}}
		}},
	})
	full := list(load(0, 40), times(30, ask(0, 1, 1)))
	checkRefusals(t, three(), []refusal{
		{"one more than is free", asked(), ask(2, 1, 201), api.ErrFunds},
		{"a card that has nothing", asked(), ask(1, 1, 1), api.ErrFunds},
		{"the thirty-first", full, ask(0, 1, 1), api.ErrMany},
		{"the thirty-first, of another card", list(full, load(1, 5)), ask(1, 1, 1), api.ErrMany},
		{"many ahead of funds", full, ask(0, 1, 11), api.ErrMany},
		{"many, though all are over", list(full, tick(100)), ask(0, 1, 1), api.ErrMany},
		{"range ahead of many", full, ask(0, 1, 0), api.ErrRange},
		{"range ahead of funds", asked(), ask(1, 1, api.MaxSum+1), api.ErrRange},
		{"none ahead of many", full, ask(0, 2, 1), api.ErrNone},
	})
	slow := api.Setup{Paces: []api.Pace{{Ticks: 10, Count: 2, Sum: 20}}, Shops: 1, Cap: 60}
	checkRefusals(t, slow, []refusal{
		{"too often", list(load(0, 50), ask(0, 0, 1), tick(9), ask(0, 0, 1)), ask(0, 0, 1), api.ErrPace},
		{"too much", list(load(0, 50), ask(0, 0, 10), tick(9)), ask(0, 0, 11), api.ErrPace},
		{"funds ahead of pace", list(load(0, 20), ask(0, 0, 10)), ask(0, 0, 11), api.ErrFunds},
	})
	allOK(t, "not too often", slow, list(load(0, 50), ask(0, 0, 10), tick(9), ask(0, 0, 10), tick(1), ask(0, 0, 10)))
	checkAskNone(t, nil)
}

// checkAskNone: it is told ahead of all else that there is no such card, or shop; then that the sum is none.
func checkAskNone(t *testing.T, last []api.Do) {
	t.Helper()
	ahead := list(asked(), last)
	for _, n := range nowhere() {
		checkRefusals(t, three(), []refusal{
			{fmt.Sprintf("card %d", n), ahead, ask(n, 1, 1), api.ErrNone},
			{fmt.Sprintf("shop %d", n), ahead, ask(2, n, 1), api.ErrNone},
			{fmt.Sprintf("card %d ahead of sum", n), ahead, ask(n, 1, 0), api.ErrNone},
			{fmt.Sprintf("shop %d ahead of sum", n), ahead, ask(2, n, 0), api.ErrNone},
		})
	}
	for _, sum := range []int{0, -1, api.MaxSum + 1, math.MinInt, math.MaxInt} {
		checkRefusals(t, three(), []refusal{{fmt.Sprintf("sum %d", sum), ahead, ask(2, 1, sum), api.ErrRange}})
	}
	checkRefusals(t, three(), []refusal{{"one shop too far", ahead, ask(2, 2, 1), api.ErrNone}})
	checkRefusals(t, api.Setup{Shops: 8}, []refusal{{"no card at all", last, ask(0, 0, 5), api.ErrNone}})
	checkRefusals(t, api.Setup{Paces: []api.Pace{brisk()}}, []refusal{{"no shop at all", last, ask(0, 0, 5), api.ErrNone}})
}

func TestAskDown(t *testing.T) {
	checkEffects(t, three(), []effect{
		{"the first one", list(down()), ask(2, 1, 60), 0, func(b *api.Bank) {
			b.Stand.Used = []int{0, 0, 60}
			b.Stand.Advices = []api.Advice{{Card: 2, Shop: 1, Sum: 60}}
		}},
		{"behind permissions", list(asked(), tick(5), down()), ask(1, 0, 60), 2, func(b *api.Bank) {
			b.Stand.Used = []int{0, 60, 0}
			b.Stand.Advices = []api.Advice{{Card: 1, Shop: 0, Sum: 60, Time: 5}}
		}},
		{"behind permissions and advices, later", list(asked(), down(), ask(1, 0, 40), tick(5)), ask(1, 1, 20), 3, func(b *api.Bank) {
			b.Stand.Used = []int{0, 60, 0}
			b.Stand.Advices = []api.Advice{{Card: 1, Shop: 0, Sum: 40}, {Card: 1, Shop: 1, Sum: 20, Time: 5}}
		}},
		{"the twentieth advice", list(load(0, 50), times(10, ask(0, 0, 1)), down(), times(19, ask(1, 1, 1))), ask(2, 0, 60), 29, func(b *api.Bank) {
			b.Stand.Used = []int{0, 19, 60}
			b.Stand.Advices = append(b.Stand.Advices, api.Advice{Card: 2, Sum: 60})
		}},
		{"the thirtieth of both", list(load(0, 50), times(29, ask(0, 0, 1)), down()), ask(2, 0, 60), 29, func(b *api.Bank) {
			b.Stand.Used = []int{0, 0, 60}
			b.Stand.Advices = []api.Advice{{Card: 2, Sum: 60}}
		}},
	})
	full := list(load(0, 50), times(11, ask(0, 0, 1)), down(), times(19, ask(1, 1, 1)))
	checkRefusals(t, three(), []refusal{
		{"one more than the stand has", list(asked(), down()), ask(1, 1, 61), api.ErrDown},
		{"one more than is left", list(asked(), down(), ask(1, 1, 30)), ask(1, 1, 31), api.ErrDown},
		{"whatever the card has", list(asked(), down()), ask(2, 1, 61), api.ErrDown},
		{"the twenty-first advice", list(down(), times(20, ask(1, 1, 1))), ask(1, 1, 1), api.ErrMany},
		{"the twenty-first advice, ahead of the sum", list(down(), times(20, ask(1, 1, 1))), ask(1, 1, 0), api.ErrMany},
		{"the twenty-first advice, ahead of what is left", list(down(), times(20, ask(1, 1, 1))), ask(1, 1, 41), api.ErrMany},
		{"the thirty-first of both", full, ask(2, 1, 1), api.ErrMany},
		{"the thirty-first of both, behind the sum", full, ask(2, 1, 0), api.ErrRange},
		{"the thirty-first of both, behind what is left", full, ask(2, 1, 61), api.ErrDown},
		{"one behind thirty permissions", list(load(0, 50), times(30, ask(0, 0, 1)), down()), ask(2, 1, 1), api.ErrMany},
	})
	nothing := three()
	nothing.Cap = 0
	checkRefusals(t, nothing, []refusal{{"a stand of nothing", list(asked(), down()), ask(2, 1, 1), api.ErrDown}})
	checkAskNone(t, list(down()))
}

func TestMove(t *testing.T) {
	record := func(b *api.Bank, kind, sum int) {
		b.Today = append(b.Today, api.Record{Shop: 1, Auth: 1, Kind: kind, Sum: sum})
	}
	checkEffects(t, three(), []effect{
		{"all that is free more", asked(), move(api.MoreSum, 1, 200), 0, func(b *api.Bank) {
			b.Auths[1].Sum = 300
			b.Cards[2].Held = 300
			record(b, api.MoreSum, 200)
		}},
		{"some taken", asked(), move(api.Capture, 1, 60), 0, func(b *api.Bank) {
			b.Auths[1].Captured = 60
			b.Cards[2].Held, b.Cards[2].Money = 40, 240
			b.Book = entries(api.Outside, -350, api.Transit, 60, api.Cards+0, 50, api.Cards+2, 240)
			b.Senders[api.SideCards] = api.Sender{Sent: 1, Kept: []api.Transfer{transfer(1, api.ToShop, 1, 60)}}
			record(b, api.Capture, 60)
		}},
		{"more taken", captured(), move(api.Capture, 1, 40), 0, func(b *api.Bank) {
			b.Auths[1].Captured, b.Auths[1].Shut = 100, true
			b.Cards[2].Held, b.Cards[2].Money = 0, 200
			b.Book = entries(api.Outside, -350, api.Transit, 100, api.Cards+0, 50, api.Cards+2, 200)
			b.Senders[api.SideCards] = api.Sender{Sent: 2, Kept: []api.Transfer{transfer(1, api.ToShop, 1, 60), transfer(2, api.ToShop, 1, 40)}}
			record(b, api.Capture, 40)
		}},
		{"the last taken", asked(), move(api.Last, 1, 60), 0, func(b *api.Bank) {
			b.Auths[1].Captured, b.Auths[1].Shut = 60, true
			b.Cards[2].Held, b.Cards[2].Money = 0, 240
			b.Book = entries(api.Outside, -350, api.Transit, 60, api.Cards+0, 50, api.Cards+2, 240)
			b.Senders[api.SideCards] = api.Sender{Sent: 1, Kept: []api.Transfer{transfer(1, api.ToShop, 1, 60)}}
			record(b, api.Last, 60)
		}},
		{"less", captured(), move(api.Reverse, 1, 39), 0, func(b *api.Bank) {
			b.Auths[1].Sum = 61
			b.Cards[2].Held = 1
			record(b, api.Reverse, 39)
		}},
		{"nothing left", asked(), move(api.Reverse, 1, 100), 0, func(b *api.Bank) {
			b.Auths[1].Sum, b.Auths[1].Shut = 0, true
			b.Cards[2].Held = 0
			record(b, api.Reverse, 100)
		}},
		{"given back, what is due", paid(), move(api.Refund, 1, 15), 0, func(b *api.Bank) {
			b.Auths[1].Refunded = 15
			b.Due[1] = 45
			b.Book = entries(api.Outside, -350, api.Transit, 15, api.Cards+0, 50, api.Cards+2, 240, api.Shops+1, 45)
			b.Senders[api.SideShops] = api.Sender{Sent: 1, Kept: []api.Transfer{transfer(1, api.ToCard, 1, 15)}}
			record(b, api.Refund, 15)
		}},
		{"given back, what didn't come yet", captured(), move(api.Refund, 1, 60), 0, func(b *api.Bank) {
			b.Auths[1].Refunded = 60
			b.Due[1] = -60
			b.Book = entries(api.Outside, -350, api.Transit, 120, api.Cards+0, 50, api.Cards+2, 240, api.Shops+1, -60)
			b.Senders[api.SideShops] = api.Sender{Sent: 1, Kept: []api.Transfer{transfer(1, api.ToCard, 1, 60)}}
			record(b, api.Refund, 60)
		}},
		{"disputed", captured(), move(api.Dispute, 1, 20), 0, func(b *api.Bank) {
			b.Auths[1].Disputed = 20
			b.Cards[2].Money = 260
			b.Book = entries(api.Outside, -350, api.Transit, 60, api.Disputes, -20, api.Cards+0, 50, api.Cards+2, 260)
			record(b, api.Dispute, 20)
		}},
		{"the card was right", disputed(), move(api.ForCard, 1, 8), 0, func(b *api.Bank) {
			b.Auths[1].Disputed, b.Auths[1].Refunded = 12, 8
			b.Senders[api.SideCards] = api.Sender{Sent: 2, Kept: []api.Transfer{transfer(1, api.ToShop, 1, 60), transfer(2, api.FromShop, 1, 8)}}
			record(b, api.ForCard, 8)
		}},
		{"the shop was right", disputed(), move(api.ForShop, 1, 12), 0, func(b *api.Bank) {
			b.Auths[1].Disputed = 8
			b.Cards[2].Money = 248
			b.Book = entries(api.Outside, -350, api.Transit, 60, api.Disputes, -8, api.Cards+0, 50, api.Cards+2, 248)
			record(b, api.ForShop, 12)
		}},
		{"given back when it is long over", list(paid(), tick(500)), move(api.Refund, 1, 15), 0, func(b *api.Bank) {
			b.Auths[1].Refunded = 15
			b.Due[1] = 45
			b.Book = entries(api.Outside, -350, api.Transit, 15, api.Cards+0, 50, api.Cards+2, 240, api.Shops+1, 45)
			b.Senders[api.SideShops] = api.Sender{Sent: 1, Kept: []api.Transfer{transfer(1, api.ToCard, 1, 15)}}
			record(b, api.Refund, 15)
		}},
		{"more than the card has, of what was forced", list(down(), ask(2, 1, 5), ask(2, 1, 40), up()), move(api.Capture, 1, 40), 0, func(b *api.Bank) {
			b.Auths[1].Captured, b.Auths[1].Shut = 40, true
			b.Cards[2].Held, b.Cards[2].Money = 5, -40
			b.Book = entries(api.Transit, 40, api.Cards+2, -40)
			b.Senders[api.SideCards] = api.Sender{Sent: 1, Kept: []api.Transfer{transfer(1, api.ToShop, 1, 40)}}
			record(b, api.Capture, 40)
		}},
		{"whatever shop stands beside it", asked(), api.Do{Kind: api.DoMove, N: 1, Shop: 99, Move: api.MoreSum, Sum: 1}, 0, func(b *api.Bank) {
			b.Auths[1].Sum = 101
			b.Cards[2].Held = 101
			record(b, api.MoreSum, 1)
		}},
	})
}

func TestMoveErrors(t *testing.T) {
	l := []refusal{
		{"one more than is free", asked(), move(api.MoreSum, 1, 201), api.ErrFunds},
		{"one more than is free, little of it captured", captured(), move(api.MoreSum, 1, 201), api.ErrFunds},
		{"more, where less than nothing is free", list(down(), ask(2, 1, 40), up(), load(2, 39)), move(api.MoreSum, 0, 1), api.ErrFunds},
		{"too much ahead of funds", asked(), move(api.MoreSum, 1, api.MaxSum-99), api.ErrMuch},
		{"over ahead of funds", list(asked(), tick(100)), move(api.MoreSum, 1, 301), api.ErrShut},
		{"one more than was permitted", captured(), move(api.Capture, 1, 41), api.ErrFunds},
		{"one more than was permitted, at last", captured(), move(api.Last, 1, 41), api.ErrFunds},
		{"one more less", captured(), move(api.Reverse, 1, 41), api.ErrFunds},
		{"one more back than was captured", captured(), move(api.Refund, 1, 61), api.ErrFunds},
		{"one more back than isn't disputed", disputed(), move(api.Refund, 1, 41), api.ErrFunds},
		{"one more disputed than was captured", captured(), move(api.Dispute, 1, 61), api.ErrFunds},
		{"one more for the card than is disputed", disputed(), move(api.ForCard, 1, 21), api.ErrFunds},
		{"one more for the shop than is disputed", disputed(), move(api.ForShop, 1, 21), api.ErrFunds},
		{"over", list(captured(), tick(100)), move(api.Capture, 1, 1), api.ErrShut},
		{"over at last", list(asked(), move(api.Last, 1, 60)), move(api.Capture, 1, 1), api.ErrShut},
		{"nobody is there", list(captured(), down()), move(api.Capture, 1, 1), api.ErrDown},
		{"nobody is there, for a refund", list(captured(), down()), move(api.Refund, 1, 1), api.ErrDown},
		{"nobody is there, ahead of no permission", list(captured(), down()), move(api.Capture, 2, 1), api.ErrDown},
		{"nobody is there, ahead of an advice", list(captured(), down(), ask(0, 0, 1)), move(api.Capture, 2, 1), api.ErrDown},
		{"nobody is there, ahead of no kind", list(captured(), down()), move(0, 1, 0), api.ErrDown},
		{"one permission too far", captured(), move(api.Capture, 2, 1), api.ErrNone},
		{"no permission ahead of no kind", captured(), move(0, 2, 0), api.ErrNone},
		{"kind ahead of range", captured(), move(9, 1, 0), api.ErrKind},
		{"range ahead of over", list(captured(), tick(100)), move(api.Capture, 1, 0), api.ErrRange},
	}
	for _, n := range nowhere() {
		l = append(l, refusal{fmt.Sprintf("permission %d", n), captured(), move(api.Capture, n, 1), api.ErrNone})
	}
	for _, kind := range []int{0, -1, 9, math.MinInt, math.MaxInt} {
		l = append(l, refusal{fmt.Sprintf("move %d", kind), captured(), move(kind, 1, 1), api.ErrKind})
	}
	for kind := api.MoreSum; kind <= api.ForShop; kind++ {
		for _, sum := range []int{0, -1, api.MaxSum + 1, math.MinInt, math.MaxInt} {
			l = append(l, refusal{fmt.Sprintf("move %d, sum %d", kind, sum), disputed(), move(kind, 1, sum), api.ErrRange})
		}
	}
	checkRefusals(t, three(), l)
}

// TestMoveMany: a sender keeps, and a day's file has, no more than may be; it is told behind all else, and changes nothing.
func TestMoveMany(t *testing.T) {
	kept := list(asked(), times(40, move(api.Capture, 1, 1)))
	back := list(asked(), move(api.Capture, 1, 50), times(40, move(api.Refund, 1, 1)))
	full := list(asked(), times(100, move(api.MoreSum, 1, 1)))
	checkRefusals(t, three(), []refusal{
		{"the forty-first taken", kept, move(api.Capture, 1, 1), api.ErrMany},
		{"the forty-first taken at last", kept, move(api.Last, 1, 1), api.ErrMany},
		{"the forty-first taken, behind funds", kept, move(api.Capture, 1, 61), api.ErrFunds},
		{"the forty-first is for the card", list(kept, move(api.Dispute, 1, 1)), move(api.ForCard, 1, 1), api.ErrMany},
		{"the forty-first given back", back, move(api.Refund, 1, 1), api.ErrMany},
		{"the forty-first given back, behind funds", back, move(api.Refund, 1, 11), api.ErrFunds},
		{"the hundred and first record", full, move(api.MoreSum, 1, 1), api.ErrMany},
		{"the hundred and first record, behind funds", full, move(api.MoreSum, 1, 101), api.ErrFunds},
		{"the hundred and first record, of money", full, move(api.Capture, 1, 1), api.ErrMany},
		{"the hundred and first record, of another permission", full, move(api.Last, 0, 7), api.ErrMany},
	})
	allOK(t, "a way back beside many that are kept", three(), list(kept, move(api.Refund, 1, 1), move(api.Reverse, 1, 1)))
	allOK(t, "a way there beside many that are kept", three(), list(back, move(api.Capture, 1, 1)))
	allOK(t, "another day", three(), list(full, file(), move(api.MoreSum, 1, 1)))
}

func TestTick(t *testing.T) {
	// Permission 0 is open till 100, 1 till 110; 2 is over already.
	ahead := []api.Do{load(2, 300), load(0, 50), ask(2, 1, 9), move(api.Capture, 0, 1), tick(10), ask(0, 0, 50), ask(2, 0, 5), move(api.Last, 2, 1)}
	checkEffects(t, three(), []effect{
		{"none", asked(), tick(0), 0, func(b *api.Bank) {}},
		{"some", asked(), tick(5), 0, func(b *api.Bank) { b.Time = 5 }},
		{"some more", list(asked(), tick(5)), tick(7), 0, func(b *api.Bank) { b.Time = 12 }},
		{"to the last time", list(asked(), tick(100)), tick(api.MaxTime - 100), 0, func(b *api.Bank) { b.Time = api.MaxTime }},
		{"no more, at the last time", list(asked(), tick(api.MaxTime)), tick(0), 0, func(b *api.Bank) {}},
		{"one tick ahead of the first one's end", ahead, tick(89), 0, func(b *api.Bank) { b.Time = 99 }},
		{"the first one's end", ahead, tick(90), 0, func(b *api.Bank) {
			b.Time = 100
			b.Auths[0].Shut = true
			b.Cards[2].Held = 0
		}},
		{"one tick ahead of the other one's end", list(ahead, tick(90)), tick(9), 0, func(b *api.Bank) { b.Time = 109 }},
		{"the other one's end", list(ahead, tick(90)), tick(10), 0, func(b *api.Bank) {
			b.Time = 110
			b.Auths[1].Shut = true
			b.Cards[0].Held = 0
		}},
		{"all ends at once", ahead, tick(500), 0, func(b *api.Bank) {
			b.Time = 510
			b.Auths[0].Shut, b.Auths[1].Shut = true, true
			b.Cards[0].Held, b.Cards[2].Held = 0, 0
		}},
		{"an end while nobody is there", list(ahead, down()), tick(500), 0, func(b *api.Bank) { b.Time = 510 }},
		{"whatever stands beside it", asked(), api.Do{Kind: api.DoTick, N: -5, Shop: 99, Move: 99, Sum: 1}, 0, func(b *api.Bank) { b.Time = 1 }},
	})
	var l []refusal
	for _, last := range [][]api.Do{nil, {tick(7)}, {down()}, {tick(api.MaxTime)}} {
		for _, sum := range []int{-1, api.MaxTime + 1, math.MinInt, math.MaxInt, math.MaxInt - api.MaxTime} {
			l = append(l, refusal{fmt.Sprintf("%d, behind %v", sum, last), list(asked(), last), tick(sum), api.ErrRange})
		}
	}
	checkRefusals(t, three(), append(l,
		refusal{"one too far", list(asked(), tick(7)), tick(api.MaxTime - 6), api.ErrRange},
		refusal{"one too far, while nobody is there", list(asked(), down(), tick(7)), tick(api.MaxTime - 6), api.ErrRange},
		refusal{"one behind the last time", list(asked(), tick(api.MaxTime)), tick(1), api.ErrRange},
	))
}

func TestDownUp(t *testing.T) {
	ahead := list(asked(), tick(5), down(), ask(1, 0, 40), tick(5), ask(2, 1, 30), ask(1, 1, 20))
	coming := func(b *api.Bank) {
		b.Down = false
		b.Stand = api.Stand{Cap: 60, Used: []int{0, 0, 0}}
		b.Auths = append(b.Auths, api.Auth{Card: 1, Sum: 40, Till: 105}, api.Auth{Card: 2, Shop: 1, Sum: 30, Till: 110}, api.Auth{Card: 1, Shop: 1, Sum: 20, Till: 110})
		b.Cards[1].Held += 60
		b.Cards[2].Held += 30
	}
	end := func(b *api.Bank, l ...int) {
		for _, n := range l {
			b.Auths[n].Shut = true
			b.Cards[b.Auths[n].Card].Held -= b.Auths[n].Sum
		}
	}
	checkEffects(t, three(), []effect{
		{"nobody", asked(), down(), 0, func(b *api.Bank) { b.Down = true }},
		{"nobody once more", list(asked(), down(), up()), down(), 0, func(b *api.Bank) { b.Down = true }},
		{"somebody, and nothing was given", list(asked(), down()), up(), 0, func(b *api.Bank) { b.Down = false }},
		{"somebody", ahead, up(), 0, coming},
		{"somebody, one tick ahead of the first ends", list(ahead, tick(89)), up(), 0, coming},
		{"somebody, behind the first ends", list(ahead, tick(90)), up(), 0, func(b *api.Bank) {
			coming(b)
			end(b, 0, 1)
		}},
		{"somebody, behind one advice's end", list(ahead, tick(95)), up(), 0, func(b *api.Bank) {
			coming(b)
			end(b, 0, 1, 2)
		}},
		{"somebody, behind all ends", list(ahead, tick(100)), up(), 0, func(b *api.Bank) {
			coming(b)
			end(b, 0, 1, 2, 3, 4)
		}},
	})
	checkRefusals(t, three(), []refusal{
		{"somebody is there from the beginning", nil, up(), api.ErrFit},
		{"somebody is there", list(ahead, up()), up(), api.ErrFit},
		{"nobody is there", ahead, down(), api.ErrFit},
	})
	allOK(t, "the stand gives anew", three(), list(down(), ask(1, 0, 60), up(), down(), ask(1, 0, 60), up()))
	b, _ := played(t, three(), list(load(0, 50), times(10, ask(0, 0, 1)), down(), times(20, ask(1, 1, 1)), up()))
	if len(b.Auths) != api.MaxAuths || b.Cards[1].Held != 20 || len(b.Cards[1].Uses) > 0 {
		t.Errorf("thirty of both: %s comes", tell(b))
	}
}

func TestDay(t *testing.T) {
	ahead := list(disputed(), move(api.Capture, 0, 3))
	first := []byte{3, 0, 0, 2, 0, 0, 3, 1, 1, 2, 0, 0, 60, 1, 1, 6, 0, 0, 20, 0, 0, 0, 83}
	checkEffects(t, three(), []effect{
		{"an empty day", nil, file(), 0, func(b *api.Bank) { b.Days = [][]byte{{0, 0, 0, 0, 0}} }},
		{"a day", ahead, file(), 0, func(b *api.Bank) { b.Days, b.Today = [][]byte{first}, nil }},
		{"another day", list(ahead, file(), move(api.ForShop, 1, 20)), file(), 0, func(b *api.Bank) {
			b.Days = [][]byte{first, {1, 1, 1, 8, 0, 0, 20, 0, 0, 0, 20}}
			b.Today = nil
		}},
		{"a day while nobody is there", list(ahead, down()), file(), 0, func(b *api.Bank) { b.Days, b.Today = [][]byte{first}, nil }},
		{"whatever stands beside it", ahead, api.Do{Kind: api.DoDay, N: -5, Shop: 99, Move: 99, Sum: -1}, 0, func(b *api.Bank) { b.Days, b.Today = [][]byte{first}, nil }},
	})
}

func TestPayOut(t *testing.T) {
	both := list(captured(), move(api.Last, 0, 7), send(api.SideCards), arrive(api.SideShops), arrive(api.SideShops))
	checkEffects(t, three(), []effect{
		{"all that is due", paid(), payOut(1), 0, func(b *api.Bank) {
			b.Due[1] = 0
			b.Book = entries(api.Outside, -290, api.Cards+0, 50, api.Cards+2, 240)
		}},
		{"one shop's", both, payOut(1), 0, func(b *api.Bank) {
			b.Due[1] = 0
			b.Book = entries(api.Outside, -290, api.Cards+0, 43, api.Cards+2, 240, api.Shops+0, 7)
		}},
		{"the other one's, while nobody is there", list(both, payOut(1), down()), payOut(0), 0, func(b *api.Bank) {
			b.Due[0] = 0
			b.Book = entries(api.Outside, -283, api.Cards+0, 43, api.Cards+2, 240)
		}},
		{"the least", list(paid(), move(api.Refund, 1, 59)), payOut(1), 0, func(b *api.Bank) {
			b.Due[1] = 0
			b.Book = entries(api.Outside, -349, api.Transit, 59, api.Cards+0, 50, api.Cards+2, 240)
		}},
	})
	checkRefusals(t, three(), []refusal{
		{"nothing due", paid(), payOut(0), api.ErrFunds},
		{"nothing due any more", list(paid(), payOut(1)), payOut(1), api.ErrFunds},
		{"nothing came yet", captured(), payOut(1), api.ErrFunds},
		{"less than nothing due", list(captured(), move(api.Refund, 1, 1)), payOut(1), api.ErrFunds},
		{"one shop too far", paid(), payOut(2), api.ErrNone},
	})
	for _, n := range nowhere() {
		checkRefusals(t, three(), []refusal{{fmt.Sprintf("shop %d", n), paid(), payOut(n), api.ErrNone}})
	}
	// More may be due than a thing's sum may be.
	much := list(load(0, api.MaxSum), load(0, api.MaxSum), ask(0, 0, api.MaxSum), ask(0, 0, api.MaxSum), move(api.Last, 0, api.MaxSum), move(api.Last, 1, api.MaxSum), send(0), arrive(1), arrive(1))
	checkEffects(t, three(), []effect{{"much", much, payOut(0), 0, func(b *api.Bank) { b.Due[0], b.Book = 0, nil }}})
}

func TestSend(t *testing.T) {
	refunded := list(paid(), move(api.Refund, 1, 15), move(api.Refund, 1, 2))
	checkEffects(t, three(), []effect{
		{"cards' side, nothing", nil, send(api.SideCards), 0, func(b *api.Bank) { b.Ways[api.SideShops] = []api.Packet{seen(0)} }},
		{"shops' side, nothing", nil, send(api.SideShops), 0, func(b *api.Bank) { b.Ways[api.SideCards] = []api.Packet{seen(0)} }},
		{"cards' side", list(captured(), move(api.Capture, 0, 2)), send(api.SideCards), 0, func(b *api.Bank) {
			b.Ways[api.SideShops] = append(carry(transfer(1, api.ToShop, 1, 60), transfer(2, api.ToShop, 0, 2)), seen(0))
		}},
		{"cards' side once more", list(captured(), send(api.SideCards)), send(api.SideCards), 0, func(b *api.Bank) {
			b.Ways[api.SideShops] = append(b.Ways[api.SideShops], append(carry(transfer(1, api.ToShop, 1, 60)), seen(0))...)
		}},
		{"shops' side", refunded, send(api.SideShops), 0, func(b *api.Bank) {
			b.Ways[api.SideCards] = append(carry(transfer(1, api.ToCard, 1, 15), transfer(2, api.ToCard, 1, 2)), seen(1))
		}},
		{"cards' side, when some came there", list(refunded, send(api.SideShops), arrive(api.SideCards), arrive(api.SideCards), arrive(api.SideCards)), send(api.SideCards), 0, func(b *api.Bank) {
			b.Ways[api.SideShops] = []api.Packet{seen(2)}
		}},
		{"while nobody is there", list(captured(), down()), send(api.SideCards), 0, func(b *api.Bank) {
			b.Ways[api.SideShops] = append(carry(transfer(1, api.ToShop, 1, 60)), seen(0))
		}},
		{"the sixtieth packet", times(59, send(api.SideShops)), send(api.SideShops), 0, func(b *api.Bank) {
			b.Ways[api.SideCards] = append(b.Ways[api.SideCards], seen(0))
		}},
		{"the sixtieth packet, of many", list(asked(), times(19, move(api.Capture, 1, 1)), times(2, send(api.SideCards))), send(api.SideCards), 0, func(b *api.Bank) {
			b.Ways[api.SideShops] = append(b.Ways[api.SideShops], b.Ways[api.SideShops][:20]...)
		}},
		{"beside a full way the other way", times(60, send(api.SideShops)), send(api.SideCards), 0, func(b *api.Bank) {
			b.Ways[api.SideShops] = []api.Packet{seen(0)}
		}},
		{"whatever stands beside it", captured(), api.Do{Kind: api.DoSend, N: api.SideShops, Shop: 99, Move: 99, Sum: -1}, 0, func(b *api.Bank) {
			b.Ways[api.SideCards] = []api.Packet{seen(0)}
		}},
	})
	checkRefusals(t, three(), []refusal{
		{"the sixty-first packet", times(60, send(api.SideShops)), send(api.SideShops), api.ErrMany},
		{"the sixty-first packet, of many", list(asked(), times(20, move(api.Capture, 1, 1)), times(2, send(api.SideCards)), lose(api.SideShops), lose(api.SideShops)), send(api.SideCards), api.ErrMany},
		{"one side too far", captured(), send(2), api.ErrNone},
	})
	for _, n := range nowhere() {
		checkRefusals(t, three(), []refusal{{fmt.Sprintf("side %d", n), captured(), send(n), api.ErrNone}})
	}
}

func TestArrive(t *testing.T) {
	out := list(captured(), move(api.Capture, 0, 2), send(api.SideCards))
	back := list(paid(), move(api.Refund, 1, 15), send(api.SideShops))
	lost := list(paid(), move(api.Dispute, 1, 20), move(api.ForCard, 1, 8), send(api.SideShops), arrive(api.SideCards), send(api.SideCards))
	early := list(captured(), move(api.Dispute, 1, 20), move(api.ForCard, 1, 8), send(api.SideCards), arrive(api.SideShops))
	gone := func(side int) func(b *api.Bank) {
		return func(b *api.Bank) { b.Ways[side] = b.Ways[side][1:] }
	}
	checkEffects(t, three(), []effect{
		{"to a shop", out, arrive(api.SideShops), 0, func(b *api.Bank) {
			gone(api.SideShops)(b)
			b.Seen[api.SideShops] = 1
			b.Due[1] = 60
			b.Book = entries(api.Outside, -350, api.Transit, 2, api.Cards+0, 48, api.Cards+2, 240, api.Shops+1, 60)
		}},
		{"to another shop", list(out, arrive(api.SideShops)), arrive(api.SideShops), 0, func(b *api.Bank) {
			gone(api.SideShops)(b)
			b.Seen[api.SideShops] = 2
			b.Due[0] = 2
			b.Book = entries(api.Outside, -350, api.Cards+0, 48, api.Cards+2, 240, api.Shops+0, 2, api.Shops+1, 60)
		}},
		{"nothing seen yet", list(out, arrive(api.SideShops), arrive(api.SideShops)), arrive(api.SideShops), 0, gone(api.SideShops)},
		{"what came already", list(out, arrive(api.SideShops), arrive(api.SideShops), arrive(api.SideShops), send(api.SideCards)), arrive(api.SideShops), 0, gone(api.SideShops)},
		{"ahead of its turn", list(out, lose(api.SideShops)), arrive(api.SideShops), 0, gone(api.SideShops)},
		{"in its turn, sent once more", list(out, lose(api.SideShops), lose(api.SideShops), lose(api.SideShops), send(api.SideCards)), arrive(api.SideShops), 0, func(b *api.Bank) {
			gone(api.SideShops)(b)
			b.Seen[api.SideShops] = 1
			b.Due[1] = 60
			b.Book = entries(api.Outside, -350, api.Transit, 2, api.Cards+0, 48, api.Cards+2, 240, api.Shops+1, 60)
		}},
		{"one of two was seen", list(out, arrive(api.SideShops), send(api.SideShops)), arrive(api.SideCards), 0, func(b *api.Bank) {
			gone(api.SideCards)(b)
			b.Senders[api.SideCards].Kept = []api.Transfer{transfer(2, api.ToShop, 0, 2)}
		}},
		{"both were seen", list(out, arrive(api.SideShops), arrive(api.SideShops), send(api.SideShops)), arrive(api.SideCards), 0, func(b *api.Bank) {
			gone(api.SideCards)(b)
			b.Senders[api.SideCards].Kept = nil
		}},
		{"to a card", back, arrive(api.SideCards), 0, func(b *api.Bank) {
			gone(api.SideCards)(b)
			b.Seen[api.SideCards] = 1
			b.Cards[2].Money = 255
			b.Book = entries(api.Outside, -350, api.Cards+0, 50, api.Cards+2, 255, api.Shops+1, 45)
		}},
		{"seen behind one that goes to a card", list(back, arrive(api.SideCards)), arrive(api.SideCards), 0, func(b *api.Bank) {
			gone(api.SideCards)(b)
			b.Senders[api.SideCards].Kept = nil
		}},
		{"seen by cards' side", list(back, arrive(api.SideCards), send(api.SideCards), lose(api.SideShops)), arrive(api.SideShops), 0, func(b *api.Bank) {
			gone(api.SideShops)(b)
			b.Senders[api.SideShops].Kept = nil
		}},
		{"from a shop", lost, arrive(api.SideShops), 0, func(b *api.Bank) {
			gone(api.SideShops)(b)
			b.Seen[api.SideShops] = 2
			b.Due[1] = 52
			b.Book = entries(api.Outside, -350, api.Disputes, -12, api.Cards+0, 50, api.Cards+2, 260, api.Shops+1, 52)
		}},
		{"from a shop that was paid out", list(early, payOut(1)), arrive(api.SideShops), 0, func(b *api.Bank) {
			gone(api.SideShops)(b)
			b.Seen[api.SideShops] = 2
			b.Due[1] = -8
			b.Book = entries(api.Outside, -290, api.Disputes, -12, api.Cards+0, 50, api.Cards+2, 260, api.Shops+1, -8)
		}},
		{"while nobody is there", list(out, down()), arrive(api.SideShops), 0, func(b *api.Bank) {
			gone(api.SideShops)(b)
			b.Seen[api.SideShops] = 1
			b.Due[1] = 60
			b.Book = entries(api.Outside, -350, api.Transit, 2, api.Cards+0, 48, api.Cards+2, 240, api.Shops+1, 60)
		}},
		{"lost", out, lose(api.SideShops), 0, gone(api.SideShops)},
		{"lost, how many were seen", list(paid(), send(api.SideShops)), lose(api.SideCards), 0, gone(api.SideCards)},
		{"lost on the way to cards", back, lose(api.SideCards), 0, gone(api.SideCards)},
	})
}

func TestArriveErrors(t *testing.T) {
	for _, d := range []func(int) api.Do{arrive, lose} {
		for _, n := range append(nowhere(), 2) {
			checkRefusals(t, three(), []refusal{{fmt.Sprintf("%v", d(n)), list(captured(), send(0), send(1)), d(n), api.ErrNone}})
		}
		checkRefusals(t, three(), []refusal{
			{"nothing sent to shops", list(captured(), send(api.SideShops)), d(api.SideShops), api.ErrNone},
			{"nothing sent to cards", list(captured(), send(api.SideCards)), d(api.SideCards), api.ErrNone},
			{"nothing left on its way", paid(), d(api.SideShops), api.ErrNone},
			{"all lost", list(captured(), send(api.SideCards), lose(api.SideShops), lose(api.SideShops)), d(api.SideShops), api.ErrNone},
		})
	}
}

// TestExample: 40 taken of 60: the shop is due 40, once that came; 20 are held.
func TestExample(t *testing.T) {
	l := []api.Do{load(0, 100), ask(0, 1, 60), move(api.Capture, 0, 40), send(api.SideCards), arrive(api.SideShops)}
	for n, want := range []int{0, 0, 0, 0, 0, 40} {
		if b, _ := played(t, three(), l[:n]); b.Due[1] != want {
			t.Errorf("behind %d things: %d is due, not %d", n, b.Due[1], want)
		}
	}
	if b, _ := played(t, three(), l); b.Cards[0].Held != 20 || auth.Hold(b.Auths[0]) != 20 {
		t.Errorf("%s comes", tell(b))
	}
}

// dice answers numbers from 0 to less than n that look like chance, and are the same for a seed.
func dice(seed int) func(n int) int {
	state := seed
	return func(n int) int {
		state = (state*1103515245 + 12345) % (1 << 31)
		return state / 65536 % n
	}
}

// someSetup has at least a card and a shop.
func someSetup(chance func(int) int) api.Setup {
	s := api.Setup{Shops: 1 + chance(3), Cap: chance(100)}
	for range 1 + chance(3) {
		s.Paces = append(s.Paces, api.Pace{Ticks: 1 + chance(40), Count: 3 + chance(20), Sum: 100 + chance(500)})
	}
	return s
}

// someDo is mostly something that may be done in b, under no ID.
func someDo(chance func(int) int, b api.Bank) api.Do {
	if chance(40) == 0 {
		return api.Do{Kind: chance(14) - 1, N: chance(4) - 1, Shop: chance(4) - 1, Move: chance(10), Sum: chance(100) - 10}
	}
	switch x := chance(100); {
	case x < 10:
		return load(chance(len(b.Cards)), 1+chance(200))
	case x < 30:
		return ask(chance(len(b.Cards)), chance(len(b.Due)), 1+chance(50))
	case x < 63:
		return move(1+chance(8), chance(len(b.Auths)+1), 1+chance(20))
	case x < 69:
		return tick(chance(30))
	case x < 75:
		return send(chance(2))
	case x < 88:
		return arrive(chance(2))
	case x < 90:
		return lose(chance(2))
	case x < 92:
		return down()
	case x < 94:
		return up()
	case x < 96:
		return file()
	}
	return payOut(chance(len(b.Due)))
}

// checkBank: nothing comes from nothing, what is held is what is permitted, and each part is right by itself.
func checkBank(t *testing.T, told string, b api.Bank) {
	t.Helper()
	fail := func(what string, got ...any) { t.Fatalf("%s: %s: %v comes in %s", told, what, got, tell(b)) }
	if f := book.Wrong(b.Book); f != (api.Fault{}) {
		fail("the book", f)
	}
	held := make([]int, len(b.Cards))
	for n, a := range b.Auths {
		if err := auth.Wrong(a); err != api.OK {
			fail("a permission", n, err)
		}
		held[a.Card] += auth.Hold(a)
		if a.Till <= b.Time && !a.Shut && !b.Down {
			fail("a permission that is over", n)
		}
	}
	for n, c := range b.Cards {
		if err := card.Wrong(c); err != api.OK || c.Held != held[n] || c.Money != book.Get(b.Book, api.Cards+n) {
			fail("a card", n, err, held[n], book.Get(b.Book, api.Cards+n))
		}
	}
	for n, sum := range b.Due {
		if sum != book.Get(b.Book, api.Shops+n) {
			fail("a shop", n, book.Get(b.Book, api.Shops+n))
		}
	}
	if err := stand.Wrong(b.Stand); err != api.OK || !b.Down && len(b.Stand.Advices) > 0 {
		fail("the stand", err)
	}
	checkTransfers(b, fail)
}

// checkTransfers: what was sent and didn't come is what the accounts between have.
func checkTransfers(b api.Bank, fail func(what string, got ...any)) {
	transit, disputes := 0, 0
	for _, a := range b.Auths {
		disputes -= a.Disputed
	}
	for side, s := range b.Senders {
		if f := post.Wrong(s); f != (api.Fault{}) || b.Seen[1-side] > s.Sent || b.Seen[1-side] < s.Sent-len(s.Kept) {
			fail("a sender", side, f)
		}
		for _, x := range s.Kept {
			if x.Number <= b.Seen[1-side] {
				continue
			}
			if x.Kind == api.FromShop {
				disputes -= x.Sum
			} else {
				transit += x.Sum
			}
		}
		if len(b.Ways[side]) > api.MaxWay {
			fail("a way", side)
		}
	}
	if transit != book.Get(b.Book, api.Transit) || disputes != book.Get(b.Book, api.Disputes) {
		fail("between", transit, disputes)
	}
}

// TestGoesOn: whatever is done, what must hold holds behind each thing; what is refused changes nothing; each day's file tells all of it.
func TestGoesOn(t *testing.T) {
	done := map[int]int{}
	for seed := range 120 {
		chance := dice(seed)
		s := someSetup(chance)
		var l []api.Do
		var records []api.Record
		b, _ := played(t, s, nil)
		for range api.MaxDo {
			d := someDo(chance, b)
			l = append(l, d)
			told := fmt.Sprintf("seed %d: %v", seed, l)
			next, a := played(t, s, l)
			if a.Err != api.OK && (tell(next) != tell(b) || a.Auth != 0) {
				t.Fatalf("%s: %s %v comes, refused, not %s", told, tell(next), a, tell(b))
			}
			if a.Err == api.OK {
				done[d.Kind]++
			}
			if a.Err == api.OK && d.Kind == api.DoMove {
				records = append(records, api.Record{Shop: b.Auths[d.N].Shop, Auth: d.N, Kind: d.Move, Sum: d.Sum})
			}
			b = next
			checkBank(t, told, b)
		}
		checkDays(t, fmt.Sprintf("seed %d: %v", seed, l), b, records)
	}
	for kind := api.DoLoad; kind <= api.DoPayOut; kind++ {
		if done[kind] < 50 {
			t.Errorf("kind %d is done %d times: too few to tell anything", kind, done[kind])
		}
	}
}

// TestAnything: whatever numbers stand in a thing, it is done or refused, and the bank stays one.
func TestAnything(t *testing.T) {
	numbers := []int{math.MinInt, -1, 0, 1, 5, math.MaxInt}
	var all []api.Do
	for kind := range 14 {
		for _, n := range numbers {
			for _, shop := range numbers {
				for _, x := range numbers {
					for _, sum := range numbers {
						all = append(all, api.Do{ID: sum, Kind: kind - 1, N: n, Shop: shop, Move: x, Sum: sum}, api.Do{Kind: kind - 1, N: n, Shop: shop, Move: x, Sum: sum})
					}
				}
			}
		}
	}
	for _, ahead := range [][]api.Do{disputed(), list(disputed(), down())} {
		for l := range slices.Chunk(all, 120) {
			b, _ := played(t, three(), list(ahead, l))
			checkBank(t, fmt.Sprint(l), b)
		}
	}
}

// checkDays: the files, and what is noted of today, are all records.
func checkDays(t *testing.T, told string, b api.Bank, records []api.Record) {
	t.Helper()
	var got []api.Record
	for _, file := range b.Days {
		l, err := day.Parse(file)
		if err != api.OK {
			t.Fatalf("%s: %d comes of a file", told, err)
		}
		got = append(got, l...)
	}
	got = append(got, b.Today...)
	if !slices.Equal(day.Sorted(got), day.Sorted(records)) {
		t.Fatalf("%s: %v is told, not %v", told, got, records)
	}
}

// TestInTheEnd: once all came, nothing is between any more but disputes, and shops got what the files say.
func TestInTheEnd(t *testing.T) {
	ends := 0
	for seed := range 200 {
		chance := dice(seed)
		s := someSetup(chance)
		var l []api.Do
		b, _ := played(t, s, nil)
		for range 70 {
			l = append(l, someDo(chance, b))
			b, _ = played(t, s, l)
		}
		for len(l) < api.MaxDo && pending(b) {
			l = append(l, onward(b))
			b, _ = played(t, s, l)
		}
		if pending(b) {
			continue
		}
		ends++
		told := fmt.Sprintf("seed %d: %v", seed, l)
		checkBank(t, told, b)
		if book.Get(b.Book, api.Transit) != 0 || b.Seen != [2]int{b.Senders[1].Sent, b.Senders[0].Sent} {
			t.Errorf("%s: %s comes in the end", told, tell(b))
		}
		net, paid := nets(b), paidOut(s, l)
		for n, sum := range b.Due {
			if sum+paid[n] != net[n] {
				t.Errorf("%s: shop %d got %d and %d, not %d", told, n, sum, paid[n], net[n])
			}
		}
	}
	if ends < 100 {
		t.Errorf("%d come to an end: too few to tell anything", ends)
	}
}

// pending: something that was sent was not told back yet.
func pending(b api.Bank) bool {
	return len(b.Senders[0].Kept)+len(b.Senders[1].Kept) > 0
}

// onward is what brings b nearer to having nothing pending.
func onward(b api.Bank) api.Do {
	for side, way := range b.Ways {
		if len(way) > 0 {
			return arrive(side)
		}
	}
	// Who lacks something is sent it; else who keeps it is told that it came.
	for side, s := range b.Senders {
		if b.Seen[1-side] < s.Sent {
			return send(side)
		}
	}
	if len(b.Senders[api.SideCards].Kept) > 0 {
		return send(api.SideShops)
	}
	return send(api.SideCards)
}

// nets is what the shops must have got, by all records.
func nets(b api.Bank) []int {
	out := make([]int, len(b.Due))
	for _, file := range b.Days {
		l, _ := day.Parse(file)
		for n := range out {
			out[n] += day.Net(l, n)
		}
	}
	for n := range out {
		out[n] += day.Net(b.Today, n)
	}
	return out
}

// paidOut is what the shops were paid out.
func paidOut(s api.Setup, l []api.Do) []int {
	out := make([]int, s.Shops)
	for i, d := range l {
		b, _, _ := Play(s, l[:i])
		_, a, _ := Play(s, l[:i+1])
		if d.Kind == api.DoPayOut && a[i].Err == api.OK {
			out[d.N] += b.Due[d.N]
		}
	}
	return out
}

// TestSaidTwice: a list of which things are said again under their IDs ends as the list without that.
func TestSaidTwice(t *testing.T) {
	for seed := range 100 {
		chance := dice(seed)
		s := someSetup(chance)
		var once, twice []api.Do
		var first []int // where each of twice was said first, in once
		b, _ := played(t, s, nil)
		for len(twice) < api.MaxDo {
			if len(once) > 0 && chance(3) == 0 {
				n := chance(len(once))
				twice, first = append(twice, under(n+1, someDo(chance, b))), append(first, n)
				continue
			}
			d := under(len(once)+1, someDo(chance, b))
			twice, first = append(twice, d), append(first, len(once))
			once = append(once, under(0, d))
			b, _ = played(t, s, once)
		}
		_, want, _ := Play(s, once)
		got, a, f := Play(s, twice)
		if tell(got) != tell(b) || f != (api.Fault{}) {
			t.Fatalf("seed %d: %s %v comes, not %s", seed, tell(got), f, tell(b))
		}
		for i, n := range first {
			if a[i] != want[n] {
				t.Fatalf("seed %d: %v comes of %v, not %v", seed, a[i], twice[i], want[n])
			}
		}
	}
}

// TestMemory: what is handed in stays as it is, spare room too; what comes shares none of it, and no two lists of it share any.
func TestMemory(t *testing.T) {
	paces := append(three().Paces, api.Pace{Ticks: -9}, api.Pace{Ticks: 9, Count: 9, Sum: 9})
	things := list(
		asked(), tick(5), under(7, move(api.Capture, 1, 60)), move(api.Capture, 0, 2), file(), send(0), send(0), arrive(1), send(1), arrive(0),
		move(api.Refund, 1, 5), send(1), move(api.Capture, 1, 1), file(), move(api.Refund, 1, 6), move(api.MoreSum, 1, 7), send(0),
		ask(2, 0, 3), down(), ask(1, 0, 5), ask(1, 1, 6), ask(1, 1, 600), payOut(1),
	)
	l := append(slices.Clone(things), under(7, api.Do{}), load(0, 5), load(1, 5))
	pacesBefore, lBefore := slices.Clone(paces), slices.Clone(l)
	s := api.Setup{Paces: paces[:3], Shops: 2, Cap: 60}
	want, wantAnswers, _ := Play(three(), things)
	for k := range len(lists(&want, &wantAnswers)) {
		got, answers, f := Play(s, l[:len(things)])
		if tell(got) != tell(want) || !slices.Equal(answers, wantAnswers) || f != (api.Fault{}) || Wrong(s) != f {
			t.Fatalf("%s %v %v comes, where there is spare room, not %s", tell(got), answers, f, tell(want))
		}
		name := spoil(lists(&got, &answers)[k])
		if !slices.Equal(paces, pacesBefore) || !slices.Equal(l, lBefore) {
			t.Fatalf("%s: %v %v comes of what was handed in", name, paces, l)
		}
		for i, x := range lists(&got, &answers) {
			y := lists(&want, &wantAnswers)[i]
			if i != k && !within(i, k) && fmt.Sprint(reflect.ValueOf(x).Elem()) != fmt.Sprint(reflect.ValueOf(y).Elem()) {
				t.Errorf("list %d, once list %d was changed: %v comes, not %v", i, k, x, y)
			}
		}
	}
	got, answers, _ := Play(s, l[:len(things)])
	for i := range paces {
		paces[i] = api.Pace{Ticks: 77}
	}
	for i := range l {
		l[i] = load(0, 77)
	}
	if tell(got) != tell(want) || !slices.Equal(answers, wantAnswers) {
		t.Errorf("%s %v comes, once what was handed in was changed, not %s", tell(got), answers, tell(want))
	}
}

// lists are all lists of what came: first those that have other ones in them.
func lists(b *api.Bank, answers *[]api.Answer) []any {
	out := []any{&b.Cards, &b.Days, &b.Due, &b.Auths, &b.Stand.Used, &b.Stand.Advices, &b.Today, &b.Book, answers}
	for side := range b.Senders {
		out = append(out, &b.Senders[side].Kept, &b.Ways[side])
	}
	for i := range b.Cards {
		out = append(out, &b.Cards[i].Uses)
	}
	for i := range b.Days {
		out = append(out, &b.Days[i])
	}
	return out
}

// within: whether of the lists i and k one has the other in it, or may have.
func within(i, k int) bool {
	const simple = 13 // those that have none, and are in none, are below this
	return min(i, k) < 2 && max(i, k) >= simple
}

// spoil writes all over a list, its spare room too, as who asked for it may.
func spoil(list any) string {
	v := reflect.ValueOf(list).Elem()
	v = v.Slice(0, v.Cap())
	for i := range v.Len() {
		scribble(v.Index(i))
	}
	return v.Type().String()
}

// scribble changes a value, but not what a list in it has.
func scribble(v reflect.Value) {
	switch v.Kind() {
	case reflect.Int:
		v.SetInt(77)
	case reflect.Uint8:
		v.SetUint(77)
	case reflect.Bool:
		v.SetBool(!v.Bool())
	case reflect.Struct:
		for i := range v.NumField() {
			scribble(v.Field(i))
		}
	case reflect.Slice:
		v.SetZero()
	}
}
