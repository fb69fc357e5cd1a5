package card

import (
	"fmt"
	"math"
	"slices"
	"testing"

	"paystone/api"
	"paystone/pace"
)

// uses is a list of uses: times and sums in turn.
func uses(l ...int) []api.Use {
	var out []api.Use
	for i := 0; i < len(l); i += 2 {
		out = append(out, api.Use{Time: l[i], Sum: l[i+1]})
	}
	return out
}

// many is so many uses of that sum, all at that time.
func many(n, time, sum int) []api.Use {
	return slices.Repeat(uses(time, sum), n)
}

// of is a card, of a pace of three uses, and 200, in ten ticks.
func of(money, held int, l ...int) api.Card {
	return api.Card{Money: money, Held: held, Pace: api.Pace{Ticks: 10, Count: 3, Sum: 200}, Uses: uses(l...)}
}

// at is the card with another pace.
func at(c api.Card, ticks, count, sum int) api.Card {
	c.Pace = api.Pace{Ticks: ticks, Count: count, Sum: sum}
	return c
}

// with is the card with other uses.
func with(c api.Card, l []api.Use) api.Card {
	c.Uses = l
	return c
}

func same(a, b api.Card) bool {
	return a.Money == b.Money && a.Held == b.Held && a.Pace == b.Pace && slices.Equal(a.Uses, b.Uses)
}

// wrongCards are cards that are wrong, and what is wrong with them.
func wrongCards() []struct {
	name string
	c    api.Card
	want api.Errno
} {
	return []struct {
		name string
		c    api.Card
		want api.Errno
	}{
		{"too little money", of(-api.MaxTotal-1, 0), api.ErrRange},
		{"too much money", of(api.MaxTotal+1, 0), api.ErrRange},
		{"money of the least number", of(math.MinInt, 0), api.ErrRange},
		{"money of the greatest number", of(math.MaxInt, 0), api.ErrRange},
		{"less than nothing held", of(100, -1), api.ErrRange},
		{"too much held", of(100, api.MaxTotal+1), api.ErrRange},
		{"the least number held", of(100, math.MinInt), api.ErrRange},
		{"the greatest number held", of(100, math.MaxInt), api.ErrRange},
		{"no pace", api.Card{Money: 100}, api.ErrRange},
		{"a pace of no ticks", at(of(100, 0), 0, 3, 200), api.ErrRange},
		{"a pace of too many ticks", at(of(100, 0), api.MaxTime+1, 3, 200), api.ErrRange},
		{"a pace of too great a count", at(of(100, 0), 10, api.MaxUses+1, 200), api.ErrRange},
		{"a pace of less than nothing", at(of(100, 0), 10, 3, -1), api.ErrRange},
		{"a pace of too much", at(of(100, 0), 10, 3, api.MaxTotal+1), api.ErrRange},
		{"too many uses", with(of(100, 0), many(31, 5, 1)), api.ErrMany},
		{"a use ahead of time 0", of(100, 0, -1, 1), api.ErrRange},
		{"a use of less than nothing", of(100, 0, 1, -1), api.ErrRange},
		{"a use of too much", of(100, 0, 1, 1, 2, api.MaxSum+1), api.ErrRange},
		{"uses not in turn", of(100, 0, 1, 1, 5, 1, 4, 1), api.ErrForm},
		{"money ahead of too many", with(of(api.MaxTotal+1, 0), many(31, 5, 1)), api.ErrRange},
		{"held ahead of uses not in turn", of(100, -1, 5, 1, 4, 1), api.ErrRange},
		{"pace ahead of too many", with(at(of(100, 0), 0, 3, 200), many(31, 5, 1)), api.ErrRange},
		{"pace ahead of uses not in turn", at(of(100, 0, 5, 1, 4, 1), 10, 31, 200), api.ErrRange},
	}
}

func TestWrong(t *testing.T) {
	for _, x := range wrongCards() {
		if got := Wrong(x.c); got != x.want {
			t.Errorf("%s: %d comes, not %d", x.name, got, x.want)
		}
	}
	right := []struct {
		name string
		c    api.Card
	}{
		{"some money, some of it held", of(100, 70, 5, 40, 9, 30)},
		{"nothing", of(0, 0)},
		{"no uses, but an empty list", with(of(100, 70), []api.Use{})},
		{"the least money", of(-api.MaxTotal, 0)},
		{"the most money", of(api.MaxTotal, 0)},
		{"the most held", of(0, api.MaxTotal)},
		{"less money than is held", of(-api.MaxTotal, api.MaxTotal)},
		{"a pace of nothing", at(of(100, 0), 1, 0, 0)},
		{"the greatest pace", at(of(100, 0), api.MaxTime, api.MaxUses, api.MaxTotal)},
		{"as many uses as may be", with(of(100, 0), many(30, 5, api.MaxSum))},
		{"uses that the pace wouldn't have", at(of(100, 0, 5, 1, 5, 1), 10, 1, 1)},
	}
	for _, x := range right {
		if got := Wrong(x.c); got != api.OK {
			t.Errorf("%s: %d comes", x.name, got)
		}
	}
}

// TestWrongCards: a wrong card is told ahead of all else, and nothing comes beside that.
func TestWrongCards(t *testing.T) {
	calls := []struct {
		name string
		call func(c api.Card) (api.Card, api.Errno)
	}{
		{"Allow", func(c api.Card) (api.Card, api.Errno) { return Allow(c, 10, 9) }},
		{"Allow out of range", func(c api.Card) (api.Card, api.Errno) { return Allow(c, 0, -1) }},
		{"Allow too much", func(c api.Card) (api.Card, api.Errno) { return Allow(c, api.MaxSum, 9) }},
		{"Force", func(c api.Card) (api.Card, api.Errno) { return Force(c, 10) }},
		{"Force out of range", func(c api.Card) (api.Card, api.Errno) { return Force(c, math.MaxInt) }},
		{"Shift", func(c api.Card) (api.Card, api.Errno) { return Shift(c, 1, 1) }},
		{"Shift that would mend it", func(c api.Card) (api.Card, api.Errno) { return Shift(c, 1, -1) }},
		{"Shift out of range", func(c api.Card) (api.Card, api.Errno) { return Shift(c, math.MinInt, math.MaxInt) }},
	}
	for _, x := range wrongCards() {
		for _, y := range calls {
			got, err := y.call(x.c)
			if !same(got, api.Card{}) || err != x.want {
				t.Errorf("%s, %s: %v %d comes, not nothing and %d", y.name, x.name, got, err, x.want)
			}
		}
	}
}

func TestFree(t *testing.T) {
	tests := []struct{ money, held, want int }{
		{100, 70, 30},
		{100, 0, 100},
		{100, 100, 0},
		{100, 101, -1},
		{0, 0, 0},
		{-20, 0, -20},
		{-20, 30, -50},
		{api.MaxTotal, 0, api.MaxTotal},
		{-api.MaxTotal, api.MaxTotal, -2 * api.MaxTotal},
	}
	for _, x := range tests {
		if got := Free(of(x.money, x.held, 5, 40)); got != x.want {
			t.Errorf("%d less %d: %d comes, not %d", x.money, x.held, got, x.want)
		}
	}
}

func TestAllow(t *testing.T) {
	tests := []struct {
		name      string
		c         api.Card
		sum, time int
		want      api.Card
	}{
		{"some of it", of(100, 70, 5, 40), 20, 9, of(100, 90, 5, 40, 9, 20)},
		{"all of it", of(100, 70, 5, 40), 30, 9, of(100, 100, 5, 40, 9, 30)},
		{"the least", of(1, 0), 1, 0, of(1, 1, 0, 1)},
		{"of a list without entries", with(of(100, 0), []api.Use{}), 10, 9, of(100, 10, 9, 10)},
		{"the most", at(of(api.MaxTotal, 0), 1, 1, api.MaxSum), api.MaxSum, api.MaxTime, at(of(api.MaxTotal, api.MaxSum, api.MaxTime, api.MaxSum), 1, 1, api.MaxSum)},
		{"the last that can be held", at(of(api.MaxTotal, api.MaxTotal-1), 1, 1, 1), 1, 9, at(of(api.MaxTotal, api.MaxTotal, 9, 1), 1, 1, 1)},
		{"at the time of the last one", of(100, 0, 9, 10), 20, 9, of(100, 20, 9, 10, 9, 20)},
		{"what counts no more is gone", of(500, 50, 5, 100, 6, 50, 7, 50), 100, 15, of(500, 150, 6, 50, 7, 50, 15, 100)},
		{"nothing counts any more", of(500, 50, 5, 100, 6, 50, 7, 50), 200, 17, of(500, 250, 17, 200)},
		{"as much as the pace has", of(500, 0, 5, 100), 100, 14, of(500, 100, 5, 100, 14, 100)},
	}
	for _, x := range tests {
		got, err := Allow(x.c, x.sum, x.time)
		if !same(got, x.want) || err != api.OK {
			t.Errorf("%s: %v %d comes, not %v", x.name, got, err, x.want)
		}
	}
}

func TestAllowErrors(t *testing.T) {
	c := of(100, 70, 5, 40)
	tests := []struct {
		name      string
		c         api.Card
		sum, time int
		want      api.Errno
	}{
		{"nothing", c, 0, 9, api.ErrRange},
		{"less than nothing", c, -1, 9, api.ErrRange},
		{"the least number", c, math.MinInt, 9, api.ErrRange},
		{"too much for anybody", of(api.MaxTotal, 0), api.MaxSum + 1, 9, api.ErrRange},
		{"the greatest number", of(-api.MaxTotal, api.MaxTotal), math.MaxInt, 9, api.ErrRange},
		{"ahead of time 0", c, 10, -1, api.ErrRange},
		{"behind the last time", c, 10, api.MaxTime + 1, api.ErrRange},
		{"at the least number", c, 10, math.MinInt, api.ErrRange},
		{"at the greatest number", c, 10, math.MaxInt, api.ErrRange},
		{"sum's range ahead of funds", c, api.MaxSum + 1, 9, api.ErrRange},
		{"sum's range ahead of form", c, 0, 4, api.ErrRange},
		{"sum's range ahead of pace", at(c, 10, 0, 0), 0, 9, api.ErrRange},
		{"too early ahead of funds", c, 31, -1, api.ErrRange},
		{"too late ahead of funds", c, 31, api.MaxTime + 1, api.ErrRange},
		{"one too much", c, 31, 9, api.ErrFunds},
		{"all that the card has, some of it held", c, 100, 9, api.ErrFunds},
		{"of nothing free", of(70, 70), 1, 9, api.ErrFunds},
		{"of more held than there is", of(70, 71), 1, 9, api.ErrFunds},
		{"of less than nothing", of(-1, 0), 1, 9, api.ErrFunds},
		{"of the least that may be", of(-api.MaxTotal, api.MaxTotal), api.MaxSum, 9, api.ErrFunds},
		{"funds ahead of form", c, 31, 4, api.ErrFunds},
		{"funds ahead of pace", at(c, 10, 1, 0), 31, 9, api.ErrFunds},
		{"the last use is later", c, 30, 4, api.ErrForm},
		{"form ahead of pace", at(c, 10, 0, 0), 30, 4, api.ErrForm},
		{"too often", of(100, 0, 5, 1, 6, 1, 7, 1), 1, 14, api.ErrPace},
		{"too much in so short a time", of(500, 0, 5, 100), 101, 14, api.ErrPace},
		{"too much at once", of(500, 0), 201, 9, api.ErrPace},
		{"of a pace of nothing", at(of(500, 0), 1, 0, api.MaxTotal), 1, 9, api.ErrPace},
	}
	for _, x := range tests {
		got, err := Allow(x.c, x.sum, x.time)
		if !same(got, api.Card{}) || err != x.want {
			t.Errorf("%s: %v %d comes, not nothing and %d", x.name, got, err, x.want)
		}
	}
}

func TestForce(t *testing.T) {
	tests := []struct {
		name string
		c    api.Card
		sum  int
		want api.Card
	}{
		{"some of it", of(100, 70, 5, 40), 20, of(100, 90, 5, 40)},
		{"more than there is", of(100, 70, 5, 40), 31, of(100, 101, 5, 40)},
		{"of less than nothing", of(-20, 0), 1, of(-20, 1)},
		{"of no uses, but an empty list", with(of(100, 0), []api.Use{}), 1, of(100, 1)},
		{"faster than its pace", at(of(100, 0, 5, 40), 10, 0, 0), 10, at(of(100, 10, 5, 40), 10, 0, 0)},
		{"the most", of(0, 0), api.MaxSum, of(0, api.MaxSum)},
		{"the most that can be held", of(0, api.MaxTotal-api.MaxSum), api.MaxSum, of(0, api.MaxTotal)},
		{"the last that can be held", of(-api.MaxTotal, api.MaxTotal-1), 1, of(-api.MaxTotal, api.MaxTotal)},
	}
	for _, x := range tests {
		got, err := Force(x.c, x.sum)
		if !same(got, x.want) || err != api.OK {
			t.Errorf("%s: %v %d comes, not %v", x.name, got, err, x.want)
		}
	}
}

func TestForceErrors(t *testing.T) {
	tests := []struct {
		name string
		c    api.Card
		sum  int
	}{
		{"nothing", of(100, 0), 0},
		{"less than nothing", of(100, 50), -1},
		{"the least number", of(100, 0), math.MinInt},
		{"too much", of(api.MaxTotal, 0), api.MaxSum + 1},
		{"the greatest number", of(100, 1), math.MaxInt},
		{"one more than can be held", of(api.MaxTotal, api.MaxTotal), 1},
		{"the most, one of it more than can be held", of(api.MaxTotal, api.MaxTotal-api.MaxSum+1), api.MaxSum},
	}
	for _, x := range tests {
		got, err := Force(x.c, x.sum)
		if !same(got, api.Card{}) || err != api.ErrRange {
			t.Errorf("%s: %v %d comes, not nothing and %d", x.name, got, err, api.ErrRange)
		}
	}
}

func TestShift(t *testing.T) {
	tests := []struct {
		name        string
		c           api.Card
		held, money int
		want        api.Card
	}{
		{"nothing", of(100, 70, 5, 40), 0, 0, of(100, 70, 5, 40)},
		{"some is taken", of(100, 70, 5, 40), -40, -40, of(60, 30, 5, 40)},
		{"all that is held is let go", of(100, 70, 5, 40), -70, 0, of(100, 0, 5, 40)},
		{"some comes", of(100, 70, 5, 40), 0, 50, of(150, 70, 5, 40)},
		{"more is held", of(100, 70, 5, 40), 31, 0, of(100, 101, 5, 40)},
		{"there is less than nothing then", of(100, 70, 5, 40), 0, -101, of(-1, 70, 5, 40)},
		{"of no uses, but an empty list", with(of(100, 70), []api.Use{}), -1, 1, of(101, 69)},
		{"the most of both", of(0, 0), api.MaxTotal, api.MaxTotal, of(api.MaxTotal, api.MaxTotal)},
		{"the least of both", of(0, api.MaxTotal), -api.MaxTotal, -api.MaxTotal, of(-api.MaxTotal, 0)},
	}
	for _, x := range tests {
		got, err := Shift(x.c, x.held, x.money)
		if !same(got, x.want) || err != api.OK {
			t.Errorf("%s: %v %d comes, not %v", x.name, got, err, x.want)
		}
	}
}

func TestShiftErrors(t *testing.T) {
	c := of(100, 70, 5, 40)
	tests := []struct {
		name        string
		c           api.Card
		held, money int
		want        api.Errno
	}{
		{"too much held", c, api.MaxTotal + 1, 0, api.ErrRange},
		{"too much let go", c, -api.MaxTotal - 1, 0, api.ErrRange},
		{"too much money", c, 0, api.MaxTotal + 1, api.ErrRange},
		{"too much money taken", c, 0, -api.MaxTotal - 1, api.ErrRange},
		{"the greatest number held", c, math.MaxInt, 0, api.ErrRange},
		{"the least number held", c, math.MinInt, 0, api.ErrRange},
		{"the greatest number of money", c, 0, math.MaxInt, api.ErrRange},
		{"the least number of money", c, 0, math.MinInt, api.ErrRange},
		{"held's range ahead of funds", c, api.MaxTotal + 1, api.MaxTotal, api.ErrRange},
		{"money's range ahead of funds", c, -71, api.MaxTotal + 1, api.ErrRange},
		{"one more let go than is held", c, -71, 0, api.ErrFunds},
		{"one more let go than is held, with money", c, -71, 71, api.ErrFunds},
		{"one more held than can be", c, api.MaxTotal - 69, 0, api.ErrFunds},
		{"one more money than can be", c, 0, api.MaxTotal - 99, api.ErrFunds},
		{"one less money than can be", of(-1, 0), 0, -api.MaxTotal, api.ErrFunds},
		{"twice the most", of(api.MaxTotal, api.MaxTotal), api.MaxTotal, api.MaxTotal, api.ErrFunds},
		{"twice the least", of(-api.MaxTotal, 0), -api.MaxTotal, -api.MaxTotal, api.ErrFunds},
	}
	for _, x := range tests {
		got, err := Shift(x.c, x.held, x.money)
		if !same(got, api.Card{}) || err != x.want {
			t.Errorf("%s: %v %d comes, not nothing and %d", x.name, got, err, x.want)
		}
	}
}

// TestAllowInTurn: whatever is asked for, nobody spends what is not there, and not faster than the pace.
func TestAllowInTurn(t *testing.T) {
	for i := range 4 * 4 * 6 {
		c := at(of(40+i%7*10, 0), 1+i%4, i/4%4, i/16%6*4)
		for k := range 60 {
			sum, time := 1+k*7%5, k/3
			told := fmt.Sprintf("%v, %d at %d", c, sum, time)
			next, err := Allow(c, sum, time)
			made, tooFast := pace.Add(c.Pace, c.Uses, api.Use{Time: time, Sum: sum})
			fits := c.Held+sum <= c.Money && tooFast == api.OK
			if fits != (err == api.OK) {
				t.Fatalf("%s: %d comes", told, err)
			}
			if !fits {
				continue
			}
			want := api.Card{Money: c.Money, Held: c.Held + sum, Pace: c.Pace, Uses: made}
			if !same(next, want) || Free(next) < 0 || Wrong(next) != api.OK {
				t.Fatalf("%s: %v comes, not %v", told, next, want)
			}
			c = next
		}
	}
}

// TestMemory: what is handed in stays as it is, spare room too, and what comes shares none of it.
func TestMemory(t *testing.T) {
	room := uses(1, 1, 2, 2, 3, 3, 4, 4)
	before := slices.Clone(room)
	calls := []struct {
		name string
		call func(c api.Card) (api.Card, api.Errno)
	}{
		{"Allow", func(c api.Card) (api.Card, api.Errno) { return Allow(c, 10, 5) }},
		{"Allow where one counts no more", func(c api.Card) (api.Card, api.Errno) { return Allow(c, 10, 11) }},
		{"Allow where none counts any more", func(c api.Card) (api.Card, api.Errno) { return Allow(c, 10, 50) }},
		{"Force", func(c api.Card) (api.Card, api.Errno) { return Force(c, 10) }},
		{"Shift", func(c api.Card) (api.Card, api.Errno) { return Shift(c, -10, -10) }},
		{"Shift by nothing", func(c api.Card) (api.Card, api.Errno) { return Shift(c, 0, 0) }},
	}
	for _, x := range calls {
		for n := range 3 {
			c := with(of(100, 10), room[:n])
			got, err := x.call(c)
			if err != api.OK {
				t.Fatalf("%s: %d comes", x.name, err)
			}
			for i := range got.Uses[:cap(got.Uses)] {
				got.Uses[:cap(got.Uses)][i] = api.Use{Time: 77, Sum: 77}
			}
			if !slices.Equal(room, before) {
				t.Fatalf("%s: %v comes of what was handed in, not %v", x.name, room, before)
			}
			again, _ := x.call(c)
			if want, _ := x.call(with(c, slices.Clone(room[:n]))); !same(again, want) {
				t.Errorf("%s: %v comes, where there is spare room, not %v", x.name, again, want)
			}
		}
	}
	c := with(of(100, 10), room[:2])
	if err, free := Wrong(c), Free(c); err != api.OK || free != 90 || !slices.Equal(room, before) {
		t.Errorf("Wrong and Free: %d and %d come, and leave %v", err, free, room)
	}
}
