package stand

import (
	"fmt"
	"math"
	"slices"
	"testing"

	"paystone/api"
)

func of(card, shop, sum, time int) api.Advice {
	return api.Advice{Card: card, Shop: shop, Sum: sum, Time: time}
}

// used is how much the cards were given.
func used(l ...int) []int { return l }

func stand(limit int, used []int, l ...api.Advice) api.Stand {
	return api.Stand{Cap: limit, Used: used, Advices: l}
}

// many is so many advices of that sum for card 0.
func many(n, sum int) []api.Advice {
	return slices.Repeat([]api.Advice{of(0, 3, sum, 5)}, n)
}

// gave is a stand of that limit that gave card 0 so many advices of 1, and has another card.
func gave(limit, n int) api.Stand {
	return stand(limit, used(n, 0), many(n, 1)...)
}

func same(a, b api.Stand) bool {
	return a.Cap == b.Cap && slices.Equal(a.Used, b.Used) && slices.Equal(a.Advices, b.Advices)
}

// wrongAdvices are none of a stand of two cards.
func wrongAdvices() []struct {
	name string
	a    api.Advice
} {
	return []struct {
		name string
		a    api.Advice
	}{
		{"card -1", of(-1, 3, 1, 5)},
		{"one card too far", of(2, 3, 1, 5)},
		{"a card that only another stand may have", of(api.MaxCards-1, 3, 1, 5)},
		{"the least number as card", of(math.MinInt, 3, 1, 5)},
		{"the greatest number as card", of(math.MaxInt, 3, 1, 5)},
		{"shop -1", of(0, -1, 1, 5)},
		{"one shop too far", of(0, api.MaxShops, 1, 5)},
		{"the least number as shop", of(0, math.MinInt, 1, 5)},
		{"the greatest number as shop", of(0, math.MaxInt, 1, 5)},
		{"nothing", of(0, 3, 0, 5)},
		{"less than nothing", of(0, 3, -1, 5)},
		{"too much", of(0, 3, api.MaxSum+1, 5)},
		{"the least number as sum", of(0, 3, math.MinInt, 5)},
		{"the greatest number as sum", of(0, 3, math.MaxInt, 5)},
		{"ahead of time 0", of(0, 3, 1, -1)},
		{"behind the last time", of(0, 3, 1, api.MaxTime+1)},
		{"at the least number", of(0, 3, 1, math.MinInt)},
		{"at the greatest number", of(0, 3, 1, math.MaxInt)},
	}
}

type wrongStand struct {
	name string
	s    api.Stand
	want api.Errno
}

// wrongStands are stands that are wrong, and what is wrong with them.
func wrongStands() []wrongStand {
	out := []wrongStand{
		{"too many cards", stand(100, make([]int, 9)), api.ErrMany},
		{"too many advices", gave(100, 21), api.ErrMany},
		{"too many cards ahead of the limit", stand(-1, make([]int, 9)), api.ErrMany},
		{"too many advices ahead of the limit", gave(api.MaxSum+1, 21), api.ErrMany},
		{"too many advices ahead of their range", stand(100, used(0), many(21, 0)...), api.ErrMany},
		{"too many cards ahead of what they were given", stand(100, used(1, 2, 3, 4, 5, 6, 7, 8, 9)), api.ErrMany},
		{"too many advices ahead of what the cards were given", stand(20, used(0), many(21, 1)...), api.ErrMany},

		{"a limit below 0", stand(-1, used(0, 0)), api.ErrRange},
		{"a limit below 0, no card", stand(-1, nil), api.ErrRange},
		{"too great a limit", stand(api.MaxSum+1, used(0, 0)), api.ErrRange},
		{"the least number as limit", stand(math.MinInt, used(0, 0)), api.ErrRange},
		{"the greatest number as limit", stand(math.MaxInt, used(0, 0)), api.ErrRange},
		{"limit ahead of what the cards were given", stand(-1, used(1)), api.ErrRange},
		{"an advice of no card at all", stand(100, nil, of(0, 3, 1, 5)), api.ErrRange},
		{"advices' range ahead of what the cards were given", stand(100, used(7, 0), of(0, 8, 7, 5)), api.ErrRange},
		{"a later advice's range ahead of the first one's card", stand(100, used(0, 0), of(0, 3, 7, 5), of(0, 3, 0, 5)), api.ErrRange},
		{"advices' range ahead of more than the limit", stand(6, used(7, 0), of(0, 3, 7, 5), of(2, 3, 1, 5)), api.ErrRange},

		{"one less than the advices have", stand(100, used(69, 0), of(0, 1, 70, 5)), api.ErrFit},
		{"one more than the advices have", stand(100, used(71, 0), of(0, 1, 70, 5)), api.ErrFit},
		{"given by none", stand(100, used(0, 1)), api.ErrFit},
		{"less than nothing given", stand(100, used(0, -1)), api.ErrFit},
		{"the least number given", stand(100, used(math.MinInt, 0)), api.ErrFit},
		{"the greatest number given", stand(100, used(0, math.MaxInt)), api.ErrFit},
		{"another card's", stand(100, used(0, 70), of(0, 1, 70, 5)), api.ErrFit},
		{"one of two advices alone", stand(100, used(40, 0), of(0, 1, 40, 5), of(0, 1, 30, 5)), api.ErrFit},
		{"the cards' sums the wrong way round", stand(100, used(40, 30), of(0, 1, 30, 5), of(1, 1, 40, 5)), api.ErrFit},
		{"one more than the limit", stand(69, used(70, 0), of(0, 1, 70, 5)), api.ErrFit},
		{"one more than the limit together", stand(69, used(70, 0), of(0, 1, 40, 5), of(0, 7, 30, 9)), api.ErrFit},
		{"the last card more than the limit", stand(69, used(1, 70), of(0, 1, 1, 5), of(1, 1, 70, 5)), api.ErrFit},
		{"more than a limit of nothing", stand(0, used(1), of(0, 1, 1, 5)), api.ErrFit},
		{"far more than the limit", stand(api.MaxSum, used(20*api.MaxSum), many(20, api.MaxSum)...), api.ErrFit},
	}
	for _, x := range wrongAdvices() {
		out = append(out, wrongStand{"an advice: " + x.name, stand(100, used(0, 0), x.a), api.ErrRange})
		out = append(out, wrongStand{"the last of two advices: " + x.name, stand(100, used(1, 0), of(0, 3, 1, 5), x.a), api.ErrRange})
	}
	return out
}

func TestNew(t *testing.T) {
	for _, limit := range []int{0, 1, 100, api.MaxSum - 1, api.MaxSum} {
		for cards := range api.MaxCards + 1 {
			got, err := New(limit, cards)
			want := stand(limit, make([]int, cards))
			if !same(got, want) || err != api.OK || Wrong(got) != api.OK {
				t.Errorf("%d, %d cards: %v %d comes, not %v", limit, cards, got, err, want)
			}
		}
	}
	tests := []struct {
		name         string
		limit, cards int
		want         api.Errno
	}{
		{"less than no card", 100, -1, api.ErrMany},
		{"too many cards", 100, 9, api.ErrMany},
		{"the least number of cards", 100, math.MinInt, api.ErrMany},
		{"the greatest number of cards", 100, math.MaxInt, api.ErrMany},
		{"a limit below 0", -1, 2, api.ErrRange},
		{"a limit below 0, no card", -1, 0, api.ErrRange},
		{"too great a limit", api.MaxSum + 1, 2, api.ErrRange},
		{"too great a limit, as many cards as may be", api.MaxSum + 1, 8, api.ErrRange},
		{"the least number as limit", math.MinInt, 2, api.ErrRange},
		{"the greatest number as limit", math.MaxInt, 2, api.ErrRange},
		{"cards ahead of a limit below 0", -1, 9, api.ErrMany},
		{"cards ahead of too great a limit", api.MaxSum + 1, -1, api.ErrMany},
	}
	for _, x := range tests {
		got, err := New(x.limit, x.cards)
		if !same(got, api.Stand{}) || err != x.want {
			t.Errorf("%s: %v %d comes, not nothing and %d", x.name, got, err, x.want)
		}
	}
}

func TestWrong(t *testing.T) {
	for _, x := range wrongStands() {
		if got := Wrong(x.s); got != x.want {
			t.Errorf("%s: %d comes, not %d", x.name, got, x.want)
		}
	}
	right := []struct {
		name string
		s    api.Stand
	}{
		{"nothing", api.Stand{}},
		{"nothing, of empty lists", api.Stand{Used: []int{}, Advices: []api.Advice{}}},
		{"nothing given", stand(100, used(0, 0))},
		{"some given", stand(100, used(70, 0), of(0, 1, 40, 5), of(0, 7, 30, 9))},
		{"given in no turn of cards or times", stand(100, used(70, 5), of(0, 7, 30, 9), of(1, 0, 5, 2), of(0, 1, 40, 0))},
		{"all that may be given", stand(70, used(70, 70), of(1, 1, 70, 5), of(0, 1, 70, 5))},
		{"the least", stand(1, used(1), of(0, 0, 1, 0))},
		{"the most", stand(api.MaxSum, append(make([]int, 7), api.MaxSum), of(7, 7, api.MaxSum, api.MaxTime))},
		{"as many advices as may be", gave(20, 20)},
		{"more cards than were given something", stand(100, make([]int, 8))},
	}
	for _, x := range right {
		if got := Wrong(x.s); got != api.OK {
			t.Errorf("%s: %d comes", x.name, got)
		}
	}
}

// TestWrongStands: a wrong stand is told ahead of all else, and nothing comes beside that.
func TestWrongStands(t *testing.T) {
	for _, x := range wrongStands() {
		for _, a := range []api.Advice{of(0, 3, 1, 5), of(0, 3, api.MaxSum, 5), of(-1, 8, 0, -1), {}} {
			got, err := Give(x.s, a)
			if !same(got, api.Stand{}) || err != x.want {
				t.Errorf("Give of %v, %s: %v %d comes, not nothing and %d", a, x.name, got, err, x.want)
			}
		}
		got, l, err := Clear(x.s)
		if !same(got, api.Stand{}) || len(l) > 0 || err != x.want {
			t.Errorf("Clear, %s: %v %v %d comes, not nothing and %d", x.name, got, l, err, x.want)
		}
	}
}

func TestGive(t *testing.T) {
	s := stand(100, used(70, 0), of(0, 1, 40, 5), of(0, 7, 30, 9))
	tests := []struct {
		name string
		s    api.Stand
		a    api.Advice
		want api.Stand
	}{
		{"the first one", stand(100, used(0, 0)), of(1, 2, 60, 5), stand(100, used(0, 60), of(1, 2, 60, 5))},
		{"the first one, of an empty list", api.Stand{Cap: 100, Used: used(0), Advices: []api.Advice{}}, of(0, 2, 60, 5), stand(100, used(60), of(0, 2, 60, 5))},
		{"behind others", s, of(0, 0, 1, 10), stand(100, used(71, 0), of(0, 1, 40, 5), of(0, 7, 30, 9), of(0, 0, 1, 10))},
		{"all that is left", s, of(0, 0, 30, 10), stand(100, used(100, 0), of(0, 1, 40, 5), of(0, 7, 30, 9), of(0, 0, 30, 10))},
		{"all of another card's", s, of(1, 0, 100, 10), stand(100, used(70, 100), of(0, 1, 40, 5), of(0, 7, 30, 9), of(1, 0, 100, 10))},
		{"earlier than the last one", s, of(0, 0, 1, 0), stand(100, used(71, 0), of(0, 1, 40, 5), of(0, 7, 30, 9), of(0, 0, 1, 0))},
		{"one like the one ahead", stand(100, used(40), of(0, 1, 40, 5)), of(0, 1, 40, 5), stand(100, used(80), of(0, 1, 40, 5), of(0, 1, 40, 5))},
		{"the least", stand(1, used(0)), of(0, 0, 1, 0), stand(1, used(1), of(0, 0, 1, 0))},
		{"the most", stand(api.MaxSum, make([]int, 8)), of(7, 7, api.MaxSum, api.MaxTime), stand(api.MaxSum, append(make([]int, 7), api.MaxSum), of(7, 7, api.MaxSum, api.MaxTime))},
		{"the twentieth", gave(20, 19), of(0, 3, 1, 5), gave(20, 20)},
	}
	for _, x := range tests {
		got, err := Give(x.s, x.a)
		if !same(got, x.want) || err != api.OK {
			t.Errorf("%s: %v %d comes, not %v", x.name, got, err, x.want)
		}
	}
}

func TestGiveErrors(t *testing.T) {
	s := stand(100, used(70, 0), of(0, 1, 40, 5), of(0, 7, 30, 9))
	tests := []struct {
		name string
		s    api.Stand
		a    api.Advice
		want api.Errno
	}{
		{"one more than may be", gave(100, 20), of(0, 3, 1, 5), api.ErrMany},
		{"one more than may be, for another card", gave(100, 20), of(1, 3, 1, 5), api.ErrMany},
		{"many ahead of funds", gave(20, 20), of(0, 3, 1, 5), api.ErrMany},
		{"one of no card at all", stand(100, nil), of(0, 3, 1, 5), api.ErrRange},
		{"range ahead of funds", s, of(0, 8, 31, 5), api.ErrRange},
		{"sum's range ahead of funds", s, of(0, 3, api.MaxSum+1, 5), api.ErrRange},
		{"time's range ahead of funds", s, of(0, 3, 31, -1), api.ErrRange},
		{"one more than is left", s, of(0, 3, 31, 10), api.ErrFunds},
		{"one more than the limit", s, of(1, 3, 101, 10), api.ErrFunds},
		{"one of nothing left", stand(70, used(70, 0), of(0, 1, 70, 5)), of(0, 3, 1, 10), api.ErrFunds},
		{"one of a limit of nothing", stand(0, used(0)), of(0, 3, 1, 5), api.ErrFunds},
		{"the most, one of it more than is left", stand(api.MaxSum, used(1), of(0, 3, 1, 5)), of(0, 3, api.MaxSum, 5), api.ErrFunds},
	}
	for _, x := range tests {
		got, err := Give(x.s, x.a)
		if !same(got, api.Stand{}) || err != x.want {
			t.Errorf("%s: %v %d comes, not nothing and %d", x.name, got, err, x.want)
		}
	}
	for _, x := range wrongAdvices() {
		got, err := Give(s, x.a)
		if !same(got, api.Stand{}) || err != api.ErrRange {
			t.Errorf("%s: %v %d comes, not nothing and %d", x.name, got, err, api.ErrRange)
		}
		got, err = Give(gave(100, 20), x.a)
		if !same(got, api.Stand{}) || err != api.ErrMany {
			t.Errorf("%s, of a stand with no room: %v %d comes, not nothing and %d", x.name, got, err, api.ErrMany)
		}
	}
}

func TestClear(t *testing.T) {
	tests := []struct {
		name string
		s    api.Stand
		want api.Stand
	}{
		{"nothing", api.Stand{}, api.Stand{}},
		{"nothing, of empty lists", api.Stand{Used: []int{}, Advices: []api.Advice{}}, api.Stand{}},
		{"nothing given", stand(100, used(0, 0)), stand(100, used(0, 0))},
		{"some given", stand(100, used(70, 0), of(0, 1, 40, 5), of(0, 7, 30, 9)), stand(100, used(0, 0))},
		{"some given, in no turn", stand(100, used(70, 5), of(0, 7, 30, 9), of(1, 0, 5, 2), of(0, 1, 40, 0)), stand(100, used(0, 0))},
		{"the most", stand(api.MaxSum, append(make([]int, 7), api.MaxSum), of(7, 7, api.MaxSum, api.MaxTime)), stand(api.MaxSum, make([]int, 8))},
		{"as many advices as may be", gave(20, 20), stand(20, used(0, 0))},
	}
	for _, x := range tests {
		got, l, err := Clear(x.s)
		if !same(got, x.want) || !slices.Equal(l, x.s.Advices) || err != api.OK {
			t.Errorf("%s: %v %v %d comes, not %v %v", x.name, got, l, err, x.want, x.s.Advices)
		}
	}
}

// TestGiveInTurn: whatever is asked for, no card is given more than the limit, and all that was given is told in the end, once.
func TestGiveInTurn(t *testing.T) {
	for seed := range 200 {
		state := seed
		chance := func(n int) int {
			state = (state*1103515245 + 12345) % (1 << 31)
			return state / 65536 % n
		}
		limit, cards := chance(200), 1+chance(api.MaxCards)
		s, err := New(limit, cards)
		if err != api.OK {
			t.Fatalf("seed %d: %d comes of New", seed, err)
		}
		var all []api.Advice
		sums := make([]int, cards)
		for k := range 120 {
			a := of(chance(cards), chance(api.MaxShops), 1+chance(60), k)
			told := fmt.Sprintf("seed %d: %v, %v", seed, s, a)
			next, err := Give(s, a)
			fits := len(all) < api.MaxAdvices && sums[a.Card]+a.Sum <= limit
			if fits != (err == api.OK) {
				t.Fatalf("%s: %d comes", told, err)
			}
			if fits {
				s, all = next, append(all, a)
				sums[a.Card] += a.Sum
			}
			if !same(s, stand(limit, sums, all...)) || Wrong(s) != api.OK {
				t.Fatalf("%s: %v comes", told, s)
			}
			if chance(30) > 0 {
				continue
			}
			cleared, l, err := Clear(s)
			if !slices.Equal(l, all) || err != api.OK {
				t.Fatalf("%s: %v %d comes of Clear, not %v", told, l, err, all)
			}
			s, all, sums = cleared, nil, make([]int, cards)
		}
	}
}

// TestMemory: what is handed in stays as it is, spare room too, and what comes shares none of it.
func TestMemory(t *testing.T) {
	sums := used(3, 0, -9, 9)
	room := append(many(3, 1), of(-9, -9, -9, -9), of(9, 9, 9, 9))
	sumsBefore, roomBefore := slices.Clone(sums), slices.Clone(room)
	s := api.Stand{Cap: 100, Used: sums[:2], Advices: room[:3]}
	check := func(name string) {
		t.Helper()
		if !slices.Equal(sums, sumsBefore) || !slices.Equal(room, roomBefore) {
			t.Fatalf("%s: %v %v comes of what was handed in", name, sums, room)
		}
	}
	for _, a := range []api.Advice{of(0, 1, 40, 5), of(1, 7, 100, 0)} {
		got, err := Give(s, a)
		want, _ := Give(gave(100, 3), a)
		if !same(got, want) || err != api.OK {
			t.Errorf("Give of %v: %v %d comes, where there is spare room, not %v", a, got, err, want)
		}
		spoil(got.Used, got.Advices)
		check("Give")
	}
	got, l, err := Clear(s)
	if !same(got, stand(100, used(0, 0))) || !slices.Equal(l, many(3, 1)) || err != api.OK {
		t.Errorf("Clear: %v %v %d comes, where there is spare room", got, l, err)
	}
	spoil(got.Used, l)
	check("Clear")
	if err := Wrong(s); err != api.OK {
		t.Errorf("Wrong: %d comes, where there is spare room", err)
	}
	check("Wrong")
	one, _ := New(100, 2)
	spoil(one.Used, one.Advices)
	if two, _ := New(100, 2); !same(two, stand(100, used(0, 0))) {
		t.Errorf("New: %v comes, once another one was changed", two)
	}
}

// spoil writes all over what came, as who asked for it may.
func spoil(sums []int, l []api.Advice) {
	for i := range sums[:cap(sums)] {
		sums[:cap(sums)][i] = 77
	}
	for i := range l[:cap(l)] {
		l[:cap(l)][i] = of(77, 77, 77, 77)
	}
}
