package auth

import (
	"fmt"
	"math"
	"testing"

	"paystone/api"
)

const (
	most     = api.MaxSum
	lastTill = api.MaxTime + api.Lasts
)

// good is a right permission: 40 are held, 30 may be given back, 10 are disputed.
func good() api.Auth {
	return api.Auth{Card: 1, Shop: 2, Sum: 100, Captured: 60, Refunded: 20, Disputed: 10, Till: 150}
}

// with is the good permission, changed.
func with(change func(a *api.Auth)) api.Auth {
	a := good()
	change(&a)
	return a
}

// of is the good permission with other sums.
func of(sum, captured, refunded, disputed int) api.Auth {
	return with(func(a *api.Auth) {
		a.Sum, a.Captured, a.Refunded, a.Disputed = sum, captured, refunded, disputed
	})
}

// shut is the permission, over.
func shut(a api.Auth) api.Auth {
	a.Shut = true
	return a
}

func TestWrong(t *testing.T) {
	tests := []struct {
		name string
		a    api.Auth
		want api.Errno
	}{
		{"good", good(), api.OK},
		{"shut", shut(good()), api.OK},
		{"all zero", api.Auth{}, api.OK},
		{"all captured", of(100, 100, 0, 0), api.OK},
		{"all captured, not shut, all given back", of(100, 100, 60, 40), api.OK},
		{"the largest sums", of(most, most, most, 0), api.OK},
		{"the largest dispute", of(most, most, 0, most), api.OK},
		{"captured more than the sum", of(100, 101, 0, 0), api.ErrFit},
		{"refunded more than captured", of(100, 60, 61, 0), api.ErrFit},
		{"disputed more than captured", of(100, 60, 0, 61), api.ErrFit},
		{"refunded and disputed more than captured", of(100, 60, 30, 31), api.ErrFit},
		{"refunded and disputed as much as captured", of(100, 60, 30, 30), api.OK},
		{"both the largest", of(most, most, most, most), api.ErrFit},
		{"range ahead of fit", of(most+1, 60, 61, 0), api.ErrRange},
		{"a bad till ahead of fit", with(func(a *api.Auth) { a.Captured, a.Till = 101, -1 }), api.ErrRange},
	}
	for _, x := range tests {
		if got := Wrong(x.a); got != x.want {
			t.Errorf("%s: %d comes, not %d", x.name, got, x.want)
		}
	}
}

func TestWrongRanges(t *testing.T) {
	fields := []struct {
		name   string
		last   int
		change func(a *api.Auth, n int)
	}{
		{"Sum", most, func(a *api.Auth, n int) { *a = of(n, 0, 0, 0) }},
		{"Captured", most, func(a *api.Auth, n int) { *a = of(most, n, 0, 0) }},
		{"Refunded", most, func(a *api.Auth, n int) { *a = of(most, most, n, 0) }},
		{"Disputed", most, func(a *api.Auth, n int) { *a = of(most, most, 0, n) }},
		{"Card", api.MaxCards - 1, func(a *api.Auth, n int) { a.Card = n }},
		{"Shop", api.MaxShops - 1, func(a *api.Auth, n int) { a.Shop = n }},
		{"Till", lastTill, func(a *api.Auth, n int) { a.Till = n }},
	}
	for _, f := range fields {
		for _, n := range []int{math.MinInt, -1, 0, 1, f.last - 1, f.last, f.last + 1, math.MaxInt} {
			want := api.ErrRange
			if n >= 0 && n <= f.last {
				want = api.OK
			}
			if got := Wrong(with(func(a *api.Auth) { f.change(a, n) })); got != want {
				t.Errorf("%s %d: %d comes, not %d", f.name, n, got, want)
			}
		}
	}
}

func TestNew(t *testing.T) {
	tests := []struct {
		card, shop, sum, time int
		want                  api.Auth
		err                   api.Errno
	}{
		{1, 2, 100, 50, api.Auth{Card: 1, Shop: 2, Sum: 100, Till: 150}, api.OK},
		{0, 0, 1, 0, api.Auth{Sum: 1, Till: 100}, api.OK},
		{7, 7, most, api.MaxTime, api.Auth{Card: 7, Shop: 7, Sum: most, Till: lastTill}, api.OK},
		{1, 2, 0, 50, api.Auth{}, api.ErrRange},
		{1, 2, -1, 50, api.Auth{}, api.ErrRange},
		{1, 2, most + 1, 50, api.Auth{}, api.ErrRange},
		{1, 2, math.MinInt, 50, api.Auth{}, api.ErrRange},
		{1, 2, 100, -1, api.Auth{}, api.ErrRange},
		{1, 2, 100, api.MaxTime + 1, api.Auth{}, api.ErrRange},
		{1, 2, 100, math.MaxInt, api.Auth{}, api.ErrRange},
		{-1, 2, 100, 50, api.Auth{}, api.ErrRange},
		{8, 2, 100, 50, api.Auth{}, api.ErrRange},
		{1, -1, 100, 50, api.Auth{}, api.ErrRange},
		{1, 8, 100, 50, api.Auth{}, api.ErrRange},
	}
	for _, x := range tests {
		got, err := New(x.card, x.shop, x.sum, x.time)
		if got != x.want || err != x.err {
			t.Errorf("New(%d, %d, %d, %d): %v %d comes, not %v %d", x.card, x.shop, x.sum, x.time, got, err, x.want, x.err)
		}
		if err == api.OK && Wrong(got) != api.OK {
			t.Errorf("New(%d, %d, %d, %d) is wrong: %d", x.card, x.shop, x.sum, x.time, Wrong(got))
		}
	}
}

func TestHold(t *testing.T) {
	tests := []struct {
		name string
		a    api.Auth
		want int
	}{
		{"of 100, 60 taken", good(), 40},
		{"shut", shut(good()), 0},
		{"nothing taken", of(most, 0, 0, 0), most},
		{"nothing taken, shut", shut(of(most, 0, 0, 0)), 0},
		{"all taken", of(100, 100, 0, 0), 0},
		{"what was given back is not held again", of(100, 60, 60, 0), 40},
		{"all zero", api.Auth{}, 0},
	}
	for _, x := range tests {
		if got := Hold(x.a); got != x.want {
			t.Errorf("%s: %d comes, not %d", x.name, got, x.want)
		}
	}
}

func TestLate(t *testing.T) {
	tests := []struct {
		name string
		a    api.Auth
		time int
		want api.Auth
	}{
		{"ahead of Till", good(), 149, good()},
		{"at Till", good(), 150, shut(good())},
		{"behind Till", good(), 151, shut(good())},
		{"far behind", good(), math.MaxInt, shut(good())},
		{"far ahead", good(), math.MinInt, good()},
		{"shut stays shut", shut(good()), 0, shut(good())},
		{"shut, and late", shut(good()), 150, shut(good())},
		{"all zero", api.Auth{}, 0, api.Auth{Shut: true}},
		{"a wrong one", of(1, 2, 3, 4), 150, shut(of(1, 2, 3, 4))},
		{"a wrong one, in time", of(1, 2, 3, 4), 149, of(1, 2, 3, 4)},
	}
	for _, x := range tests {
		if got := Late(x.a, x.time); got != x.want {
			t.Errorf("%s: %v comes, not %v", x.name, got, x.want)
		}
	}
}

func TestMove(t *testing.T) {
	tests := []struct {
		name    string
		a       api.Auth
		kind, n int
		want    api.Auth
	}{
		{"one more", good(), api.MoreSum, 1, of(101, 60, 20, 10)},
		{"as much more as may be", good(), api.MoreSum, most - 100, of(most, 60, 20, 10)},
		{"more, where all is captured", of(60, 60, 0, 0), api.MoreSum, 5, of(65, 60, 0, 0)},
		{"one captured", good(), api.Capture, 1, of(100, 61, 20, 10)},
		{"all but one captured", good(), api.Capture, 39, of(100, 99, 20, 10)},
		{"all captured", good(), api.Capture, 40, shut(of(100, 100, 20, 10))},
		{"one captured, the last", good(), api.Last, 1, shut(of(100, 61, 20, 10))},
		{"all captured, the last", good(), api.Last, 40, shut(of(100, 100, 20, 10))},
		{"one reversed", good(), api.Reverse, 1, of(99, 60, 20, 10)},
		{"all but one reversed", good(), api.Reverse, 39, of(61, 60, 20, 10)},
		{"all reversed", good(), api.Reverse, 40, shut(of(60, 60, 20, 10))},
		{"all reversed, nothing captured", of(most, 0, 0, 0), api.Reverse, most, shut(of(0, 0, 0, 0))},
		{"one refunded", good(), api.Refund, 1, of(100, 60, 21, 10)},
		{"all refunded", good(), api.Refund, 30, of(100, 60, 50, 10)},
		{"one disputed", good(), api.Dispute, 1, of(100, 60, 20, 11)},
		{"all disputed", good(), api.Dispute, 30, of(100, 60, 20, 40)},
		{"one for the card", good(), api.ForCard, 1, of(100, 60, 21, 9)},
		{"all for the card", good(), api.ForCard, 10, of(100, 60, 30, 0)},
		{"one for the shop", good(), api.ForShop, 1, of(100, 60, 20, 9)},
		{"all for the shop", good(), api.ForShop, 10, of(100, 60, 20, 0)},
		{"refunded when all is captured, and not shut", of(60, 60, 0, 0), api.Refund, 60, of(60, 60, 60, 0)},
	}
	for _, x := range tests {
		got, err := Move(x.a, x.kind, x.n)
		if got != x.want || err != api.OK {
			t.Errorf("%s: %v %d comes, not %v", x.name, got, err, x.want)
		}
	}
}

func TestMoveShut(t *testing.T) {
	for kind := api.MoreSum; kind <= api.ForShop; kind++ {
		open, _ := Move(good(), kind, 5)
		want, wantErr := shut(open), api.OK
		if kind <= api.Reverse {
			want, wantErr = api.Auth{}, api.ErrShut
		}
		got, err := Move(shut(good()), kind, 5)
		if got != want || err != wantErr {
			t.Errorf("kind %d: %v %d comes, not %v %d", kind, got, err, want, wantErr)
		}
	}
}

func TestMoveErrors(t *testing.T) {
	tests := []struct {
		name    string
		a       api.Auth
		kind, n int
		want    api.Errno
	}{
		{"a wrong range ahead of all", of(most+1, 0, 0, 0), 0, 0, api.ErrRange},
		{"a wrong fit ahead of all", shut(of(100, 101, 0, 0)), 0, 0, api.ErrFit},
		{"a wrong fit ahead of n's range", of(100, 101, 0, 0), api.Capture, 0, api.ErrFit},
		{"no kind", good(), 0, 1, api.ErrKind},
		{"no kind either", good(), 9, 1, api.ErrKind},
		{"less than any kind", good(), -1, 1, api.ErrKind},
		{"the least number", good(), math.MinInt, 1, api.ErrKind},
		{"the greatest number", good(), math.MaxInt, 1, api.ErrKind},
		{"kind ahead of n's range", good(), 9, 0, api.ErrKind},
		{"kind ahead of shut", shut(good()), 9, 1, api.ErrKind},
		{"n's range ahead of shut", shut(good()), api.Capture, 0, api.ErrRange},
		{"n's range ahead of too much", good(), api.MoreSum, most + 1, api.ErrRange},
		{"shut ahead of too much", shut(good()), api.MoreSum, most, api.ErrShut},
		{"shut ahead of funds: Capture", shut(good()), api.Capture, 41, api.ErrShut},
		{"shut ahead of funds: Last", shut(good()), api.Last, 41, api.ErrShut},
		{"shut ahead of funds: Reverse", shut(good()), api.Reverse, 41, api.ErrShut},
		{"one more than may be", good(), api.MoreSum, most - 99, api.ErrMuch},
		{"more than the most", of(most, 0, 0, 0), api.MoreSum, 1, api.ErrMuch},
		{"captured one too many", good(), api.Capture, 41, api.ErrFunds},
		{"captured one too many, the last", good(), api.Last, 41, api.ErrFunds},
		{"reversed one too many", good(), api.Reverse, 41, api.ErrFunds},
		{"captured, where nothing is left", of(100, 100, 0, 0), api.Capture, 1, api.ErrFunds},
		{"refunded one too many", good(), api.Refund, 31, api.ErrFunds},
		{"refunded one too many, shut", shut(good()), api.Refund, 31, api.ErrFunds},
		{"disputed one too many", good(), api.Dispute, 31, api.ErrFunds},
		{"one too many for the card", good(), api.ForCard, 11, api.ErrFunds},
		{"one too many for the shop", good(), api.ForShop, 11, api.ErrFunds},
		{"nothing is disputed", of(100, 60, 20, 0), api.ForShop, 1, api.ErrFunds},
	}
	for _, x := range tests {
		got, err := Move(x.a, x.kind, x.n)
		if got != (api.Auth{}) || err != x.want {
			t.Errorf("%s: %v %d comes, not nothing and %d", x.name, got, err, x.want)
		}
	}
}

func TestMoveRanges(t *testing.T) {
	for kind := api.MoreSum; kind <= api.ForShop; kind++ {
		for _, n := range []int{math.MinInt, -1, 0, most + 1, math.MaxInt} {
			got, err := Move(good(), kind, n)
			if got != (api.Auth{}) || err != api.ErrRange {
				t.Errorf("kind %d of %d: %v %d comes, not nothing and %d", kind, n, got, err, api.ErrRange)
			}
		}
	}
}

// small calls do with every right permission of sums up to 4, and some that are wrong.
func small(do func(a api.Auth)) {
	for i := range 5 * 5 * 5 * 5 * 2 {
		a := of(i/2%5, i/10%5, i/50%5, i/250%5)
		a.Shut = i%2 == 1
		do(a)
	}
}

func TestMoveKeepsRight(t *testing.T) {
	small(func(a api.Auth) {
		for kind := range 10 {
			for n := range 6 {
				b, err := Move(a, kind, n)
				told := fmt.Sprintf("%v by kind %d of %d: %v %d", a, kind, n, b, err)
				switch {
				case err != api.OK && b != (api.Auth{}):
					t.Errorf("%s: something beside an error", told)
				case err == api.OK && Wrong(b) != api.OK:
					t.Errorf("%s: what comes is wrong", told)
				case err == api.OK && a.Shut && !b.Shut:
					t.Errorf("%s: over is over", told)
				case err == api.OK && (b.Card != a.Card || b.Shop != a.Shop || b.Till != a.Till):
					t.Errorf("%s: more than sums changed", told)
				}
			}
		}
	})
}

func TestInPartsAsAtOnce(t *testing.T) {
	small(func(a api.Auth) {
		for _, kind := range []int{api.MoreSum, api.Capture, api.Reverse, api.Refund, api.Dispute, api.ForCard, api.ForShop} {
			once, err := Move(a, kind, 2)
			if err != api.OK {
				continue
			}
			half, err := Move(a, kind, 1)
			if err != api.OK {
				t.Errorf("%v by kind %d: 2, but not 1: %d", a, kind, err)
				continue
			}
			if parts, err := Move(half, kind, 1); parts != once || err != api.OK {
				t.Errorf("%v by kind %d: %v %d comes in parts, %v at once", a, kind, parts, err, once)
			}
		}
	})
}

func TestMoveTellsWrong(t *testing.T) {
	small(func(a api.Auth) {
		if err := Wrong(a); err != api.OK {
			for kind := range 10 {
				if b, got := Move(a, kind, 1); got != err || b != (api.Auth{}) {
					t.Errorf("%v by kind %d: %v %d comes, not %d", a, kind, b, got, err)
				}
			}
		}
	})
}
