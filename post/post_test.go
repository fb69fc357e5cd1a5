package post

import (
	"fmt"
	"math"
	"slices"
	"testing"

	"paystone/api"
)

// of is a transfer.
func of(number, kind, auth, sum int) api.Transfer {
	return api.Transfer{Number: number, Kind: kind, Auth: auth, Sum: sum}
}

// sender has sent so many, and keeps these.
func sender(sent int, l ...api.Transfer) api.Sender {
	return api.Sender{Sent: sent, Kept: l}
}

// run is transfers with the numbers from first to last.
func run(first, last int) []api.Transfer {
	var out []api.Transfer
	for n := first; n <= last; n++ {
		out = append(out, of(n, 1+n%3, n%api.MaxAuths, n))
	}
	return out
}

// keeps is a right sender that keeps the last n of those that it sent.
func keeps(sent, n int) api.Sender {
	return sender(sent, run(sent-n+1, sent)...)
}

func same(a, b api.Sender) bool {
	return a.Sent == b.Sent && slices.Equal(a.Kept, b.Kept)
}

// wrongSenders are senders that are wrong, and what is wrong with them.
func wrongSenders() []struct {
	name string
	s    api.Sender
	want api.Fault
} {
	type fault = api.Fault
	return []struct {
		name string
		s    api.Sender
		want fault
	}{
		{"one too many", keeps(50, 41), fault{Err: api.ErrMany}},
		{"many more", keeps(500, 400), fault{Err: api.ErrMany}},
		{"too many ahead of too few sent", sender(3, run(1, 41)...), fault{Err: api.ErrMany}},
		{"too many ahead of too many sent", keeps(api.MaxTime+1, 41), fault{Err: api.ErrMany}},
		{"too many ahead of a kind", sender(41, make([]api.Transfer, 41)...), fault{Err: api.ErrMany}},
		{"less than none sent", sender(-1), fault{Err: api.ErrRange}},
		{"the least number sent", sender(math.MinInt), fault{Err: api.ErrRange}},
		{"one more kept than sent", sender(1, run(0, 1)...), fault{Err: api.ErrRange}},
		{"kept, and none sent", sender(0, of(0, 1, 0, 5)), fault{Err: api.ErrRange}},
		{"39 sent, 40 kept", sender(39, run(1, 40)...), fault{Err: api.ErrRange}},
		{"too many sent", sender(api.MaxTime + 1), fault{Err: api.ErrRange}},
		{"too many sent, the last ones kept", keeps(api.MaxTime+1, 2), fault{Err: api.ErrRange}},
		{"the greatest number sent", sender(math.MaxInt), fault{Err: api.ErrRange}},
		{"too few sent ahead of a kind", sender(0, of(0, 0, 0, 5)), fault{Err: api.ErrRange}},
		{"too many sent ahead of a kind", sender(api.MaxTime+1, of(api.MaxTime+1, 4, 0, 5)), fault{Err: api.ErrRange}},

		{"kind 0", sender(3, of(3, 0, 0, 5)), fault{Err: api.ErrKind}},
		{"kind 4", sender(3, of(3, 4, 0, 5)), fault{Err: api.ErrKind}},
		{"a kind below 0", sender(3, of(3, -1, 0, 5)), fault{Err: api.ErrKind}},
		{"the greatest number as kind", sender(3, of(2, 1, 0, 5), of(3, math.MaxInt, 0, 5)), fault{Err: api.ErrKind, At: 1}},
		{"permission -1", sender(3, of(3, 1, -1, 5)), fault{Err: api.ErrRange}},
		{"one permission too far", sender(3, of(2, 1, 29, 5), of(3, 1, 30, 5)), fault{Err: api.ErrRange, At: 1}},
		{"the least number as permission", sender(3, of(3, 1, math.MinInt, 5)), fault{Err: api.ErrRange}},
		{"the greatest number as permission", sender(3, of(3, 1, math.MaxInt, 5)), fault{Err: api.ErrRange}},
		{"nothing sent", sender(3, of(3, 1, 0, 0)), fault{Err: api.ErrRange}},
		{"less than nothing sent", sender(3, of(3, 1, 0, -1)), fault{Err: api.ErrRange}},
		{"one too much sent", sender(3, of(1, 1, 0, 5), of(2, 1, 0, 5), of(3, 1, 0, api.MaxSum+1)), fault{Err: api.ErrRange, At: 2}},
		{"the least number as sum", sender(3, of(3, 1, 0, math.MinInt)), fault{Err: api.ErrRange}},
		{"the greatest number as sum", sender(3, of(3, 1, 0, math.MaxInt)), fault{Err: api.ErrRange}},

		{"the last one's number too small", sender(3, of(2, 1, 0, 5)), fault{Err: api.ErrForm}},
		{"the last one's number too great", sender(3, of(4, 1, 0, 5)), fault{Err: api.ErrForm}},
		{"no number", sender(3, of(0, 1, 0, 5)), fault{Err: api.ErrForm}},
		{"the least number", sender(3, of(math.MinInt, 1, 0, 5)), fault{Err: api.ErrForm}},
		{"the greatest number", sender(3, of(math.MaxInt, 1, 0, 5)), fault{Err: api.ErrForm}},
		{"a gap", sender(7, of(5, 3, 1, 1), of(7, 1, 1, 1)), fault{Err: api.ErrForm}},
		{"one twice", sender(7, of(7, 3, 1, 1), of(7, 3, 1, 1)), fault{Err: api.ErrForm}},
		{"not in turn", sender(7, of(7, 3, 1, 1), of(6, 3, 1, 1)), fault{Err: api.ErrForm}},
		{"the last one alone not in turn", sender(7, of(5, 3, 1, 1), of(6, 1, 1, 1), of(8, 1, 1, 1)), fault{Err: api.ErrForm, At: 2}},
		{"one between not in turn", sender(7, of(5, 3, 1, 1), of(5, 1, 1, 1), of(7, 1, 1, 1)), fault{Err: api.ErrForm, At: 1}},
		{"in turn, but the last one is not Sent", sender(7, run(4, 6)...), fault{Err: api.ErrForm}},
		{"the last of 40", sender(40, append(run(1, 39), of(41, 1, 1, 1))...), fault{Err: api.ErrForm, At: 39}},

		{"kind ahead of permission", sender(3, of(3, 0, 30, 5)), fault{Err: api.ErrKind}},
		{"kind ahead of sum", sender(3, of(3, 4, 0, 0)), fault{Err: api.ErrKind}},
		{"kind ahead of number", sender(3, of(2, 4, 0, 5)), fault{Err: api.ErrKind}},
		{"permission ahead of number", sender(3, of(2, 1, 30, 5)), fault{Err: api.ErrRange}},
		{"sum ahead of number", sender(3, of(2, 1, 0, 0)), fault{Err: api.ErrRange}},
		{"form at 0 ahead of kind at 1", sender(3, of(1, 1, 0, 5), of(3, 0, 0, 5)), fault{Err: api.ErrForm}},
		{"range at 0 ahead of kind at 1", sender(3, of(2, 1, 0, 0), of(3, 0, 0, 5)), fault{Err: api.ErrRange}},
		{"range at 1 ahead of form at 2", sender(3, of(1, 1, 0, 5), of(2, 1, 30, 5), of(4, 1, 0, 5)), fault{Err: api.ErrRange, At: 1}},
		{"form at 1 ahead of range at 2", sender(3, of(1, 1, 0, 5), of(4, 1, 0, 5), of(3, 1, 0, 0)), fault{Err: api.ErrForm, At: 1}},
	}
}

func TestWrong(t *testing.T) {
	for _, x := range wrongSenders() {
		if got := Wrong(x.s); got != x.want {
			t.Errorf("%s: %v comes, not %v", x.name, got, x.want)
		}
	}
	right := []struct {
		name string
		s    api.Sender
	}{
		{"nothing sent", api.Sender{}},
		{"nothing sent, an empty list", api.Sender{Kept: []api.Transfer{}}},
		{"all came", sender(5)},
		{"all came, an empty list", api.Sender{Sent: 5, Kept: []api.Transfer{}}},
		{"none came", sender(2, of(1, api.ToShop, 0, 5), of(2, api.ToCard, 3, 5))},
		{"some came", sender(7, of(6, api.FromShop, 1, 1), of(7, api.ToShop, 1, 1))},
		{"the least", sender(1, of(1, 1, 0, 1))},
		{"the most", sender(api.MaxTime, of(api.MaxTime, 3, api.MaxAuths-1, api.MaxSum))},
		{"the most sent, none kept", sender(api.MaxTime)},
		{"as many as may be, all that were sent", keeps(40, 40)},
		{"as many as may be, of many", keeps(api.MaxTime, 40)},
	}
	for _, x := range right {
		if got := Wrong(x.s); got != (api.Fault{}) {
			t.Errorf("%s: %v comes", x.name, got)
		}
	}
}

// TestWrongSenders: a wrong sender is told ahead of all else, and nothing comes beside that.
func TestWrongSenders(t *testing.T) {
	calls := []struct {
		name string
		call func(s api.Sender) (api.Sender, api.Errno)
	}{
		{"Put", func(s api.Sender) (api.Sender, api.Errno) { return Put(s, of(0, 1, 3, 50)) }},
		{"Put of no kind", func(s api.Sender) (api.Sender, api.Errno) { return Put(s, of(0, 0, 3, 50)) }},
		{"Put out of range", func(s api.Sender) (api.Sender, api.Errno) { return Put(s, of(0, 1, 3, math.MinInt)) }},
		{"Back", func(s api.Sender) (api.Sender, api.Errno) { return Back(s, 0) }},
		{"Back of all", func(s api.Sender) (api.Sender, api.Errno) { return Back(s, s.Sent) }},
		{"Back out of range", func(s api.Sender) (api.Sender, api.Errno) { return Back(s, -1) }},
	}
	for _, x := range wrongSenders() {
		for _, y := range calls {
			got, err := y.call(x.s)
			if !same(got, api.Sender{}) || err != x.want.Err {
				t.Errorf("%s, %s: %v %d comes, not nothing and %d", y.name, x.name, got, err, x.want.Err)
			}
		}
	}
}

func TestPut(t *testing.T) {
	tests := []struct {
		name string
		s    api.Sender
		t    api.Transfer
		want api.Sender
	}{
		{"the first one", api.Sender{}, of(0, 1, 3, 50), sender(1, of(1, 1, 3, 50))},
		{"the first one, of an empty list", api.Sender{Kept: []api.Transfer{}}, of(0, 1, 3, 50), sender(1, of(1, 1, 3, 50))},
		{"where all came", sender(5), of(0, 2, 3, 50), sender(6, of(6, 2, 3, 50))},
		{"behind others", sender(7, of(6, 3, 1, 1), of(7, 1, 1, 1)), of(0, 3, 29, 9), sender(8, of(6, 3, 1, 1), of(7, 1, 1, 1), of(8, 3, 29, 9))},
		{"one like the one ahead", sender(1, of(1, 1, 3, 50)), of(1, 1, 3, 50), sender(2, of(1, 1, 3, 50), of(2, 1, 3, 50))},
		{"a number that means nothing", api.Sender{}, of(99, 1, 3, 50), sender(1, of(1, 1, 3, 50))},
		{"the least number means nothing", api.Sender{}, of(math.MinInt, 1, 3, 50), sender(1, of(1, 1, 3, 50))},
		{"the greatest number means nothing", api.Sender{}, of(math.MaxInt, 1, 3, 50), sender(1, of(1, 1, 3, 50))},
		{"the least", api.Sender{}, of(0, 1, 0, 1), sender(1, of(1, 1, 0, 1))},
		{"the most", api.Sender{}, of(0, 3, 29, api.MaxSum), sender(1, of(1, 3, 29, api.MaxSum))},
		{"the fortieth kept", keeps(39, 39), of(0, 1, 3, 50), sender(40, append(run(1, 39), of(40, 1, 3, 50))...)},
		{"the last one that can be sent", sender(api.MaxTime - 1), of(0, 1, 3, 50), sender(api.MaxTime, of(api.MaxTime, 1, 3, 50))},
	}
	for _, x := range tests {
		got, err := Put(x.s, x.t)
		if !same(got, x.want) || err != api.OK {
			t.Errorf("%s: %v %d comes, not %v", x.name, got, err, x.want)
		}
	}
}

func TestPutErrors(t *testing.T) {
	tests := []struct {
		name string
		s    api.Sender
		t    api.Transfer
		want api.Errno
	}{
		{"kind 0", api.Sender{}, of(1, 0, 3, 50), api.ErrKind},
		{"kind 4", keeps(7, 2), of(8, 4, 3, 50), api.ErrKind},
		{"the least number as kind", keeps(7, 2), of(8, math.MinInt, 3, 50), api.ErrKind},
		{"permission -1", api.Sender{}, of(1, 1, -1, 50), api.ErrRange},
		{"one permission too far", keeps(7, 2), of(8, 1, 30, 50), api.ErrRange},
		{"nothing", api.Sender{}, of(1, 1, 3, 0), api.ErrRange},
		{"less than nothing", api.Sender{}, of(1, 1, 3, -1), api.ErrRange},
		{"too much", keeps(7, 2), of(8, 1, 3, api.MaxSum+1), api.ErrRange},
		{"the greatest number", keeps(7, 2), of(8, 1, 3, math.MaxInt), api.ErrRange},
		{"kind ahead of permission and sum", api.Sender{}, of(1, 0, 30, 0), api.ErrKind},
		{"one more than is kept", keeps(40, 40), of(41, 1, 3, 50), api.ErrMany},
		{"one more than is kept ahead of one more than is sent", keeps(api.MaxTime, 40), of(0, 1, 3, 50), api.ErrMany},
		{"one more than is kept ahead of kind", keeps(40, 40), of(41, 0, 3, 50), api.ErrMany},
		{"one more than is kept ahead of sum", keeps(40, 40), of(41, 1, 3, 0), api.ErrMany},
		{"one more than is sent", sender(api.MaxTime), of(0, 1, 3, 50), api.ErrRange},
		{"one more than is sent, of some kept", keeps(api.MaxTime, 39), of(0, 1, 3, 50), api.ErrRange},
		{"one more than is sent ahead of kind", sender(api.MaxTime), of(0, 0, 3, 50), api.ErrRange},
	}
	for _, x := range tests {
		got, err := Put(x.s, x.t)
		if !same(got, api.Sender{}) || err != x.want {
			t.Errorf("%s: %v %d comes, not nothing and %d", x.name, got, err, x.want)
		}
	}
}

func TestBack(t *testing.T) {
	s := keeps(7, 3)
	tests := []struct {
		name string
		s    api.Sender
		seen int
		want api.Sender
	}{
		{"none came", s, 0, s},
		{"what is kept no more", s, 3, s},
		{"up to the first one kept", s, 4, s},
		{"the first one kept", s, 5, keeps(7, 2)},
		{"two of them", s, 6, keeps(7, 1)},
		{"all", s, 7, sender(7)},
		{"none, of none", api.Sender{}, 0, api.Sender{}},
		{"none, of an empty list", api.Sender{Kept: []api.Transfer{}}, 0, api.Sender{}},
		{"of none kept", sender(5), 3, sender(5)},
		{"all, of none kept", sender(5), 5, sender(5)},
		{"half of as many as may be", keeps(40, 40), 20, keeps(40, 20)},
		{"all but the last that can be sent", keeps(api.MaxTime, 40), api.MaxTime - 1, keeps(api.MaxTime, 1)},
		{"all that can be sent", keeps(api.MaxTime, 40), api.MaxTime, sender(api.MaxTime)},
	}
	for _, x := range tests {
		got, err := Back(x.s, x.seen)
		if !same(got, x.want) || err != api.OK {
			t.Errorf("%s: %v %d comes, not %v", x.name, got, err, x.want)
		}
	}
	for _, s := range []api.Sender{{}, sender(5), s, keeps(40, 40), sender(api.MaxTime)} {
		for _, seen := range []int{math.MinInt, -1, s.Sent + 1, api.MaxTime + 1, math.MaxInt} {
			got, err := Back(s, seen)
			if !same(got, api.Sender{}) || err != api.ErrRange {
				t.Errorf("%d of %v: %v %d comes, not nothing and %d", seen, s, got, err, api.ErrRange)
			}
		}
	}
}

func TestTake(t *testing.T) {
	tests := []struct {
		name         string
		seen, number int
		want         int
		ok           bool
	}{
		{"the first one", 0, 1, 1, true},
		{"the next one", 6, 7, 7, true},
		{"the last one", api.MaxTime - 1, api.MaxTime, api.MaxTime, true},
		{"one that came", 6, 6, 6, false},
		{"one that came long ago", 6, 1, 6, false},
		{"one ahead of its turn", 6, 8, 6, false},
		{"the second one first", 0, 2, 0, false},
		{"no number", 0, 0, 0, false},
		{"a number below 0", 6, -7, 6, false},
		{"one more than can be sent", api.MaxTime, api.MaxTime + 1, api.MaxTime, false},
		{"the last one again", api.MaxTime, api.MaxTime, api.MaxTime, false},
		{"less than none came", -1, 0, -1, false},
		{"far less than none came", -7, -6, -7, false},
		{"far more came than can be", api.MaxTime + 7, api.MaxTime + 8, api.MaxTime + 7, false},
		{"the least number came", math.MinInt, math.MinInt + 1, math.MinInt, false},
		{"the greatest number came", math.MaxInt, math.MinInt, math.MaxInt, false},
		{"the greatest number", 0, math.MaxInt, 0, false},
		{"the least number", 0, math.MinInt, 0, false},
	}
	for _, x := range tests {
		// Of what comes the number alone matters, right or wrong as the rest may be.
		for _, rest := range []api.Transfer{of(0, 1, 3, 50), {}, of(0, 4, 30, -1)} {
			rest.Number = x.number
			if got, ok := Take(x.seen, rest); got != x.want || ok != x.ok {
				t.Errorf("%s: %d %v comes, not %d %v", x.name, got, ok, x.want, x.ok)
			}
		}
	}
}

// TestEachOnce sends over a way that loses, doubles, and turns round: in the end each transfer was taken once, in turn.
func TestEachOnce(t *testing.T) {
	for seed := range 200 {
		state := seed
		chance := func(n int) int {
			state = (state*1103515245 + 12345) % (1 << 31)
			return state / 65536 % n
		}
		var s api.Sender
		var put, taken []api.Transfer
		seen := 0
		arrive := func(x api.Transfer) {
			if next, ok := Take(seen, x); ok {
				seen, taken = next, append(taken, x)
			}
		}
		for range 300 {
			if next, err := Put(s, of(0, 1+chance(3), chance(api.MaxAuths), 1+chance(99))); err == api.OK {
				s, put = next, append(put, next.Kept[len(next.Kept)-1])
			} else if err != api.ErrMany || len(s.Kept) != api.MaxKept {
				t.Fatalf("seed %d: %d comes of Put to %v", seed, err, s)
			}
			for range chance(4) * len(s.Kept) / 2 {
				arrive(s.Kept[chance(len(s.Kept))])
			}
			if chance(5) == 0 {
				s = told(t, s, chance(seen+1))
			}
		}
		for _, x := range s.Kept {
			arrive(x)
		}
		if s = told(t, s, seen); len(s.Kept) > 0 || s.Sent != len(put) || !slices.Equal(taken, put) {
			t.Fatalf("seed %d: %v was taken, %v put, %v is left", seed, taken, put, s)
		}
	}
}

// told is the sender behind Back, which must not refuse.
func told(t *testing.T, s api.Sender, seen int) api.Sender {
	t.Helper()
	out, err := Back(s, seen)
	if f := Wrong(out); err != api.OK || f != (api.Fault{}) {
		t.Fatalf("%d %v comes of Back of %v, %d", err, f, s, seen)
	}
	return out
}

// TestMemory: what is handed in stays as it is, spare room too, and what comes shares none of it.
func TestMemory(t *testing.T) {
	calls := []struct {
		name string
		call func(s api.Sender) (api.Sender, api.Errno)
	}{
		{"Put", func(s api.Sender) (api.Sender, api.Errno) { return Put(s, of(0, 1, 3, 50)) }},
		{"Back of none", func(s api.Sender) (api.Sender, api.Errno) { return Back(s, 0) }},
		{"Back of some", func(s api.Sender) (api.Sender, api.Errno) { return Back(s, s.Sent/2) }},
		{"Back of all", func(s api.Sender) (api.Sender, api.Errno) { return Back(s, s.Sent) }},
	}
	room := append(run(1, 3), of(-9, -9, -9, -9), of(9, 9, 9, 9))
	before := slices.Clone(room)
	for _, x := range calls {
		for n := range 4 {
			told := fmt.Sprintf("%s, %d kept", x.name, n)
			s := sender(n, room[:n]...)
			got, err := x.call(s)
			want, _ := x.call(sender(n, slices.Clip(slices.Clone(room[:n]))...))
			if !same(got, want) || err != api.OK {
				t.Errorf("%s: %v %d comes, where there is spare room, not %v", told, got, err, want)
			}
			for i := range got.Kept[:cap(got.Kept)] {
				got.Kept[:cap(got.Kept)][i] = of(77, 77, 77, 77)
			}
			if !slices.Equal(room, before) {
				t.Fatalf("%s: %v comes of what was handed in, not %v", told, room, before)
			}
		}
	}
	if f := Wrong(sender(3, room[:3]...)); f != (api.Fault{}) || !slices.Equal(room, before) {
		t.Errorf("Wrong: %v comes, and leaves %v", f, room)
	}
}
