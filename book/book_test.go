package book

import (
	"fmt"
	"math"
	"slices"
	"testing"

	"paystone/api"
)

const (
	most        = api.MaxTotal
	lastAccount = api.Shops + api.MaxShops - 1
)

// list makes entries of accounts and sums, in turn.
func list(l ...int) []api.Entry {
	var out []api.Entry
	for i := 0; i+1 < len(l); i += 2 {
		out = append(out, api.Entry{Account: l[i], Sum: l[i+1]})
	}
	return out
}

// pairs makes n entries of sums that are 0 together.
func pairs(n int) []api.Entry {
	out := make([]api.Entry, n)
	for i := range out {
		out[i].Account = i % 2
	}
	for i := 0; i+1 < n; i += 2 {
		out[i].Sum, out[i+1].Sum = 1, -1
	}
	return out
}

// whole is a book in which every account has something.
func whole() []api.Entry {
	var out []api.Entry
	for a := range lastAccount + 1 {
		out = append(out, api.Entry{Account: a, Sum: most * (1 - a%2*2)})
	}
	return out
}

func TestWrong(t *testing.T) {
	tests := []struct {
		name string
		l    []api.Entry
		want api.Fault
	}{
		{"nil", nil, api.Fault{}},
		{"empty", []api.Entry{}, api.Fault{}},
		{"two", list(0, -50, 10, 50), api.Fault{}},
		{"three", list(0, -50, 10, 30, 57, 20), api.Fault{}},
		{"the first and the last account", list(0, 1, lastAccount, -1), api.Fault{}},
		{"an account that nobody has", list(5, 1, 49, -1), api.Fault{}},
		{"the largest sums", list(0, -most, 1, most), api.Fault{}},
		{"every account", whole(), api.Fault{}},
		{"account below", list(-1, 5, 0, -5), api.Fault{Err: api.ErrRange}},
		{"account above", list(0, -5, lastAccount+1, 5), api.Fault{Err: api.ErrRange, At: 1}},
		{"account least", list(math.MinInt, 5, 0, -5), api.Fault{Err: api.ErrRange}},
		{"account most", list(0, -5, math.MaxInt, 5), api.Fault{Err: api.ErrRange, At: 1}},
		{"sum above", list(0, most+1, 1, -most-1), api.Fault{Err: api.ErrRange}},
		{"sum below", list(0, 1, 1, -most-1), api.Fault{Err: api.ErrRange, At: 1}},
		{"sum least", list(0, 1, 1, 2, 2, math.MinInt), api.Fault{Err: api.ErrRange, At: 2}},
		{"sum most", list(0, math.MaxInt), api.Fault{Err: api.ErrRange}},
		{"accounts fall", list(10, 50, 0, -50), api.Fault{Err: api.ErrForm, At: 1}},
		{"accounts alike", list(10, 5, 10, -5), api.Fault{Err: api.ErrForm, At: 1}},
		{"accounts fall later", list(0, 1, 5, 1, 3, -2), api.Fault{Err: api.ErrForm, At: 2}},
		{"sum 0", list(0, 0), api.Fault{Err: api.ErrForm}},
		{"sum 0 later", list(0, 1, 1, -1, 2, 0), api.Fault{Err: api.ErrForm, At: 2}},
		{"too much together", list(0, 5), api.Fault{Err: api.ErrFit}},
		{"too little together", list(0, -50, 1, 20, 2, 29), api.Fault{Err: api.ErrFit}},
		{"range ahead of form, of one entry", list(5, 1, 5, most+1), api.Fault{Err: api.ErrRange, At: 1}},
		{"range ahead of form, account and no sum", list(-1, 0), api.Fault{Err: api.ErrRange}},
		{"form of an earlier entry", list(5, 0, -1, 0), api.Fault{Err: api.ErrForm}},
		{"range of an earlier entry", list(0, 1, 60, 1, 3, 0), api.Fault{Err: api.ErrRange, At: 1}},
		{"form ahead of fit", list(0, 5, 0, 5), api.Fault{Err: api.ErrForm, At: 1}},
		{"range ahead of fit", list(0, 5, 1, most+1), api.Fault{Err: api.ErrRange, At: 1}},
	}
	for _, x := range tests {
		if got := Wrong(x.l); got != x.want {
			t.Errorf("%s: Wrong(%v) = %v, not %v", x.name, x.l, got, x.want)
		}
	}
}

func TestGet(t *testing.T) {
	tests := []struct {
		l             []api.Entry
		account, want int
	}{
		{nil, 0, 0},
		{[]api.Entry{}, 10, 0},
		{list(0, -50, 10, 50), 0, -50},
		{list(0, -50, 10, 50), 10, 50},
		{list(0, -50, 10, 50), 9, 0},
		{list(0, -50, 10, 50), -1, 0},
		{list(0, -50, 10, 50), math.MaxInt, 0},
		{list(10, 5, 10, -5), 10, 5},
		{list(10, 0, 10, -5), 10, 0},
		{list(10, 50, 0, -50), 0, -50},
		{list(-1, 5, 99, 7), -1, 5},
		{list(-1, 5, 99, 7), 99, 7},
		{list(math.MinInt, math.MinInt), math.MinInt, math.MinInt},
	}
	for _, x := range tests {
		if got := Get(x.l, x.account); got != x.want {
			t.Errorf("Get(%v, %d) = %d, not %d", x.l, x.account, got, x.want)
		}
	}
}

// check holds an answer of Post or Move against what must come; beside an error there is no book.
func check(t *testing.T, name string, got []api.Entry, err api.Errno, want []api.Entry, wantErr api.Errno) {
	t.Helper()
	if err != wantErr || !slices.Equal(got, want) {
		t.Errorf("%s: %v, %d come, not %v, %d", name, got, err, want, wantErr)
	}
	if f := Wrong(got); f != (api.Fault{}) {
		t.Errorf("%s: Wrong says %v of what came, %v", name, f, got)
	}
}

func TestPost(t *testing.T) {
	old := list(0, -50, 10, 50)
	full := list(0, -most, 10, most)
	tests := []struct {
		name       string
		l, entries []api.Entry
		want       []api.Entry
		err        api.Errno
	}{
		{"nothing to nothing", nil, nil, nil, api.OK},
		{"nothing to empty", []api.Entry{}, []api.Entry{}, nil, api.OK},
		{"nothing to a book", old, nil, old, api.OK},
		{"to nothing", nil, old, old, api.OK},
		{"to accounts that are there", old, list(0, -7, 10, 7), list(0, -57, 10, 57), api.OK},
		{"to accounts ahead, between and behind", list(5, 1, 10, -1), list(57, 3, 7, 2, 0, -5), list(0, -5, 5, 1, 7, 2, 10, -1, 57, 3), api.OK},
		{"in any order", nil, list(57, 1, 0, -1), list(0, -1, 57, 1), api.OK},
		{"one account again and again", nil, list(3, 1, 4, -6, 3, 2, 3, 3), list(3, 6, 4, -6), api.OK},
		{"an account comes to 0", old, list(10, -50, 11, 50), list(0, -50, 11, 50), api.OK},
		{"all come to 0", old, list(0, 50, 10, -50), nil, api.OK},
		{"0 by several", nil, list(0, 1, 10, -1, 0, -1, 10, 1), nil, api.OK},
		{"sums of 0", old, list(3, 0, 10, 0), old, api.OK},
		{"the most that an account may have", nil, full, full, api.OK},
		{"from the most to the least", full, list(0, most, 10, -most, 0, most, 10, -most), list(0, most, 10, -most), api.OK},
		{"ten", nil, pairs(10), list(0, 5, 1, -5), api.OK},
		{"every account has something", whole(), list(0, -most, 1, most), whole()[2:], api.OK},

		{"the book's form", list(10, 50, 0, -50), old, nil, api.ErrForm},
		{"the book's range", list(0, -5, 58, 5), old, nil, api.ErrRange},
		{"the book's fit", list(0, 5), list(0, -5, 1, 5), nil, api.ErrFit},
		{"eleven", nil, pairs(11), nil, api.ErrMany},
		{"eleven without sums", old, make([]api.Entry, 11), nil, api.ErrMany},
		{"account below", nil, list(-1, 5, 0, -5), nil, api.ErrRange},
		{"account above", nil, list(0, -5, 58, 5), nil, api.ErrRange},
		{"account far away", nil, list(0, 0, math.MaxInt, 0, math.MinInt, 0), nil, api.ErrRange},
		{"sum above", nil, list(0, most+1, 10, -most-1), nil, api.ErrRange},
		{"sum below", nil, list(0, -most-1, 10, most+1), nil, api.ErrRange},
		{"sums that wrap round to 0", nil, list(0, math.MinInt, 10, math.MinInt), nil, api.ErrRange},
		{"too much together", old, list(0, 5), nil, api.ErrFit},
		{"too little together", old, list(0, -5, 10, 4), nil, api.ErrFit},
		{"one too much", full, list(10, 1, 0, -1), nil, api.ErrMuch},
		{"one too little", full, list(0, -1, 10, 1), nil, api.ErrMuch},
		{"too much at first, and less behind it", full, list(10, 1, 10, -1), nil, api.ErrMuch},
		{"too much at last", nil, list(3, most, 4, -most, 3, 1, 5, -1), nil, api.ErrMuch},
		{"less at first, and much behind it", full, list(10, -1, 10, 1), full, api.OK},

		{"the book's error ahead of many", list(0, 5), pairs(11), nil, api.ErrFit},
		{"the book's error ahead of range", list(0, 0), list(99, 1), nil, api.ErrForm},
		{"many ahead of range", nil, append(pairs(10), list(99, 1)...), nil, api.ErrMany},
		{"range ahead of fit", nil, list(0, 5, 99, 1), nil, api.ErrRange},
		{"range of a later entry ahead of much", full, list(10, 1, 0, -1, 99, 0), nil, api.ErrRange},
		{"fit ahead of much", full, list(10, 5), nil, api.ErrFit},
	}
	for _, x := range tests {
		got, err := Post(x.l, x.entries)
		check(t, x.name, got, err, x.want, x.err)
	}
}

func TestMove(t *testing.T) {
	old := list(0, -50, 10, 50)
	full := list(0, -most, 10, most)
	tests := []struct {
		name          string
		l             []api.Entry
		from, to, sum int
		want          []api.Entry
		err           api.Errno
	}{
		{"from outside to a card", nil, api.Outside, api.Cards, 50, old, api.OK},
		{"on to a shop", old, 10, 57, 20, list(0, -50, 10, 30, 57, 20), api.OK},
		{"back", old, 10, 0, 50, nil, api.OK},
		{"more than there is", old, 10, 0, 80, list(0, 30, 10, -30), api.OK},
		{"nothing", old, 10, 0, 0, old, api.OK},
		{"all that may be", nil, 0, 10, most, full, api.OK},
		{"to itself", old, 10, 10, 7, old, api.OK},
		{"to itself, where nothing is", nil, 50, 50, most, nil, api.OK},
		{"to itself, where most is", full, 10, 10, most, full, api.OK},
		{"to itself, where least is", full, 0, 0, 1, nil, api.ErrMuch},
		{"too much", full, 0, 10, 1, nil, api.ErrMuch},
		{"too much for the one it comes to", list(0, -most, 5, most), 1, 5, 1, nil, api.ErrMuch},
		{"sum below", old, 10, 0, -1, nil, api.ErrRange},
		{"sum above", old, 10, 0, most + 1, nil, api.ErrRange},
		{"sum least", old, 10, 0, math.MinInt, nil, api.ErrRange},
		{"sum most", old, 10, 0, math.MaxInt, nil, api.ErrRange},
		{"from none", old, 58, 0, 1, nil, api.ErrRange},
		{"to none", old, 0, -1, 1, nil, api.ErrRange},
		{"nothing to none", old, 0, 58, 0, nil, api.ErrRange},
		{"the book's error", list(0, 5), 0, 1, 5, nil, api.ErrFit},
		{"the book's error ahead of an account's", list(0, 0), 58, 1, 5, nil, api.ErrForm},
		{"the sum's error ahead of the book's", list(0, 0), 0, 1, -1, nil, api.ErrRange},
	}
	for _, x := range tests {
		got, err := Move(x.l, x.from, x.to, x.sum)
		check(t, x.name, got, err, x.want, x.err)
	}
}

// balance reckons as A2 says it, by a map.
func balance(l, entries []api.Entry) ([]api.Entry, api.Errno) {
	has := map[int]int{}
	for _, e := range l {
		has[e.Account] = e.Sum
	}
	total := 0
	for _, e := range entries {
		total += e.Sum
	}
	if total != 0 {
		return nil, api.ErrFit
	}
	for _, e := range entries {
		has[e.Account] += e.Sum
		if has[e.Account] > most || has[e.Account] < -most {
			return nil, api.ErrMuch
		}
	}
	var out []api.Entry
	for a := range lastAccount + 1 {
		if has[a] != 0 {
			out = append(out, api.Entry{Account: a, Sum: has[a]})
		}
	}
	return out, api.OK
}

// TestPostAll posts all lists of up to four entries of few accounts and sums.
func TestPostAll(t *testing.T) {
	books := [][]api.Entry{nil, list(0, -2, lastAccount, 2), list(0, most, 10, -most), list(0, most-1, 10, 1, lastAccount, -most)}
	var try func(entries []api.Entry, more int)
	try = func(entries []api.Entry, more int) {
		for _, l := range books {
			got, err := Post(l, entries)
			want, wantErr := balance(l, entries)
			check(t, fmt.Sprint(l, entries), got, err, want, wantErr)
		}
		for _, a := range []int{0, 10, lastAccount} {
			for _, s := range []int{-most, -1, 0, 1, most} {
				if more > 0 {
					try(append(slices.Clip(entries), api.Entry{Account: a, Sum: s}), more-1)
				}
			}
		}
	}
	try(nil, 4)
}

// spare hands out l with room behind it, and that room.
func spare(l []api.Entry) (short, room []api.Entry) {
	long := append(slices.Clone(l), list(91, 91, 92, 92, 93, 93)...)
	return long[:len(l)], long[len(l):]
}

// TestOnlyRead: neither what is handed in nor the room behind it is changed or kept, and an answer is the caller's.
func TestOnlyRead(t *testing.T) {
	calls := []struct {
		name string
		call func(l, m []api.Entry) []api.Entry
		want []api.Entry
	}{
		{"Post", func(l, m []api.Entry) []api.Entry { out, _ := Post(l, m); return out }, list(0, -57, 10, 50, 57, 7)},
		{"Post of nothing", func(l, m []api.Entry) []api.Entry { out, _ := Post(l, nil); return out }, list(0, -50, 10, 50)},
		{"Post to nothing", func(l, m []api.Entry) []api.Entry { out, _ := Post(nil, m); return out }, list(0, -7, 57, 7)},
		{"Post of itself", func(l, m []api.Entry) []api.Entry { out, _ := Post(l, l); return out }, list(0, -100, 10, 100)},
		{"Move", func(l, m []api.Entry) []api.Entry { out, _ := Move(l, 10, 0, 1); return out }, list(0, -49, 10, 49)},
		{"Move of nothing", func(l, m []api.Entry) []api.Entry { out, _ := Move(l, 10, 0, 0); return out }, list(0, -50, 10, 50)},
		{"Wrong and Get", func(l, m []api.Entry) []api.Entry { Wrong(l); Get(l, 91); return nil }, nil},
	}
	for _, x := range calls {
		l, room := spare(list(0, -50, 10, 50))
		m, roomM := spare(list(57, 7, 0, -7))
		got := x.call(l, m)
		if !slices.Equal(l, list(0, -50, 10, 50)) || !slices.Equal(m, list(57, 7, 0, -7)) {
			t.Errorf("%s changes what is handed in: %v, %v", x.name, l, m)
		}
		if left := list(91, 91, 92, 92, 93, 93); !slices.Equal(room, left) || !slices.Equal(roomM, left) {
			t.Errorf("%s changes the room behind: %v, %v", x.name, room, roomM)
		}
		for _, changed := range [][]api.Entry{l, room, m, roomM} {
			clear(changed)
		}
		if !slices.Equal(got, x.want) {
			t.Errorf("%s: %v is left of its answer, not %v", x.name, got, x.want)
		}
		again := x.call(list(0, -50, 10, 50), list(57, 7, 0, -7))
		clear(got[:cap(got)])
		if !slices.Equal(again, x.want) {
			t.Errorf("%s: one answer shares memory with another: %v", x.name, again)
		}
	}
}

// TestSpareRoomUnseen: what stands behind a list is not looked at.
func TestSpareRoomUnseen(t *testing.T) {
	long := list(0, -50, 10, 50, 5, 0)
	if got := Get(long[:2], 5); got != 0 {
		t.Errorf("Get finds %d behind the list", got)
	}
	if f := Wrong(long[:2]); f != (api.Fault{}) {
		t.Errorf("Wrong finds %v behind the list", f)
	}
	got, err := Post(long[:2], long[2:2])
	check(t, "Post", got, err, list(0, -50, 10, 50), api.OK)
}
