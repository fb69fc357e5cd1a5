package day

import (
	"bytes"
	"fmt"
	"math"
	"slices"
	"testing"

	"paystone/api"
)

func of(shop, auth, kind, sum int) api.Record {
	return api.Record{Shop: shop, Auth: auth, Kind: kind, Sum: sum}
}

func list(l ...api.Record) []api.Record { return l }

// many is so many records of that sum, all alike.
func many(n, sum int) []api.Record {
	return slices.Repeat(list(of(3, 4, api.Capture, sum)), n)
}

// raw is what stands in the file of the records, as they stand and whatever they are, with that total behind them.
func raw(total int, l ...api.Record) []byte {
	b := []byte{byte(len(l))}
	for _, r := range l {
		b = append(b, byte(r.Shop), byte(r.Auth), byte(r.Kind), byte(r.Sum/65536), byte(r.Sum/256), byte(r.Sum))
	}
	return append(b, byte(total/16777216), byte(total/65536), byte(total/256), byte(total))
}

// wrongRecords are none; those that have it fit into the bytes of a file.
func wrongRecords() []struct {
	name  string
	r     api.Record
	want  api.Errno
	bytes bool
} {
	return []struct {
		name  string
		r     api.Record
		want  api.Errno
		bytes bool
	}{
		{"kind 0", of(3, 4, 0, 5), api.ErrKind, true},
		{"kind 9", of(3, 4, 9, 5), api.ErrKind, true},
		{"kind 255", of(3, 4, 255, 5), api.ErrKind, true},
		{"kind -1", of(3, 4, -1, 5), api.ErrKind, false},
		{"a kind that a byte has for another", of(3, 4, 256+api.Capture, 5), api.ErrKind, false},
		{"the least number as kind", of(3, 4, math.MinInt, 5), api.ErrKind, false},
		{"the greatest number as kind", of(3, 4, math.MaxInt, 5), api.ErrKind, false},
		{"kind ahead of shop", of(8, 4, 0, 5), api.ErrKind, true},
		{"kind ahead of permission", of(3, 30, 9, 5), api.ErrKind, true},
		{"kind ahead of sum", of(3, 4, 0, 0), api.ErrKind, true},
		{"noughts", of(0, 0, 0, 0), api.ErrKind, true},
		{"one shop too far", of(8, 4, 2, 5), api.ErrRange, true},
		{"shop 255", of(255, 4, 2, 5), api.ErrRange, true},
		{"shop -1", of(-1, 4, 2, 5), api.ErrRange, false},
		{"a shop that a byte has for another", of(256, 4, 2, 5), api.ErrRange, false},
		{"the least number as shop", of(math.MinInt, 4, 2, 5), api.ErrRange, false},
		{"the greatest number as shop", of(math.MaxInt, 4, 2, 5), api.ErrRange, false},
		{"one permission too far", of(3, 30, 2, 5), api.ErrRange, true},
		{"permission 255", of(3, 255, 2, 5), api.ErrRange, true},
		{"permission -1", of(3, -1, 2, 5), api.ErrRange, false},
		{"a permission that a byte has for another", of(3, 256, 2, 5), api.ErrRange, false},
		{"the least number as permission", of(3, math.MinInt, 2, 5), api.ErrRange, false},
		{"the greatest number as permission", of(3, math.MaxInt, 2, 5), api.ErrRange, false},
		{"nothing", of(3, 4, 2, 0), api.ErrRange, true},
		{"too much", of(3, 4, 2, api.MaxSum+1), api.ErrRange, true},
		{"as much as three bytes have", of(3, 4, 2, 1<<24-1), api.ErrRange, true},
		{"less than nothing", of(3, 4, 2, -1), api.ErrRange, false},
		{"a sum that three bytes have for another", of(3, 4, 2, 1<<24+5), api.ErrRange, false},
		{"the least number as sum", of(3, 4, 2, math.MinInt), api.ErrRange, false},
		{"the greatest number as sum", of(3, 4, 2, math.MaxInt), api.ErrRange, false},
	}
}

type wrongList struct {
	name string
	l    []api.Record
	want api.Fault
}

// wrongLists are lists that are wrong, and what is wrong with them.
func wrongLists() []wrongList {
	out := []wrongList{
		{"one too many", many(101, 5), api.Fault{Err: api.ErrMany}},
		{"far too many", many(1000, 5), api.Fault{Err: api.ErrMany}},
		{"too many ahead of their kinds", make([]api.Record, 101), api.Fault{Err: api.ErrMany}},
		{"too many ahead of their range", many(101, 0), api.Fault{Err: api.ErrMany}},
		{"the last one of as many as may be", append(many(99, 5), of(3, 4, 0, 5)), api.Fault{Err: api.ErrKind, At: 99}},
		{"an earlier range ahead of a kind", list(of(3, 4, 2, 5), of(8, 4, 2, 5), of(3, 4, 9, 5)), api.Fault{Err: api.ErrRange, At: 1}},
		{"an earlier kind ahead of a range", list(of(3, 4, 2, 5), of(3, 4, 9, 5), of(8, 4, 2, 5)), api.Fault{Err: api.ErrKind, At: 1}},
		{"at its number ahead of sorting", list(of(7, 29, 2, 5), of(0, 0, 2, 0)), api.Fault{Err: api.ErrRange, At: 1}},
	}
	for _, x := range wrongRecords() {
		out = append(out,
			wrongList{x.name, list(x.r), api.Fault{Err: x.want}},
			wrongList{x.name + ", behind two", append(many(2, 5), x.r), api.Fault{Err: x.want, At: 2}},
			wrongList{x.name + ", ahead of two", append(list(x.r), many(2, 5)...), api.Fault{Err: x.want}})
	}
	return out
}

type rightList struct {
	name   string
	l      []api.Record
	sorted []api.Record
	file   []byte
}

// rightLists are lists with which nothing is wrong, sorted, and their files.
func rightLists() []rightList {
	mixed := list(of(2, 1, 2, 50), of(1, 3, 5, 20), of(1, 2, 3, 7), of(1, 3, 2, 900), of(1, 3, 7, 1))
	return []rightList{
		{"none", nil, nil, []byte{0, 0, 0, 0, 0}},
		{"an empty list", []api.Record{}, nil, []byte{0, 0, 0, 0, 0}},
		{"the least", list(of(0, 0, 1, 1)), list(of(0, 0, 1, 1)), []byte{1, 0, 0, 1, 0, 0, 1, 0, 0, 0, 1}},
		{"the most", list(of(7, 29, 8, api.MaxSum)), list(of(7, 29, 8, api.MaxSum)),
			[]byte{1, 7, 29, 8, 15, 66, 64, 0, 15, 66, 64}},
		{"a sum of three bytes", list(of(1, 2, 3, 1*65536+2*256+3)), list(of(1, 2, 3, 1*65536+2*256+3)),
			[]byte{1, 1, 2, 3, 1, 2, 3, 0, 1, 2, 3}},
		{"by shops", list(of(2, 0, 2, 5), of(1, 9, 2, 6)), list(of(1, 9, 2, 6), of(2, 0, 2, 5)),
			[]byte{2, 1, 9, 2, 0, 0, 6, 2, 0, 2, 0, 0, 5, 0, 0, 0, 11}},
		{"by permissions", list(of(1, 9, 2, 5), of(1, 2, 2, 6)), list(of(1, 2, 2, 6), of(1, 9, 2, 5)),
			[]byte{2, 1, 2, 2, 0, 0, 6, 1, 9, 2, 0, 0, 5, 0, 0, 0, 11}},
		{"alike, by no kind", list(of(1, 2, 5, 6), of(1, 2, 2, 6)), list(of(1, 2, 5, 6), of(1, 2, 2, 6)),
			[]byte{2, 1, 2, 5, 0, 0, 6, 1, 2, 2, 0, 0, 6, 0, 0, 0, 12}},
		{"alike, by no sum", list(of(1, 2, 2, 300), of(1, 2, 2, 6)), list(of(1, 2, 2, 300), of(1, 2, 2, 6)),
			[]byte{2, 1, 2, 2, 0, 1, 44, 1, 2, 2, 0, 0, 6, 0, 0, 1, 50}},
		{"all of it", mixed, list(mixed[2], mixed[1], mixed[3], mixed[4], mixed[0]),
			[]byte{5, 1, 2, 3, 0, 0, 7, 1, 3, 5, 0, 0, 20, 1, 3, 2, 0, 3, 132, 1, 3, 7, 0, 0, 1, 2, 1, 2, 0, 0, 50, 0, 0, 3, 210}},
		{"as many as may be", many(100, 5), many(100, 5), raw(500, many(100, 5)...)},
		{"as much as may be", many(100, api.MaxSum), many(100, api.MaxSum), raw(100000000, many(100, api.MaxSum)...)},
		{"a total of four bytes", many(17, api.MaxSum), many(17, api.MaxSum),
			append(raw(0, many(17, api.MaxSum)...)[:1+17*6], 1, 3, 102, 64)},
	}
}

func TestWrong(t *testing.T) {
	for _, x := range wrongLists() {
		if got := Wrong(x.l); got != x.want {
			t.Errorf("%s: %v comes, not %v", x.name, got, x.want)
		}
	}
	for _, x := range rightLists() {
		if got := Wrong(x.l); got != (api.Fault{}) {
			t.Errorf("%s: %v comes", x.name, got)
		}
	}
	for kind := api.MoreSum; kind <= api.ForShop; kind++ {
		if got := Wrong(list(of(3, 4, kind, 5))); got != (api.Fault{}) {
			t.Errorf("kind %d: %v comes", kind, got)
		}
	}
}

func TestSorted(t *testing.T) {
	for _, x := range rightLists() {
		if got := Sorted(x.l); !slices.Equal(got, x.sorted) {
			t.Errorf("%s: %v comes, not %v", x.name, got, x.sorted)
		}
	}
	// It sorts whatever there is: nothing says that the records must be right.
	tests := []struct {
		name    string
		l, want []api.Record
	}{
		{"shops far from each other", list(of(math.MaxInt, 0, 0, 0), of(0, 0, 0, 0), of(math.MinInt, 0, 0, 0)),
			list(of(math.MinInt, 0, 0, 0), of(0, 0, 0, 0), of(math.MaxInt, 0, 0, 0))},
		{"permissions far from each other", list(of(1, math.MaxInt, 9, 0), of(1, 2, 0, 0), of(1, math.MinInt, -1, 0)),
			list(of(1, math.MinInt, -1, 0), of(1, 2, 0, 0), of(1, math.MaxInt, 9, 0))},
		{"more than may be", append(many(200, 5), of(0, 0, 2, 5)), append(list(of(0, 0, 2, 5)), many(200, 5)...)},
	}
	for _, x := range tests {
		if got := Sorted(x.l); !slices.Equal(got, x.want) {
			t.Errorf("%s: %v comes, not %v", x.name, got, x.want)
		}
	}
}

func TestNet(t *testing.T) {
	mixed := list(of(2, 1, 2, 50), of(1, 3, 5, 20), of(1, 2, 3, 7), of(1, 3, 2, 900), of(1, 3, 7, 1))
	tests := []struct {
		name       string
		l          []api.Record
		shop, want int
	}{
		{"none", nil, 0, 0},
		{"of empty ones", []api.Record{}, 0, 0},
		{"of several kinds", mixed, 1, 7 + 900 - 20 - 1},
		{"another shop", mixed, 2, 50},
		{"a shop that has none", mixed, 0, 0},
		{"no shop", mixed, -1, 0},
		{"the least number as shop", mixed, math.MinInt, 0},
		{"the greatest number as shop", mixed, math.MaxInt, 0},
		{"less than nothing", list(of(1, 3, 5, 20)), 1, -20},
		{"all taken that may be", many(100, api.MaxSum), 3, 100 * api.MaxSum},
		{"all given back that may be", slices.Repeat(list(of(7, 4, 5, api.MaxSum)), 100), 7, -100 * api.MaxSum},
	}
	for _, x := range tests {
		if got := Net(x.l, x.shop); got != x.want {
			t.Errorf("%s: %d comes, not %d", x.name, got, x.want)
		}
	}
	signs := map[int]int{api.MoreSum: 0, api.Capture: 1, api.Last: 1, api.Reverse: 0, api.Refund: -1, api.Dispute: 0, api.ForCard: -1, api.ForShop: 0}
	for kind, sign := range signs {
		if got := Net(list(of(3, 4, kind, 5)), 3); got != 5*sign {
			t.Errorf("kind %d: %d comes, not %d", kind, got, 5*sign)
		}
	}
}

func TestBytes(t *testing.T) {
	for _, x := range rightLists() {
		got, f := Bytes(x.l)
		if !bytes.Equal(got, x.file) || f != (api.Fault{}) {
			t.Errorf("%s: %v %v comes, not %v", x.name, got, f, x.file)
		}
	}
	for _, x := range wrongLists() {
		got, f := Bytes(x.l)
		if len(got) > 0 || f != x.want {
			t.Errorf("%s: %v %v comes, not nothing and %v", x.name, got, f, x.want)
		}
	}
	if got, _ := Bytes(many(2, 5)); len(got) != 17 {
		t.Errorf("a file of two records: %d bytes come, not 17", len(got))
	}
}

func TestParse(t *testing.T) {
	for _, x := range rightLists() {
		got, err := Parse(x.file)
		if !slices.Equal(got, x.sorted) || err != api.OK {
			t.Errorf("%s: %v %d comes, not %v", x.name, got, err, x.sorted)
		}
	}
}

func TestParseErrors(t *testing.T) {
	tests := []struct {
		name string
		b    []byte
		want api.Errno
	}{
		{"nothing", nil, api.ErrForm},
		{"nothing, an empty list", []byte{}, api.ErrForm},
		{"one byte", []byte{0}, api.ErrForm},
		{"four bytes", []byte{0, 0, 0, 0}, api.ErrForm},
		{"six bytes of no record", []byte{0, 0, 0, 0, 0, 0}, api.ErrForm},
		{"five bytes of one record", []byte{1, 0, 0, 0, 0}, api.ErrForm},
		{"no record, but one there", append([]byte{0}, raw(5, of(3, 4, 2, 5))[1:]...), api.ErrForm},
		{"two records, but one there", append([]byte{2}, raw(5, of(3, 4, 2, 5))[1:]...), api.ErrForm},
		{"as many as a byte has, but one there", append([]byte{255}, raw(5, of(3, 4, 2, 5))[1:]...), api.ErrForm},
		{"too many, one byte too few", raw(505, many(101, 5)...)[:101*6+4], api.ErrForm},
		{"too many, one byte too much", append(raw(505, many(101, 5)...), 0), api.ErrForm},
		{"form ahead of kind", append(raw(5, of(3, 4, 0, 5)), 0), api.ErrForm},
		{"form ahead of the total", append(raw(6, of(3, 4, 2, 5)), 0), api.ErrForm},

		{"one too many", raw(505, many(101, 5)...), api.ErrMany},
		{"as many as a byte has", raw(255*5, many(255, 5)...), api.ErrMany},
		{"many ahead of kinds", raw(0, make([]api.Record, 101)...), api.ErrMany},
		{"many ahead of the total", raw(0, many(101, 5)...), api.ErrMany},
		{"an earlier range ahead of a kind", raw(10, of(8, 4, 2, 5), of(3, 4, 9, 5)), api.ErrRange},
		{"kind ahead of the total", raw(6, of(3, 4, 0, 5)), api.ErrKind},
		{"range ahead of the total", raw(6, of(8, 4, 2, 5)), api.ErrRange},
		{"kind ahead of the turn", raw(10, of(3, 4, 2, 5), of(3, 3, 9, 5)), api.ErrKind},
		{"range ahead of the turn", raw(5, of(3, 4, 2, 5), of(3, 3, 2, 0)), api.ErrRange},

		{"a total of no record", []byte{0, 0, 0, 0, 1}, api.ErrFit},
		{"a high total of no record", []byte{0, 128, 0, 0, 0}, api.ErrFit},
		{"one more", raw(6, of(3, 4, 2, 5)), api.ErrFit},
		{"one less", raw(4, of(3, 4, 2, 5)), api.ErrFit},
		{"no total", raw(0, of(3, 4, 2, 5)), api.ErrFit},
		{"a total in its second byte", raw(5+256, of(3, 4, 2, 5)), api.ErrFit},
		{"a total in its third byte", raw(5+65536, of(3, 4, 2, 5)), api.ErrFit},
		{"a total in its fourth byte", raw(5+16777216, of(3, 4, 2, 5)), api.ErrFit},
		{"the bytes of the total the wrong way round", []byte{1, 3, 4, 2, 0, 0, 5, 5, 0, 0, 0}, api.ErrFit},
		{"the total of a net", raw(3, of(3, 4, 2, 5), of(3, 4, 5, 2)), api.ErrFit},
		{"shops out of turn", raw(11, of(1, 0, 2, 5), of(0, 0, 2, 6)), api.ErrFit},
		{"shops out of turn, permissions in it", raw(11, of(1, 0, 2, 5), of(0, 1, 2, 6)), api.ErrFit},
		{"permissions out of turn", raw(11, of(1, 1, 2, 5), of(1, 0, 2, 6)), api.ErrFit},
		{"the last ones out of turn", raw(18, of(1, 0, 2, 5), of(2, 3, 2, 6), of(2, 2, 2, 7)), api.ErrFit},
		{"out of turn over one alike", raw(18, of(2, 3, 2, 5), of(2, 3, 2, 6), of(2, 2, 2, 7)), api.ErrFit},
		{"both wrong", raw(12, of(1, 1, 2, 5), of(1, 0, 2, 6)), api.ErrFit},
	}
	for _, x := range tests {
		got, err := Parse(x.b)
		if len(got) > 0 || err != x.want {
			t.Errorf("%s: %v %d comes, not nothing and %d", x.name, got, err, x.want)
		}
	}
	for _, x := range wrongRecords() {
		if !x.bytes {
			continue
		}
		for _, l := range [][]api.Record{list(x.r), list(of(0, 0, 2, 5), x.r), list(x.r, of(7, 29, 2, 5))} {
			got, err := Parse(raw(total(l), l...))
			if len(got) > 0 || err != x.want {
				t.Errorf("%s: %v %d comes, not nothing and %d", x.name, got, err, x.want)
			}
		}
	}
	for _, x := range rightLists() {
		for k := range len(x.file) {
			got, err := Parse(x.file[:k])
			if len(got) > 0 || err != api.ErrForm {
				t.Errorf("%s, its first %d bytes: %v %d comes, not nothing and %d", x.name, k, got, err, api.ErrForm)
			}
		}
	}
}

// TestThereAndBack: a file tells all of a day, and nothing else is a file of it: where one byte of it is another, it is none, or one of another day.
func TestThereAndBack(t *testing.T) {
	for seed := range 300 {
		state := seed
		chance := func(n int) int {
			state = (state*1103515245 + 12345) % (1 << 31)
			return state / 65536 % n
		}
		var l []api.Record
		for range chance(api.MaxRecords + 1) {
			l = append(l, of(chance(api.MaxShops), chance(api.MaxAuths/(1+chance(15))), 1+chance(8), 1+chance(api.MaxSum)))
		}
		told := fmt.Sprintf("seed %d: %v", seed, l)
		b, f := Bytes(l)
		if f != (api.Fault{}) || len(b) != 5+6*len(l) {
			t.Fatalf("%s: %v %v comes", told, b, f)
		}
		back, err := Parse(b)
		if err != api.OK || !slices.Equal(back, Sorted(l)) {
			t.Fatalf("%s: %v %d comes back", told, back, err)
		}
		nets := 0
		for shop := range api.MaxShops {
			if Net(l, shop) != Net(back, shop) {
				t.Fatalf("%s: shop %d has %d, and %d of what comes back", told, shop, Net(l, shop), Net(back, shop))
			}
			nets += Net(l, shop)
		}
		if nets != plainNet(l) {
			t.Fatalf("%s: %d comes of all shops, not %d", told, nets, plainNet(l))
		}
		checkSorted(t, told, l, back)
		k := chance(len(b))
		b[k] += byte(1 + chance(255))
		other, err := Parse(b)
		if err != api.OK {
			continue
		}
		if again, _ := Bytes(other); !bytes.Equal(again, b) || slices.Equal(other, back) {
			t.Fatalf("%s, byte %d another: %v comes", told, k, other)
		}
	}
}

// plainNet is what all shops together are due.
func plainNet(l []api.Record) int {
	sum := 0
	for _, r := range l {
		switch r.Kind {
		case api.Capture, api.Last:
			sum += r.Sum
		case api.Refund, api.ForCard:
			sum -= r.Sum
		}
	}
	return sum
}

// checkSorted: for shop after shop and permission after permission, what came is what l has of it, in turn.
func checkSorted(t *testing.T, told string, l, sorted []api.Record) {
	t.Helper()
	var want []api.Record
	for shop := range api.MaxShops {
		for auth := range api.MaxAuths {
			for _, r := range l {
				if r.Shop == shop && r.Auth == auth {
					want = append(want, r)
				}
			}
		}
	}
	if !slices.Equal(sorted, want) {
		t.Fatalf("%s: %v comes, not %v", told, sorted, want)
	}
}

// TestMemory: what is handed in stays as it is, spare room too, and what comes shares none of it.
func TestMemory(t *testing.T) {
	right := list(of(2, 1, 2, 50), of(1, 3, 5, 20), of(1, 2, 3, 7))
	room := append(slices.Clone(right), of(0, 0, 0, -9), of(9, 9, 9, 9))
	file := raw(77, of(1, 2, 3, 7), of(1, 3, 5, 20), of(2, 1, 2, 50))
	fileRoom := append(slices.Clone(file), 9, 9, 9)
	l, b := room[:3], fileRoom[:len(file)]
	roomBefore, fileBefore := slices.Clone(room), slices.Clone(fileRoom)
	check := func(name string) {
		t.Helper()
		if !slices.Equal(room, roomBefore) || !bytes.Equal(fileRoom, fileBefore) {
			t.Fatalf("%s: %v %v comes of what was handed in", name, room, fileRoom)
		}
	}
	if f := Wrong(l); f != (api.Fault{}) {
		t.Errorf("Wrong: %v comes, where there is spare room", f)
	}
	check("Wrong")
	sorted := Sorted(l)
	if !slices.Equal(sorted, list(right[2], right[1], right[0])) {
		t.Errorf("Sorted: %v comes, where there is spare room", sorted)
	}
	spoil(sorted, of(77, 77, 77, 77))
	check("Sorted")
	one := Sorted(l[:1])
	spoil(one, of(77, 77, 77, 77))
	check("Sorted of one")
	if got := Net(l, 1); got != -13 {
		t.Errorf("Net: %d comes, where there is spare room", got)
	}
	check("Net")
	got, f := Bytes(l)
	if !bytes.Equal(got, file) || f != (api.Fault{}) {
		t.Errorf("Bytes: %v %v comes, where there is spare room", got, f)
	}
	spoil(got, 77)
	check("Bytes")
	back, err := Parse(b)
	if !slices.Equal(back, list(right[2], right[1], right[0])) || err != api.OK {
		t.Errorf("Parse: %v %d comes, where there is spare room", back, err)
	}
	spoil(back, of(77, 77, 77, 77))
	check("Parse")
}

// spoil writes all over what came, as who asked for it may.
func spoil[T any](l []T, x T) {
	for i := range l[:cap(l)] {
		l[:cap(l)][i] = x
	}
}
