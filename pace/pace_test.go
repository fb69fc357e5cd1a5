package pace

import (
	"fmt"
	"math"
	"slices"
	"testing"

	"paystone/api"
)

// uses is a list of uses: times and sums in turn.
func uses(l ...int) []api.Use {
	var out []api.Use
	for i := 0; i < len(l); i += 2 {
		out = append(out, api.Use{Time: l[i], Sum: l[i+1]})
	}
	return out
}

// many is so many uses of that sum, all at that time.
func many(n, time, sum int) []api.Use {
	return slices.Repeat(uses(time, sum), n)
}

// of is a pace.
func of(ticks, count, sum int) api.Pace {
	return api.Pace{Ticks: ticks, Count: count, Sum: sum}
}

func TestWrong(t *testing.T) {
	fields := []struct {
		name        string
		first, last int
		change      func(p *api.Pace, n int)
	}{
		{"Ticks", 1, api.MaxTime, func(p *api.Pace, n int) { p.Ticks = n }},
		{"Count", 0, api.MaxUses, func(p *api.Pace, n int) { p.Count = n }},
		{"Sum", 0, api.MaxTotal, func(p *api.Pace, n int) { p.Sum = n }},
	}
	for _, f := range fields {
		for _, n := range []int{math.MinInt, -1, 0, 1, 2, f.last - 1, f.last, f.last + 1, math.MaxInt} {
			want := api.OK
			if n < f.first || n > f.last {
				want = api.ErrRange
			}
			p := of(10, 3, 100)
			f.change(&p, n)
			if got := Wrong(p); got != want {
				t.Errorf("%s %d: %d comes, not %d", f.name, n, got, want)
			}
		}
	}
}

func TestUses(t *testing.T) {
	tests := []struct {
		name string
		l    []api.Use
		want api.Fault
	}{
		{"nil", nil, api.Fault{}},
		{"empty", []api.Use{}, api.Fault{}},
		{"one", uses(5, 40), api.Fault{}},
		{"the least", uses(0, 0), api.Fault{}},
		{"the greatest", uses(api.MaxTime, api.MaxSum), api.Fault{}},
		{"at one time", uses(5, 40, 5, 30), api.Fault{}},
		{"rising", uses(1, 9, 2, 8, 3, 7), api.Fault{}},
		{"as many as may be", many(api.MaxUses, 5, 1), api.Fault{}},
		{"one too many", many(api.MaxUses+1, 5, 1), api.Fault{Err: api.ErrMany}},
		{"many ahead of range", many(api.MaxUses+1, -1, 1), api.Fault{Err: api.ErrMany}},
		{"time below 0", uses(-1, 1), api.Fault{Err: api.ErrRange}},
		{"time too great", uses(api.MaxTime+1, 1), api.Fault{Err: api.ErrRange}},
		{"sum below 0", uses(1, -1), api.Fault{Err: api.ErrRange}},
		{"sum too great", uses(1, api.MaxSum+1), api.Fault{Err: api.ErrRange}},
		{"the least number as time", uses(1, 1, math.MinInt, 1), api.Fault{Err: api.ErrRange, At: 1}},
		{"the greatest number as time", uses(1, 1, math.MaxInt, 1), api.Fault{Err: api.ErrRange, At: 1}},
		{"the least number as sum", uses(1, 1, 2, math.MinInt), api.Fault{Err: api.ErrRange, At: 1}},
		{"the greatest number as sum", uses(1, 1, 2, math.MaxInt), api.Fault{Err: api.ErrRange, At: 1}},
		{"the one ahead is later", uses(9, 1, 8, 1), api.Fault{Err: api.ErrForm, At: 1}},
		{"the one ahead is later, at the end", uses(1, 1, 9, 1, 9, 1, 8, 1), api.Fault{Err: api.ErrForm, At: 3}},
		{"later than one further ahead alone", uses(9, 1, 2, 1, 3, 1), api.Fault{Err: api.ErrForm, At: 1}},
		{"range ahead of form, at one use", uses(9, 1, 8, -1), api.Fault{Err: api.ErrRange, At: 1}},
		{"form at 1 ahead of range at 2", uses(9, 1, 8, 1, 9, -1), api.Fault{Err: api.ErrForm, At: 1}},
		{"range at 1 ahead of form at 2", uses(9, 1, 9, -1, 8, 1), api.Fault{Err: api.ErrRange, At: 1}},
		{"wrong at the last one", append(many(api.MaxUses-1, 5, 1), api.Use{Time: 4}), api.Fault{Err: api.ErrForm, At: api.MaxUses - 1}},
	}
	for _, x := range tests {
		if got := Uses(x.l); got != x.want {
			t.Errorf("%s: %v comes, not %v", x.name, got, x.want)
		}
	}
}

func TestRecent(t *testing.T) {
	tests := []struct {
		name  string
		ticks int
		l     []api.Use
		time  int
		want  []api.Use
	}{
		{"nil", 10, nil, 5, nil},
		{"empty", 10, []api.Use{}, 5, nil},
		{"now", 1, uses(5, 40), 5, uses(5, 40)},
		{"one tick ago, of one", 1, uses(5, 40), 6, nil},
		{"one tick less than Ticks ago", 10, uses(5, 40), 14, uses(5, 40)},
		{"Ticks ago", 10, uses(5, 40), 15, nil},
		{"some of them", 10, uses(1, 1, 5, 2, 5, 3, 6, 4, 9, 5), 15, uses(6, 4, 9, 5)},
		{"all of them, at the beginning", 10, uses(0, 1, 0, 2), 0, uses(0, 1, 0, 2)},
		{"later ones too", 10, uses(20, 1), 5, uses(20, 1)},
		{"at time 0, Ticks ago", 10, uses(0, 1), 10, nil},
		{"the longest pace", api.MaxTime, uses(0, 1, 1, 2), api.MaxTime, uses(1, 2)},
		{"the longest pace, a tick earlier", api.MaxTime, uses(0, 1, 1, 2), api.MaxTime - 1, uses(0, 1, 1, 2)},
		{"not in turn, as they stand", 10, uses(9, 1, 2, 2, 8, 3), 12, uses(9, 1, 8, 3)},
		{"out of range, as they stand", 10, uses(-6, 1, -5, -2, math.MinInt, 3, math.MaxInt, 4), 4, uses(-5, -2, math.MaxInt, 4)},
		{"more than are kept", 10, many(40, 5, 1), 5, many(40, 5, 1)},
	}
	for _, x := range tests {
		if got := Recent(of(x.ticks, 0, 0), x.l, x.time); !slices.Equal(got, x.want) {
			t.Errorf("%s: %v comes, not %v", x.name, got, x.want)
		}
	}
}

func TestAdd(t *testing.T) {
	tests := []struct {
		name string
		p    api.Pace
		l    []api.Use
		x    api.Use
		want []api.Use
	}{
		{"the first one", of(10, 2, 100), nil, api.Use{Time: 5, Sum: 40}, uses(5, 40)},
		{"the first one, of an empty list", of(10, 2, 100), []api.Use{}, api.Use{Time: 5, Sum: 40}, uses(5, 40)},
		{"the second one", of(10, 2, 100), uses(5, 40), api.Use{Time: 9, Sum: 10}, uses(5, 40, 9, 10)},
		{"at the same time", of(10, 2, 100), uses(5, 40), api.Use{Time: 5, Sum: 10}, uses(5, 40, 5, 10)},
		{"as much as may be", of(10, 2, 100), uses(5, 40), api.Use{Time: 14, Sum: 60}, uses(5, 40, 14, 60)},
		{"the one ahead counts no more", of(10, 1, 100), uses(5, 40), api.Use{Time: 15, Sum: 100}, uses(15, 100)},
		{"two counted, one still does", of(10, 2, 100), uses(5, 40, 6, 60), api.Use{Time: 15, Sum: 40}, uses(6, 60, 15, 40)},
		{"nothing, of a pace of no sum", of(10, 2, 0), uses(5, 0), api.Use{Time: 6}, uses(5, 0, 6, 0)},
		{"as many as may be", of(10, api.MaxUses, 30), many(29, 5, 1), api.Use{Time: 6, Sum: 1}, append(many(29, 5, 1), api.Use{Time: 6, Sum: 1})},
		{"as much as ever may be", of(1, api.MaxUses, 30*api.MaxSum), many(29, 5, api.MaxSum), api.Use{Time: 5, Sum: api.MaxSum}, many(30, 5, api.MaxSum)},
		{"a full list that counts no more", of(10, 1, 1), many(api.MaxUses, 5, 9), api.Use{Time: 15, Sum: 1}, uses(15, 1)},
		{"the last time", of(api.MaxTime, 2, 100), uses(1, 40), api.Use{Time: api.MaxTime, Sum: 60}, uses(1, 40, api.MaxTime, 60)},
		{"the first time", of(api.MaxTime, 2, 100), uses(0, 40), api.Use{Sum: 60}, uses(0, 40, 0, 60)},
	}
	for _, x := range tests {
		got, err := Add(x.p, x.l, x.x)
		if !slices.Equal(got, x.want) || err != api.OK {
			t.Errorf("%s: %v %d comes, not %v", x.name, got, err, x.want)
		}
	}
}

func TestAddErrors(t *testing.T) {
	good, x := of(10, 2, 100), api.Use{Time: 9, Sum: 10}
	tests := []struct {
		name string
		p    api.Pace
		l    []api.Use
		x    api.Use
		want api.Errno
	}{
		{"a wrong pace", of(0, 2, 100), nil, x, api.ErrRange},
		{"a wrong pace ahead of too many", of(10, 31, 100), many(31, 5, 1), x, api.ErrRange},
		{"a wrong pace ahead of form", of(10, 2, -1), uses(5, 1, 4, 1), x, api.ErrRange},
		{"too many", good, many(31, 5, 1), x, api.ErrMany},
		{"too many, that count no more", good, many(31, 5, 1), api.Use{Time: 50}, api.ErrMany},
		{"too many ahead of x", good, many(31, 5, 1), api.Use{Time: -1}, api.ErrMany},
		{"a wrong list", good, uses(5, -1), x, api.ErrRange},
		{"a wrong list ahead of form", good, uses(20, -1), x, api.ErrRange},
		{"a list not in turn", good, uses(5, 1, 4, 1), x, api.ErrForm},
		{"a list not in turn ahead of x", good, uses(5, 1, 4, 1), api.Use{Time: -1}, api.ErrForm},
		{"a list not in turn, that counts no more", good, uses(5, 1, 4, 1), api.Use{Time: 50}, api.ErrForm},
		{"x ahead of time 0", good, nil, api.Use{Time: -1}, api.ErrRange},
		{"x behind the last time", good, nil, api.Use{Time: api.MaxTime + 1}, api.ErrRange},
		{"x of less than nothing", good, nil, api.Use{Sum: -1}, api.ErrRange},
		{"x of more than may be", of(10, 2, api.MaxTotal), nil, api.Use{Sum: api.MaxSum + 1}, api.ErrRange},
		{"x of the least number", good, nil, api.Use{Sum: math.MinInt}, api.ErrRange},
		{"x of the greatest number", of(10, 2, api.MaxTotal), uses(0, 1), api.Use{Sum: math.MaxInt}, api.ErrRange},
		{"x at the least number", good, nil, api.Use{Time: math.MinInt}, api.ErrRange},
		{"x at the greatest number", good, nil, api.Use{Time: math.MaxInt}, api.ErrRange},
		{"x's range ahead of x's turn", good, uses(5, 1), api.Use{Time: -1}, api.ErrRange},
		{"the last one is later", good, uses(10, 1), x, api.ErrForm},
		{"the last one of two is later", good, uses(8, 1, 10, 1), x, api.ErrForm},
		{"form ahead of pace", of(10, 0, 0), uses(10, 1), x, api.ErrForm},
		{"one too often", good, uses(8, 1, 8, 1), x, api.ErrPace},
		{"one too often, by one tick", good, uses(8, 1, 8, 1), api.Use{Time: 17}, api.ErrPace},
		{"one too much", good, uses(5, 40), api.Use{Time: 14, Sum: 61}, api.ErrPace},
		{"one too much at once", good, nil, api.Use{Time: 9, Sum: 101}, api.ErrPace},
		{"of no count", of(10, 0, 100), nil, api.Use{}, api.ErrPace},
		{"of no sum", of(10, 2, 0), nil, api.Use{Sum: 1}, api.ErrPace},
		{"a full list that counts", of(10, api.MaxUses, api.MaxTotal), many(30, 5, 1), x, api.ErrPace},
		{"much that was already too much", good, uses(5, 101), x, api.ErrPace},
		{"many that were already too many", good, many(3, 5, 0), api.Use{Time: 5}, api.ErrPace},
	}
	for _, x := range tests {
		got, err := Add(x.p, x.l, x.x)
		if got != nil || err != x.want {
			t.Errorf("%s: %v %d comes, not nothing and %d", x.name, got, err, x.want)
		}
	}
}

// TestAddInTurn holds what Add keeps, use behind use, against all uses that ever were made: in no ticks in a row are there more than the pace has.
func TestAddInTurn(t *testing.T) {
	for i := range 4 * 4 * 6 {
		p := of(1+i%4, i/4%4, i/16%6)
		var kept, all []api.Use
		for k := range 60 {
			x := api.Use{Time: k / 3, Sum: k * 7 % 4}
			recent := Recent(p, all, x.Time)
			told := fmt.Sprintf("%v, %v behind %v", p, x, recent)
			next, err := Add(p, kept, x)
			fits := len(recent) < p.Count && sum(recent)+x.Sum <= p.Sum
			if fits != (err == api.OK) {
				t.Fatalf("%s: %d comes", told, err)
			}
			if !fits {
				continue
			}
			if want := append(recent, x); !slices.Equal(next, want) {
				t.Fatalf("%s: %v comes", told, next)
			}
			kept, all = next, append(all, x)
		}
	}
}

func sum(l []api.Use) int {
	out := 0
	for _, u := range l {
		out += u.Sum
	}
	return out
}

// TestMemory: what is handed in stays as it is, spare room too, and what comes shares none of it.
func TestMemory(t *testing.T) {
	room := uses(1, 1, 2, 2, 3, 3, 4, 4)
	before := slices.Clone(room)
	p := of(10, 5, 100)
	calls := []struct {
		name string
		call func(l []api.Use) []api.Use
	}{
		{"Recent", func(l []api.Use) []api.Use { return Recent(p, l, 5) }},
		{"Recent of some", func(l []api.Use) []api.Use { return Recent(p, l, 11) }},
		{"Add", func(l []api.Use) []api.Use { out, _ := Add(p, l, api.Use{Time: 5}); return out }},
		{"Add to some", func(l []api.Use) []api.Use { out, _ := Add(p, l, api.Use{Time: 11}); return out }},
	}
	for _, c := range calls {
		got := c.call(room[:2])
		for i := range got[:cap(got)] {
			got[:cap(got)][i] = api.Use{Time: 77, Sum: 77}
		}
		if !slices.Equal(room, before) {
			t.Fatalf("%s: %v comes of what was handed in, not %v", c.name, room, before)
		}
		again := c.call(room[:2])
		if want := c.call(slices.Clone(room[:2])); !slices.Equal(again, want) {
			t.Errorf("%s: %v comes, where there is spare room, not %v", c.name, again, want)
		}
	}
	if f := Uses(room[:2]); f != (api.Fault{}) || !slices.Equal(room, before) {
		t.Errorf("Uses: %v comes, and leaves %v", f, room)
	}
}
