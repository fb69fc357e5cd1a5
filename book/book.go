// Package book keeps accounts: see doc/01-book.md.
package book

import (
	"slices"

	"paystone/api"
)

const (
	accounts   = api.Shops + api.MaxShops // account numbers are below this
	maxEntries = 10                       // that are posted at once
)

// Wrong tells the first thing that keeps l from being a book, and at which entry.
func Wrong(l []api.Entry) api.Fault {
	// The total can't overflow: accounts that rise are fewer than accounts.
	total := 0
	for i, e := range l {
		if !inRange(e) {
			return api.Fault{Err: api.ErrRange, At: i}
		}
		if e.Sum == 0 || i > 0 && l[i-1].Account >= e.Account {
			return api.Fault{Err: api.ErrForm, At: i}
		}
		total += e.Sum
	}
	if total != 0 {
		return api.Fault{Err: api.ErrFit}
	}
	return api.Fault{}
}

// Get answers what the account has: 0, if l has no entry of it.
func Get(l []api.Entry, account int) int {
	i := slices.IndexFunc(l, func(e api.Entry) bool { return e.Account == account })
	if i < 0 {
		return 0
	}
	return l[i].Sum
}

// Post answers the book l with the entries added to it, one behind the other.
func Post(l, entries []api.Entry) ([]api.Entry, api.Errno) {
	if f := Wrong(l); f.Err != api.OK {
		return nil, f.Err
	}
	if err := wrongEntries(entries); err != api.OK {
		return nil, err
	}
	add, listed := ledger()
	for _, e := range l {
		add(e)
	}
	for _, e := range entries {
		if !add(e) {
			return nil, api.ErrMuch
		}
	}
	return listed(), api.OK
}

// Move answers the book l with sum moved from one account to another.
func Move(l []api.Entry, from, to, sum int) ([]api.Entry, api.Errno) {
	if sum < 0 || sum > api.MaxTotal {
		return nil, api.ErrRange
	}
	return Post(l, []api.Entry{{Account: from, Sum: -sum}, {Account: to, Sum: sum}})
}

// wrongEntries tells what is wrong with entries that are to be posted; unlike a book's they may repeat accounts, in any order, and have sums of 0.
func wrongEntries(entries []api.Entry) api.Errno {
	if len(entries) > maxEntries {
		return api.ErrMany
	}
	total := 0
	for _, e := range entries {
		if !inRange(e) {
			return api.ErrRange
		}
		total += e.Sum
	}
	if total != 0 {
		return api.ErrFit
	}
	return api.OK
}

// ledger opens accounts that have nothing. What they come to have is seen by its two functions alone: add, for entries in range, tells whether the account still has no more than it may; listed answers the book of them.
func ledger() (add func(api.Entry) bool, listed func() []api.Entry) {
	var sums [accounts]int
	add = func(e api.Entry) bool {
		sums[e.Account] += e.Sum
		return inTotal(sums[e.Account])
	}
	listed = func() []api.Entry {
		var out []api.Entry
		for account, sum := range sums {
			if sum != 0 {
				out = append(out, api.Entry{Account: account, Sum: sum})
			}
		}
		return out
	}
	return add, listed
}

func inRange(e api.Entry) bool {
	return e.Account >= 0 && e.Account < accounts && inTotal(e.Sum)
}

func inTotal(sum int) bool {
	return sum >= -api.MaxTotal && sum <= api.MaxTotal
}
