package plates

import "pippin/api"

// table has a valid case.
type table struct {
	api.PlateCase
}

// enter returns the table of a valid case.
func enter(x api.PlateCase) (table, api.Errno) {
	if e := check(x); e != api.OK {
		return table{}, e
	}
	return table{x}, api.OK
}

// tell returns the accounts of all truths of a valid case, if what is asked for is there.
func tell(x api.PlateCase, there bool) (accounts, api.Errno) {
	t, e := enter(x)
	if e != api.OK {
		return nil, e
	}
	if !there {
		return nil, api.ErrArg
	}
	fewest, found := t.fewest()
	if !found || fewest > t.Changes {
		return nil, api.ErrNone
	}
	return t.accounts(fewest), api.OK
}

// fits reports whether the points fit without changed plates.
func (t table) fits() bool {
	_, fits := t.fit(changes{})
	return fits
}

// slackest returns the least slack with which they do, if there is one.
func (t table) slackest() (int, bool) {
	for slack := range api.MaxPlateSlack + 1 {
		t.Slack = slack
		if t.fits() {
			return slack, true
		}
	}
	return 0, false
}

// fewest returns the least number of changed plates with which the points fit, if it is not more than there can be.
func (t table) fewest() (int, bool) {
	for many := range api.MaxPlateChanges + 1 {
		for c := range t.lists(many) {
			if _, fits := t.fit(c); fits {
				return many, true
			}
		}
	}
	return 0, false
}

// accounts returns the accounts of all tastings with so many changed plates in which the points fit.
func (t table) accounts(many int) accounts {
	var all accounts
	for c := range t.lists(many) {
		if b, fits := t.fit(c); fits {
			all = append(all, account{c, b})
		}
	}
	return all
}
