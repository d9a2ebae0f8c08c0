package plates

import (
	"pippin/api"
	"pippin/judges"
)

// between reports whether a number is from a least one to a greatest one.
func between(number, least, greatest int) bool {
	return least <= number && number <= greatest
}

// within reports whether a number is one of so many things that are counted from 0.
func within(number, many int) bool {
	return 0 <= number && number < many
}

// check returns the first of the errors of a case.
func check(x api.PlateCase) api.Errno {
	if e := judges.Check(x.Show); e != api.OK {
		return e
	}
	if !between(x.Off, 0, api.MaxPlateOff) || !between(x.Slack, 0, api.MaxPlateSlack) || !between(x.Changes, 0, api.MaxPlateChanges) {
		return api.ErrPlate
	}
	return api.OK
}

func hasPlate(x api.PlateCase, plate int) bool {
	return within(plate, len(x.Show.Plates))
}

func hasJudge(x api.PlateCase, judge int) bool {
	return within(judge, x.Show.Judges)
}
