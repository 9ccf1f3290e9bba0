package level

import (
	"slices"

	"yardarm/api"
)

// alike tells whether the rows are assignments, and of one length.
func alike(rows ...[]int) api.Errno {
	err := api.OK
check:
	for _, row := range rows {
		if len(row) != len(rows[0]) {
			// What is no assignment goes ahead of that, so the check goes on.
			err = api.ErrArg
		}
		for _, l := range row {
			if no := Check(l); no != api.OK {
				err = no
				break check
			}
		}
	}
	return err
}

// through tells of each place what pick makes of the levels there, of one row behind the other; there is one row at least.
func through(pick func(x, y int) int, rows ...[]int) ([]int, api.Errno) {
	if err := alike(rows...); err != api.OK {
		return nil, err
	}
	picked := slices.Clone(rows[0])
	for _, row := range rows[1:] {
		for at, l := range row {
			picked[at] = pick(picked[at], l)
		}
	}
	return picked, api.OK
}
