package store

import (
	"slices"

	"bureau/api"
)

// Save makes a savepoint more, and tells its number.
func (t *Tx) Save() (int, api.Errno) {
	return tell(t.goesOn, func() (int, api.Errno) {
		t.saves = append(t.saves, t.now.clone())
		return len(t.saves), api.OK
	})
}

// Back has it what it had at a savepoint, which stays; the later ones go.
func (t *Tx) Back(save int) api.Errno {
	return do(t.goesOn, func() api.Errno {
		if !t.hasSave(save) {
			return api.ErrNone
		}
		t.now = t.saves[save-1].clone()
		t.forget(save)
		return api.OK
	})
}

// Release lets a savepoint go, and the later ones.
func (t *Tx) Release(save int) api.Errno {
	return do(t.goesOn, func() api.Errno {
		if !t.hasSave(save) {
			return api.ErrNone
		}
		t.forget(save - 1)
		return api.OK
	})
}

func (t *Tx) hasSave(save int) bool { return save >= 1 && save <= len(t.saves) }

// forget leaves so many savepoints.
func (t *Tx) forget(left int) { t.saves = slices.Delete(t.saves, left, len(t.saves)) }
