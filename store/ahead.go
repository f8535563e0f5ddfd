package store

import "bureau/api"

// ahead is what must hold ahead of a call: the error that stands in its way. Every call is handed one, so that no call forgets what it may not do, and all tell their errors in the same order.
type ahead func() api.Errno

// do makes a call that tells an error alone, if what must hold ahead of it does.
func do(holds ahead, call func() api.Errno) api.Errno {
	if e := holds(); e != api.OK {
		return e
	}
	return call()
}

// tell makes a call that tells something, if what must hold ahead of it does; else it tells nothing.
func tell[T any](holds ahead, call func() (T, api.Errno)) (T, api.Errno) {
	if e := holds(); e != api.OK {
		var nothing T
		return nothing, e
	}
	return call()
}

func (s *Store) there() bool { return s != nil && s.face != nil }

// goesOn is what must hold ahead of all calls of a store.
func (s *Store) goesOn() api.Errno {
	if !s.there() {
		return api.ErrNil
	}
	if s.over() {
		return api.ErrOver
	}
	return api.OK
}

func (t *Tx) there() bool { return t != nil && t.face != nil }

// goesOn is what must hold ahead of all calls of a transaction.
func (t *Tx) goesOn() api.Errno {
	if !t.there() {
		return api.ErrNil
	}
	if t.Over() {
		return api.ErrOver
	}
	return api.OK
}

// mayChange is what must hold ahead of the calls that change pages.
func (t *Tx) mayChange() api.Errno {
	return do(t.goesOn, func() api.Errno {
		if !t.writes {
			return api.ErrRead
		}
		return api.OK
	})
}
