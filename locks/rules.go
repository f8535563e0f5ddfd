package locks

import "bureau/api"

// there says whether a call of this package made the table.
func (t *Table) there() bool { return t != nil && t.made }

func isConn(c int) bool { return c >= 0 && c < api.MaxConns }

func isLock(l api.Lock) bool { return l >= api.LockNone && l <= api.LockExclusive }

// asked is the error of a call that asks for what may not be.
func (t *Table) asked(c int, l api.Lock) api.Errno {
	if !t.there() {
		return api.ErrNil
	}
	if !isConn(c) || !isLock(l) {
		return api.ErrArg
	}
	return api.OK
}

// free says whether c can take the lock. What stands in the way of a lock stands in the way of each greater one, too, so a case goes on with those below it.
func (t *Table) free(c int, l api.Lock) bool {
	another := func(holds api.Lock) bool {
		for i, h := range t.held {
			if i != c && h == holds {
				return true
			}
		}
		return false
	}
	switch l {
	case api.LockExclusive:
		if another(api.LockShared) {
			return false
		}
		fallthrough
	case api.LockReserved:
		if another(api.LockReserved) {
			return false
		}
		fallthrough
	case api.LockShared:
		if another(api.LockExclusive) {
			return false
		}
	}
	return true
}
