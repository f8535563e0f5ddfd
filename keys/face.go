package keys

import (
	"bureau/api"
	"bureau/record"
	"bureau/space"
	"bureau/store"
)

// giveUp ends what is being done with an error; attempt alone recovers it.
func giveUp(e api.Errno) { panic(e) }

// must gives up where bytes are none of a tree's.
func must(holds bool) {
	if !holds {
		giveUp(api.ErrBad)
	}
}

// mustBe gives up where a call of a layer below was refused.
func mustBe(e api.Errno) {
	if e != api.OK {
		giveUp(e)
	}
}

// attempt does something with a transaction's pages, none of which was met yet, and tells with which error it was given up.
func attempt(t *store.Tx, order against, does func(p pages)) (e api.Errno) {
	defer func() {
		switch given := recover().(type) {
		case nil:
		case api.Errno:
			e = given
		default:
			panic(given)
		}
	}()
	does(pages{t, order, map[int]struct{}{}})
	return api.OK
}

// look does what only reads.
func look(t *store.Tx, order against, key []api.Value, does func(p pages)) api.Errno {
	if e := refusal(t, false, key); e != api.OK {
		return e
	}
	return attempt(t, order, does)
}

// change does what changes the tree, all of it or nothing: a savepoint takes back what was given up in the midst.
func change(t *store.Tx, order against, key []api.Value, does func(p pages)) api.Errno {
	if e := refusal(t, true, key); e != api.OK {
		return e
	}
	save, e := t.Save()
	if e != api.OK {
		return e
	}
	defer t.Release(save)
	if e := attempt(t, order, does); e != api.OK {
		t.Back(save)
		return e
	}
	return api.OK
}

// refusal is why a call is refused whatever the tree is: by the transaction, which must write if the call changes something, then by the key, if it has one. That the database is not laid is told behind all else.
func refusal(t *store.Tx, changes bool, key []api.Value) api.Errno {
	laid := space.Laid(t)
	if laid == api.ErrNil || laid == api.ErrOver {
		return laid
	}
	if changes && !t.Writes() {
		return api.ErrRead
	}
	if _, e := record.Encode(key); e != api.OK {
		return e
	}
	return laid
}
