package tree

import (
	"bureau/api"
	"bureau/space"
	"bureau/store"
)

// giveUp ends what is being done with an error; attempt alone recovers it.
func giveUp(e api.Errno) { panic(e) }

// must gives up where bytes are none of a tree's.
func must(holds bool) {
	if !holds {
		giveUp(api.ErrBad)
	}
}

// mustBe gives up where a call of a layer below was refused.
func mustBe(e api.Errno) {
	if e != api.OK {
		giveUp(e)
	}
}

// attempt does something, and tells with which error it was given up.
func attempt(does func()) (e api.Errno) {
	defer func() {
		switch given := recover().(type) {
		case nil:
		case api.Errno:
			e = given
		default:
			panic(given)
		}
	}()
	does()
	return api.OK
}

// look does what only reads.
func look(t *store.Tx, does func(p pages)) api.Errno {
	if e := space.Laid(t); e != api.OK {
		return e
	}
	return attempt(func() { does(pages{t}) })
}

// change does what changes the tree, all of it or nothing: a savepoint takes back what was given up in the midst.
func change(t *store.Tx, data string, does func(p pages)) api.Errno {
	if e := mayChange(t, data); e != api.OK {
		return e
	}
	save, e := t.Save()
	if e != api.OK {
		return e
	}
	defer t.Release(save)
	if e := attempt(func() { does(pages{t}) }); e != api.OK {
		t.Back(save)
		return e
	}
	return api.OK
}

// mayChange is why a tree may not be changed, by data that are put if there are any. That the database is not laid is told behind all else.
func mayChange(t *store.Tx, data string) api.Errno {
	laid := space.Laid(t)
	switch {
	case laid == api.ErrNil || laid == api.ErrOver:
		return laid
	case !t.Writes():
		return api.ErrRead
	case len(data) > api.MaxRecord:
		return api.ErrLong
	}
	return laid
}
