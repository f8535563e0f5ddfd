package check

import "bureau/api"

// must gives up where pages are not as they should be; look alone recovers it.
func must(holds bool) {
	if !holds {
		panic(api.ErrBad)
	}
}

// look does something with pages none of which was met yet, and tells whether it was given up.
func look(pages []api.Page, does func(d database)) (e api.Errno) {
	defer func() {
		switch given := recover().(type) {
		case nil:
		case api.Errno:
			e = given
		default:
			panic(given)
		}
	}()
	does(database{pages, map[int]use{}})
	return api.OK
}
