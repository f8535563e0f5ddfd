package locks_test

import (
	"math/rand"
	"testing"

	"bureau/api"
	"bureau/locks"
)

// takeByHand is what the chapter's words say of a connection that takes a lock.
func takeByHand(h held, c int, lock api.Lock) (held, api.Errno) {
	if h[c] >= lock {
		return h, api.OK
	}
	for other, its := range h {
		if other != c && !beside[lock][its] {
			return h, api.ErrBusy
		}
	}
	h[c] = lock
	return h, api.OK
}

func dropByHand(h held, c int, lock api.Lock) held {
	if h[c] > lock {
		h[c] = lock
	}
	return h
}

// mayBe fails the test where two connections hold what one alone may hold.
func mayBe(t *testing.T, h held) {
	t.Helper()
	var count [4]int
	for _, lock := range h {
		count[lock]++
	}
	if count[reserved]+count[exclusive] > 1 || count[exclusive] == 1 && count[none] != api.MaxConns-1 {
		t.Fatalf("held at a time: %v", h)
	}
}

// What can be held at a time is met as a whole: each call is made on a copy of each table that can be.
func TestP83AllTables(t *testing.T) {
	seen := map[held]bool{{}: true}
	left := []*locks.Table{locks.New()}
	meet := func(l *locks.Table, wanted held) {
		holds(t, "behind a call", l, wanted)
		mayBe(t, told(l))
		if !seen[wanted] {
			seen[wanted] = true
			left = append(left, l)
		}
	}
	for len(left) > 0 {
		l := left[0]
		left = left[1:]
		was := told(l)
		for c := range api.MaxConns {
			for _, lock := range allLocks() {
				after, e := takeByHand(was, c, lock)
				taken := l.Copy()
				want(t, "take", taken.Take(c, lock), e)
				meet(taken, after)
				dropped := l.Copy()
				want(t, "drop", dropped.Drop(c, lock), api.OK)
				meet(dropped, dropByHand(was, c, lock))
			}
		}
		holds(t, "behind its copies", l, was)
	}
	readers := 1 << api.MaxConns
	oneMore := api.MaxConns << (api.MaxConns - 1)
	if wanted := readers + oneMore + api.MaxConns; len(seen) != wanted {
		t.Errorf("%d tables can be, wanted %d", len(seen), wanted)
	}
}

// anyConn is a connection, now and then one that is none.
func anyConn(r *rand.Rand) int {
	if r.Intn(12) == 0 {
		return wrongConns()[r.Intn(len(wrongConns()))]
	}
	return r.Intn(api.MaxConns)
}

func anyLock(r *rand.Rand) api.Lock {
	if r.Intn(12) == 0 {
		return wrongLocks()[r.Intn(len(wrongLocks()))]
	}
	return allLocks()[r.Intn(4)]
}

// isNone says whether the connection or the lock is none.
func isNone(c int, lock api.Lock) bool {
	return c < 0 || c > 7 || lock < 0 || lock > 3
}

func TestP83ManyCalls(t *testing.T) {
	r := rand.New(rand.NewSource(83))
	l, now := locks.New(), held{}
	kept, then := l.Copy(), now
	met := map[api.Errno]int{}
	for range 60000 {
		c, lock := anyConn(r), anyLock(r)
		var wanted api.Errno
		switch r.Intn(10) {
		case 0, 1, 2, 3, 4, 5:
			if isNone(c, lock) {
				wanted = api.ErrArg
			} else {
				now, wanted = takeByHand(now, c, lock)
			}
			want(t, "take", l.Take(c, lock), wanted)
		case 6, 7, 8:
			if isNone(c, lock) {
				wanted = api.ErrArg
			} else {
				now = dropByHand(now, c, lock)
			}
			want(t, "drop", l.Drop(c, lock), wanted)
		default:
			if r.Intn(2) == 0 {
				kept, then = l.Copy(), now
			} else {
				l, kept, now, then = kept, l, then, now
			}
		}
		met[wanted]++
		holds(t, "now", l, now)
		holds(t, "kept", kept, then)
		mayBe(t, told(l))
	}
	for _, e := range []api.Errno{api.OK, api.ErrArg, api.ErrBusy} {
		if met[e] < 1000 {
			t.Errorf("%v was met %d times alone", e, met[e])
		}
	}
}

func TestP83AllDropped(t *testing.T) {
	for _, was := range []held{{}, {3: exclusive}, {0: shared, 1: reserved, 7: shared}, {0: shared, 1: shared, 2: shared, 3: shared, 4: shared, 5: shared, 6: reserved, 7: shared}} {
		for c := range api.MaxConns {
			for _, lock := range allLocks() {
				l := table(t, was)
				for other := range api.MaxConns {
					want(t, "drop", l.Drop(other, none), api.OK)
				}
				holds(t, "all dropped", l, held{})
				want(t, "take", l.Take(c, lock), api.OK)
				if l.Has(c) != lock {
					t.Errorf("%d has %d", c, l.Has(c))
				}
			}
		}
	}
}
