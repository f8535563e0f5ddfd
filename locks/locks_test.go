package locks_test

import (
	"math"
	"slices"
	"testing"

	"bureau/api"
	"bureau/locks"
)

const (
	none      = api.LockNone
	shared    = api.LockShared
	reserved  = api.LockReserved
	exclusive = api.LockExclusive
)

// held is what each connection holds.
type held [api.MaxConns]api.Lock

func allLocks() []api.Lock { return []api.Lock{none, shared, reserved, exclusive} }

func wrongConns() []int {
	return []int{math.MinInt, math.MinInt32, -8, -1, api.MaxConns, api.MaxConns + 1, 256, 1 << 32, math.MaxInt}
}

func wrongLocks() []api.Lock {
	return []api.Lock{math.MinInt, -256, -1, exclusive + 1, 5, 256, 1<<32 + 1, math.MaxInt}
}

// noTables is what stands for a table that is not there.
func noTables() []*locks.Table { return []*locks.Table{nil, {}} }

// told is what the table says of each connection.
func told(l *locks.Table) held {
	var h held
	for c := range h {
		h[c] = l.Has(c)
	}
	return h
}

func want(t *testing.T, what string, got, wanted api.Errno) {
	t.Helper()
	if got != wanted {
		t.Fatalf("%s: %v, wanted %v", what, got, wanted)
	}
}

// holds fails the test unless the table says just that, by Has and by Holders.
func holds(t *testing.T, what string, l *locks.Table, wanted held) {
	t.Helper()
	if got := told(l); got != wanted {
		t.Fatalf("%s: held %v, wanted %v", what, got, wanted)
	}
	for _, lock := range allLocks() {
		var who []int
		for c := range wanted {
			if wanted[c] >= lock {
				who = append(who, c)
			}
		}
		if got := l.Holders(lock); !slices.Equal(got, who) {
			t.Fatalf("%s: holders of %d: %v, wanted %v", what, lock, got, who)
		}
	}
}

// table is one in which that is held.
func table(t *testing.T, h held) *locks.Table {
	t.Helper()
	l := locks.New()
	for c, lock := range h {
		want(t, "a table's beginning", l.Take(c, lock), api.OK)
	}
	holds(t, "a table's beginning", l, h)
	return l
}

func TestP81New(t *testing.T) {
	l := locks.New()
	if l == nil {
		t.Fatal("no table")
	}
	holds(t, "new", l, held{})
	want(t, "take", l.Take(7, exclusive), api.OK)
	other := locks.New()
	holds(t, "another new one", other, held{})
	holds(t, "the first one", l, held{7: exclusive})
}

func TestP81Examples(t *testing.T) {
	l := locks.New()
	want(t, "0 shared", l.Take(0, shared), api.OK)
	want(t, "1 shared", l.Take(1, shared), api.OK)
	want(t, "1 reserved", l.Take(1, reserved), api.OK)
	want(t, "0 reserved", l.Take(0, reserved), api.ErrBusy)
	want(t, "1 exclusive", l.Take(1, exclusive), api.ErrBusy)
	want(t, "0 dropped", l.Drop(0, none), api.OK)
	want(t, "1 exclusive", l.Take(1, exclusive), api.OK)
	want(t, "0 shared", l.Take(0, shared), api.ErrBusy)
	want(t, "8", l.Take(8, shared), api.ErrArg)
	want(t, "the lock 4", l.Take(0, 4), api.ErrArg)
	holds(t, "at the end", l, held{1: exclusive})
}

// beside says by hand which lock (the row) can be taken beside which lock of another one (the column).
var beside = [4][4]bool{
	{true, true, true, true},
	{true, true, true, false},
	{true, true, false, false},
	{true, false, false, false},
}

func TestP81Beside(t *testing.T) {
	for c := range api.MaxConns {
		for other := range api.MaxConns {
			if c == other {
				continue
			}
			for _, its := range allLocks() {
				for _, lock := range allLocks() {
					was := held{}
					was[other] = its
					l := table(t, was)
					if !beside[lock][its] {
						want(t, "beside", l.Take(c, lock), api.ErrBusy)
						holds(t, "refused", l, was)
						continue
					}
					want(t, "beside", l.Take(c, lock), api.OK)
					was[c] = lock
					holds(t, "taken", l, was)
				}
			}
		}
	}
}

func TestP81BesideSeveral(t *testing.T) {
	was := held{0: shared, 2: reserved, 7: shared}
	l := table(t, was)
	for c := range api.MaxConns {
		if c != 2 {
			want(t, "a second one reserved", l.Take(c, reserved), api.ErrBusy)
		}
		want(t, "exclusive beside others", l.Take(c, exclusive), api.ErrBusy)
	}
	holds(t, "refused", l, was)
	want(t, "0 away", l.Drop(0, none), api.OK)
	want(t, "7 is there still", l.Take(2, exclusive), api.ErrBusy)
	want(t, "7 away", l.Drop(7, none), api.OK)
	want(t, "alone", l.Take(2, exclusive), api.OK)
	holds(t, "alone", l, held{2: exclusive})
	want(t, "less again", l.Drop(2, reserved), api.OK)
	want(t, "7 reads", l.Take(7, shared), api.OK)
	holds(t, "less again", l, held{2: reserved, 7: shared})
}

// A connection's own lock never stands in its way, and it need not go from one lock to the next.
func TestP81Own(t *testing.T) {
	for c := range api.MaxConns {
		for _, first := range allLocks() {
			for _, second := range allLocks() {
				was := held{}
				was[c] = first
				l := table(t, was)
				want(t, "its own", l.Take(c, second), api.OK)
				was[c] = max(first, second)
				holds(t, "its own", l, was)
			}
		}
	}
	was := held{1: reserved, 3: shared, 4: shared}
	l := table(t, was)
	for _, lock := range []api.Lock{none, shared, reserved} {
		want(t, "held already", l.Take(1, lock), api.OK)
	}
	want(t, "held already", l.Take(3, none), api.OK)
	want(t, "held already", l.Take(4, shared), api.OK)
	holds(t, "held already", l, was)
}

func TestP81Drop(t *testing.T) {
	for c := range api.MaxConns {
		for _, first := range allLocks() {
			for _, second := range allLocks() {
				was := held{}
				was[c] = first
				l := table(t, was)
				want(t, "drop", l.Drop(c, second), api.OK)
				was[c] = min(first, second)
				holds(t, "drop", l, was)
			}
		}
	}
	l := table(t, held{0: shared, 5: reserved, 6: shared})
	want(t, "to more than is held", l.Drop(0, exclusive), api.OK)
	want(t, "to more than is held", l.Drop(1, reserved), api.OK)
	want(t, "to more than is held", l.Drop(5, exclusive), api.OK)
	want(t, "to what is held", l.Drop(6, shared), api.OK)
	holds(t, "nothing to drop", l, held{0: shared, 5: reserved, 6: shared})
	want(t, "to shared", l.Drop(5, shared), api.OK)
	want(t, "none", l.Drop(0, none), api.OK)
	holds(t, "dropped", l, held{5: shared, 6: shared})
}

func TestP81NoTable(t *testing.T) {
	for _, l := range noTables() {
		for _, c := range append(wrongConns(), 0, 1, 7) {
			for _, lock := range append(wrongLocks(), allLocks()...) {
				want(t, "no table: Take", l.Take(c, lock), api.ErrNil)
				want(t, "no table: Drop", l.Drop(c, lock), api.ErrNil)
			}
		}
		if told(l) != (held{}) {
			t.Error("a lock is held in no table")
		}
	}
}

// What may not be is told ahead of a lock that is held already, and of one that cannot be taken.
func TestP81Wrong(t *testing.T) {
	for _, was := range []held{{}, {0: shared, 7: reserved}, {7: exclusive}, {0: exclusive}} {
		l := table(t, was)
		for _, c := range wrongConns() {
			for _, lock := range append(wrongLocks(), allLocks()...) {
				want(t, "no connection: Take", l.Take(c, lock), api.ErrArg)
				want(t, "no connection: Drop", l.Drop(c, lock), api.ErrArg)
			}
		}
		for c := range api.MaxConns {
			for _, lock := range wrongLocks() {
				want(t, "no lock: Take", l.Take(c, lock), api.ErrArg)
				want(t, "no lock: Drop", l.Drop(c, lock), api.ErrArg)
			}
		}
		holds(t, "refused", l, was)
	}
}
