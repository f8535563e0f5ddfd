package locks_test

import (
	"slices"
	"testing"

	"bureau/api"
	"bureau/locks"
)

func TestP82Has(t *testing.T) {
	l := table(t, held{0: shared, 3: reserved, 7: shared})
	for c, wanted := range []api.Lock{shared, none, none, reserved, none, none, none, shared} {
		if got := l.Has(c); got != wanted {
			t.Errorf("%d has %d, wanted %d", c, got, wanted)
		}
	}
	for _, lone := range []int{0, 7} {
		was := held{}
		was[lone] = exclusive
		l = table(t, was)
		for _, c := range wrongConns() {
			if got := l.Has(c); got != none {
				t.Errorf("%d, which is none, has %d", c, got)
			}
		}
	}
	for _, l := range noTables() {
		for _, c := range append(wrongConns(), 0, 1, 7) {
			if got := l.Has(c); got != none {
				t.Errorf("no table: %d has %d", c, got)
			}
		}
	}
}

func TestP82Holders(t *testing.T) {
	all := []int{0, 1, 2, 3, 4, 5, 6, 7}
	for _, x := range []struct {
		held held
		who  [4][]int
	}{
		{held{}, [4][]int{all, nil, nil, nil}},
		{held{0: shared, 3: reserved, 7: shared}, [4][]int{all, {0, 3, 7}, {3}, nil}},
		{held{0: exclusive}, [4][]int{all, {0}, {0}, {0}}},
		{held{7: exclusive}, [4][]int{all, {7}, {7}, {7}}},
		{held{7: reserved}, [4][]int{all, {7}, {7}, nil}},
		{held{0: shared, 1: shared, 2: shared, 3: shared, 4: shared, 5: shared, 6: shared, 7: reserved}, [4][]int{all, all, {7}, nil}},
	} {
		l := table(t, x.held)
		for lock, who := range x.who {
			if got := l.Holders(api.Lock(lock)); !slices.Equal(got, who) {
				t.Errorf("%v: holders of %d: %v, wanted %v", x.held, lock, got, who)
			}
		}
		for _, lock := range wrongLocks() {
			if got := l.Holders(lock); len(got) != 0 {
				t.Errorf("%v: holders of %d, which is none: %v", x.held, lock, got)
			}
		}
	}
	for _, l := range noTables() {
		for _, lock := range append(wrongLocks(), allLocks()...) {
			if got := l.Holders(lock); len(got) != 0 {
				t.Errorf("no table: holders of %d: %v", lock, got)
			}
		}
	}
}

// spoil writes over a list and the spare room behind it.
func spoil(list []int) {
	for i := range list[:cap(list)] {
		list[:cap(list)][i] = -9
	}
}

func TestP82HoldersAreTheCallers(t *testing.T) {
	was := held{1: shared, 2: shared, 5: reserved}
	l := table(t, was)
	for _, lock := range allLocks() {
		kept := l.Holders(lock)
		same := slices.Clone(kept)
		spoil(l.Holders(lock))
		if !slices.Equal(kept, same) {
			t.Errorf("an answer of %d has changed: %v", lock, kept)
		}
		holds(t, "spoilt", l, was)
	}
	kept := l.Holders(shared)
	want(t, "drop", l.Drop(1, none), api.OK)
	if !slices.Equal(kept, []int{1, 2, 5}) {
		t.Errorf("an older answer has changed: %v", kept)
	}
}

func TestP82Copy(t *testing.T) {
	was := held{0: shared, 4: reserved, 7: shared}
	l := table(t, was)
	other := l.Copy()
	if other == nil || other == l {
		t.Fatal("no other table")
	}
	holds(t, "the copy", other, was)
	want(t, "0 away", l.Drop(0, none), api.OK)
	want(t, "7 away", l.Drop(7, none), api.OK)
	want(t, "4 alone", l.Take(4, exclusive), api.OK)
	holds(t, "the copy", other, was)
	want(t, "the copy refuses", other.Take(4, exclusive), api.ErrBusy)
	want(t, "the copy gives", other.Take(6, shared), api.OK)
	want(t, "the copy drops", other.Drop(4, none), api.OK)
	holds(t, "the first one", l, held{4: exclusive})
	holds(t, "the copy", other, held{0: shared, 6: shared, 7: shared})
	third := other.Copy()
	want(t, "the copy's copy", third.Take(6, reserved), api.OK)
	holds(t, "the copy", other, held{0: shared, 6: shared, 7: shared})
	holds(t, "the copy's copy", third, held{0: shared, 6: reserved, 7: shared})
	holds(t, "a new one's copy", locks.New().Copy(), held{})
}

func TestP82CopyOfNone(t *testing.T) {
	for _, l := range noTables() {
		if l.Copy() != nil {
			t.Error("no table has a copy")
		}
		want(t, "its copy", l.Copy().Take(0, none), api.ErrNil)
	}
}
