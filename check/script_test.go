package check_test

import (
	"bytes"
	"math/rand"
	"slices"
	"strings"
	"testing"

	"bureau/api"
	"bureau/check"
	"bureau/disk"
	"bureau/keys"
	"bureau/space"
	"bureau/spill"
	"bureau/store"
	"bureau/tree"
)

// desk makes calls of layers 10 to 13, and knows which trees there are.
type desk struct {
	t         *testing.T
	r         *rand.Rand
	d         *disk.Disk
	store     *store.Store
	tx        *store.Tx
	trees     []api.Root // (never changed in place, so that what was kept of them stays)
	committed []api.Root
	saves     [][]api.Root
	grows     int            // of ten changes so many put something
	met       map[string]int // how often there was what
}

// opens opens the disk, by either way, and begins to write.
func (d *desk) opens() {
	d.t.Helper()
	s, e := store.Open(d.d, d.r.Intn(2) == 0)
	if e == api.ErrFull { // the log has no room to come home
		s, e = store.Open(d.d, true)
	}
	want(d.t, "Open", e)
	d.store = s
	d.begins()
}

func (d *desk) begins() {
	d.t.Helper()
	tx, e := d.store.Begin(d.r.Intn(api.MaxConns))
	want(d.t, "Begin", e)
	want(d.t, "Write", tx.Write())
	d.tx, d.saves = tx, nil
}

// newDesk is a desk with a laid database.
func newDesk(t *testing.T, seed int, room int) *desk {
	t.Helper()
	d := &desk{t: t, r: rand.New(rand.NewSource(int64(seed))), d: disk.New(room), met: map[string]int{}}
	d.opens()
	want(t, "Lay", space.Lay(d.tx))
	want(t, "Commit", d.tx.Commit())
	d.begins()
	return d
}

// anyOrder is orders of which no two trees of a desk need be the same.
func (d *desk) anyOrder() []api.Order {
	order := make([]api.Order, d.r.Intn(4))
	for i := range order {
		order[i] = api.Order{Coll: api.Coll(d.r.Intn(4)), Desc: d.r.Intn(2) == 0}
	}
	return order
}

// anyLength is a length of a payload, now and then a great one.
func (d *desk) anyLength() int {
	switch d.r.Intn(40) {
	case 0:
		return d.r.Intn(api.MaxRecord + 1)
	case 1:
		return []int{39, 40, 41, 280, 281, 520, 521, api.MaxRecord}[d.r.Intn(8)]
	case 2, 3, 4, 5:
		return d.r.Intn(400)
	}
	return d.r.Intn(30)
}

// anyKey is a key, many of which are the same by one collation or other.
func (d *desk) anyKey() []api.Value {
	var k []api.Value
	for range d.r.Intn(4) {
		text := strings.Repeat("m", max(0, d.r.Intn(90)-50)) + []string{"", "a", "A", "a ", "b", "B  "}[d.r.Intn(6)]
		k = append(k, []api.Value{{}, key(d.r.Intn(60) - 30)[0], key(d.r.Intn(9) << 40)[0], key(text)[0], key([]byte(text))[0]}[d.r.Intn(5)])
	}
	if n := d.anyLength(); n > 30 {
		k = append(k[:len(k):len(k)], key(bytes.Repeat([]byte("l"), min(n, api.MaxValue)))[0])
	}
	return k
}

// room is how many pages can be taken.
func (d *desk) room() int {
	free, _ := space.Free(d.tx)
	return len(free) + api.MaxPages - d.tx.Count()
}

// did ends the test unless a call was answered OK, or with an error that is told; with ErrFull only where there may be no room for so many pages.
func (d *desk) did(what string, e api.Errno, room, need int, others ...api.Errno) {
	d.t.Helper()
	if e == api.ErrFull && room < need {
		d.met["no room"]++
		return
	}
	if e != api.OK && !slices.Contains(others, e) {
		d.t.Fatalf("%s: %v", what, e)
	}
}

// changes puts something into a tree, or takes something out of it.
func (d *desk) changes(r api.Root) {
	d.t.Helper()
	puts, room, n := d.r.Intn(10) < d.grows, d.room(), int64(d.r.Intn(90)-45)<<d.r.Intn(3)
	switch {
	case !r.Keys && puts:
		data := dataOf(d.anyLength(), d.r.Intn(9))
		_, e := tree.Put(d.tx, r.Page, n, data)
		d.did("Put", e, room, pagesFor(len(data))+9)
	case !r.Keys:
		if row, e := tree.Seek(d.tx, r.Page, n); e == api.OK {
			n = row.Key
		}
		d.did("Delete", tree.Delete(d.tx, r.Page, n), room, 9, api.ErrNone)
	case puts:
		d.did("Insert", keys.Insert(d.tx, r.Page, r.Order, d.anyKey()), room, 9*17, api.ErrThere)
	default:
		k := d.anyKey()
		rows, e := keys.From(d.tx, r.Page, r.Order, k)
		want(d.t, "From", e)
		for row := range rows {
			k = row
			break
		}
		d.did("Delete", keys.Delete(d.tx, r.Page, r.Order, k), room, 9*17, api.ErrNone)
	}
}

// plants makes a tree more.
func (d *desk) plants() {
	d.t.Helper()
	r, e, room := api.Root{Keys: d.r.Intn(2) == 0}, api.OK, d.room()
	if r.Keys {
		r.Order = d.anyOrder()
		r.Page, e = keys.New(d.tx)
	} else {
		r.Page, e = tree.New(d.tx)
	}
	d.did("New", e, room, 1)
	if e == api.OK {
		d.trees = append(slices.Clone(d.trees), r)
	}
}

// fells takes all out of a tree, or the tree away.
func (d *desk) fells(i int) {
	d.t.Helper()
	r, drops := d.trees[i], d.r.Intn(2) == 0
	does := map[bool]func(t *store.Tx, root int) api.Errno{false: tree.Clear, true: keys.Clear}
	if drops {
		does = map[bool]func(t *store.Tx, root int) api.Errno{false: tree.Drop, true: keys.Drop}
		d.trees = slices.Delete(slices.Clone(d.trees), i, i+1)
	}
	want(d.t, "Clear or Drop", does[r.Keys](d.tx, r.Page))
}

// stray takes pages, or puts a payload, that belong to none of the trees: not before they are given back the pages are whole again.
func (d *desk) stray() {
	d.t.Helper()
	if d.r.Intn(2) == 0 {
		stub, e := spill.Put(d.tx, dataOf(d.anyLength()+41, 1))
		if e != api.ErrLong && e != api.ErrFull {
			want(d.t, "spill.Put", e)
			whole(d.t, "a payload of nobody", seen(d.t, d.tx), d.trees, api.ErrBad)
			want(d.t, "spill.Drop", spill.Drop(d.tx, stub))
		}
		return
	}
	var taken []int
	for range 1 + d.r.Intn(5) {
		n, e := space.Take(d.tx)
		if e != api.ErrFull {
			want(d.t, "Take", e)
			taken = append(taken, n)
			whole(d.t, "a page of nobody", seen(d.t, d.tx), d.trees, api.ErrBad)
		}
	}
	for _, i := range d.r.Perm(len(taken)) {
		want(d.t, "Give", space.Give(d.tx, taken[i]))
	}
}

// refused makes calls that may not be, with pages that are no roots among them.
func (d *desk) refused() {
	d.t.Helper()
	n := []int{-1, 0, 1, d.tx.Count() + 1}[d.r.Intn(4)]
	_, e := tree.Put(d.tx, n, 1, "one")
	other := keys.Insert(d.tx, n, nil, key(1))
	for _, r := range d.trees {
		if r.Keys {
			n = r.Page
			_, e = tree.Put(d.tx, n, 1, "one")
			continue
		}
		other = keys.Insert(d.tx, r.Page, nil, key(1))
		_, long := tree.Put(d.tx, r.Page, 1, dataOf(api.MaxRecord+1, 1))
		if long != api.ErrLong {
			d.t.Fatalf("Put of too much: %v", long)
		}
	}
	if e != api.ErrBad || other != api.ErrBad || space.Lay(d.tx) != api.ErrBusy || space.Give(d.tx, 1) != api.ErrArg {
		d.t.Fatalf("calls that may not be: %v, %v", e, other)
	}
}

// savepoints sets one, goes back to one, or lets one go.
func (d *desk) savepoints() {
	d.t.Helper()
	n := d.r.Intn(len(d.saves) + 1)
	switch way := d.r.Intn(3); {
	case n == 0:
		_, e := d.tx.Save()
		want(d.t, "Save", e)
		d.saves = append(d.saves, d.trees)
	case way > 0:
		want(d.t, "Back", d.tx.Back(n))
		d.saves, d.trees = d.saves[:n], d.saves[n-1]
		d.met["back"]++
	default:
		want(d.t, "Release", d.tx.Release(n))
		d.saves = d.saves[:n-1]
	}
}

// ends ends the transaction, now and then by a crash.
func (d *desk) ends() {
	d.t.Helper()
	switch d.r.Intn(6) {
	case 0:
		want(d.t, "Rollback", d.tx.Rollback())
		d.trees = d.committed
		d.met["rollback"]++
	case 1:
		d.crashes()
		return
	default:
		if e := d.tx.Commit(); e != api.OK {
			d.did("Commit", e, 0, 1)
			d.met["a full disk"]++
			told(d.t, d.tx, d.trees)
			want(d.t, "Rollback", d.tx.Rollback())
			d.trees = d.committed
		}
		d.committed = d.trees
	}
	if d.r.Intn(2) == 0 {
		if _, e := d.store.Checkpoint(); e != api.ErrFull {
			want(d.t, "Checkpoint", e)
		}
	}
	d.begins()
}

// crashes goes down within a commit. What is there behind it is what was committed last, or the one under way.
func (d *desk) crashes() {
	d.t.Helper()
	d.d.CrashIn(1 + d.r.Intn(40))
	e := d.tx.Commit()
	d.d.Crash()
	var choices []int
	for range d.d.Pending() {
		choices = append(choices, d.r.Intn(70))
	}
	want(d.t, "Restart", d.d.Restart(choices))
	d.opens()
	if check.Whole(seen(d.t, d.tx), d.committed) == api.OK && e != api.OK {
		d.trees = d.committed // both may be it
		d.met["a crash back"]++
	}
	d.committed = d.trees
}

func (d *desk) step() {
	d.t.Helper()
	switch n := d.r.Intn(100); {
	case n < 4:
		d.savepoints()
	case n < 7:
		d.ends()
	case n < 8:
		d.stray()
	case n < 9:
		d.refused()
	case n < 10:
		want(d.t, "Set", space.Set(d.tx, d.r.Intn(8), d.r.Uint32()))
	case len(d.trees) < 1+d.r.Intn(6):
		d.plants()
	case n < 11:
		d.fells(d.r.Intn(len(d.trees)))
	default:
		d.changes(d.trees[d.r.Intn(len(d.trees))])
	}
}

// goesOn makes steps, in times in which the trees grow, and in others in which they get smaller; behind each the pages are whole.
func (d *desk) goesOn(steps int) {
	d.t.Helper()
	for i := range steps {
		d.grows = []int{9, 8, 3, 6}[i*8/steps%4]
		d.step()
		whole(d.t, "what the layers made", seen(d.t, d.tx), d.trees, api.OK)
		if i%10 == 0 || d.t.Failed() {
			told(d.t, d.tx, d.trees)
		}
		if len(d.trees) > 0 {
			less := slices.Delete(slices.Clone(d.trees), i%len(d.trees), i%len(d.trees)+1)
			whole(d.t, "a tree less", seen(d.t, d.tx), less, api.ErrBad)
		}
		if d.t.Failed() {
			d.t.FailNow()
		}
	}
}

// TestP143Scripts: what layers 10 to 13 make is whole with the trees that are there, behind each call, and Free, Rows and Keys tell what the layers tell.
func TestP143Scripts(t *testing.T) {
	met := map[string]int{}
	for seed := range 12 {
		d := newDesk(t, seed, []int{1 << 22, 1 << 14}[seed%2])
		d.goesOn(1000)
		for what, n := range d.met {
			met[what] += n
		}
	}
	for _, what := range []string{"back", "rollback", "a crash back", "a full disk"} {
		if met[what] < 3 {
			t.Errorf("%s: %d times", what, met[what])
		}
	}
}

// TestP143Narrow: likewise where there is not room for all.
func TestP143Narrow(t *testing.T) {
	d := newDesk(t, 5, 1<<24)
	d.trees = []api.Root{{Keys: true, Order: []api.Order{{Coll: api.CollNoCase}}}, {}}
	var e api.Errno
	d.trees[0].Page, e = keys.New(d.tx)
	want(t, "New", e)
	d.trees[1].Page, e = tree.New(d.tx)
	want(t, "New", e)
	for n := int64(0); d.room() > 40; n++ {
		_, e := tree.Put(d.tx, d.trees[1].Page, 1000+n, dataOf(api.MaxRecord, int(n)))
		want(t, "Put", e)
	}
	for i := range 120 {
		d.grows = 9
		d.changes(d.trees[i%2])
		if i%8 == 0 {
			d.stray()
		}
		whole(t, "what the layers made", seen(t, d.tx), d.trees, api.OK)
	}
	told(t, d.tx, d.trees)
	if d.met["no room"] < 5 {
		t.Errorf("there was no room %d times", d.met["no room"])
	}
}

// TestP143Long: trees of many rows and keys, whose roots are above inner pages, and that get smaller again.
func TestP143Long(t *testing.T) {
	d := newDesk(t, 6, 1<<24)
	rows, e := tree.New(d.tx)
	want(t, "New", e)
	order := []api.Order{{Desc: true}, {Coll: api.CollNoCase}}
	root, e := keys.New(d.tx)
	want(t, "New", e)
	d.trees = []api.Root{{Page: rows}, {Page: root, Keys: true, Order: order}}
	perm := d.r.Perm(400)
	for i, n := range perm {
		_, e := tree.Put(d.tx, rows, int64(n), dataOf(n%60, n))
		want(t, "Put", e)
		want(t, "Insert", keys.Insert(d.tx, root, order, sized(20+n%60, n)))
		if i%20 == 0 {
			told(t, d.tx, d.trees)
		}
	}
	told(t, d.tx, d.trees)
	for i, n := range perm {
		want(t, "Delete", tree.Delete(d.tx, rows, int64(n)))
		want(t, "Delete", keys.Delete(d.tx, root, order, sized(20+n%60, n)))
		if i%20 == 0 {
			told(t, d.tx, d.trees)
		}
	}
	told(t, d.tx, d.trees)
}

// TestP143OtherOrders: by others than the tree's own orders Keys tells what From does, or ErrBad.
func TestP143OtherOrders(t *testing.T) {
	d := newDesk(t, 7, 1<<22)
	for range 60 {
		order := d.anyOrder()
		root, e := keys.New(d.tx)
		want(t, "New", e)
		for range d.r.Intn(9) {
			keys.Insert(d.tx, root, order, d.anyKey())
		}
		pages := seen(t, d.tx)
		for range 20 {
			other := d.anyOrder()
			rows, e := keys.From(d.tx, root, other, nil)
			if e != api.OK {
				noKeys(t, "other orders", pages, root, other, e)
				continue
			}
			hasKeys(t, "other orders", pages, root, other, slices.Collect(rows))
		}
	}
}
