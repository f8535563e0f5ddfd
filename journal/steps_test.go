package journal_test

import (
	"math/rand"
	"slices"
	"strings"
	"testing"

	"bureau/api"
	"bureau/disk"
	"bureau/journal"
)

// op is a step as the chapter words it, to be played on a disk by hand.
type op struct {
	do   string // write, truncate, sync
	name string
	at   int
	data string
}

// play makes steps till one is refused, and tells how many were made.
func play(d *disk.Disk, ops []op) (int, api.Errno) {
	for i, o := range ops {
		e := api.OK
		switch o.do {
		case "write":
			e = d.Write(o.name, o.at, o.data)
		case "truncate":
			e = d.Truncate(o.name, o.at)
		case "sync":
			e = d.Sync(o.name)
		}
		if e != api.OK {
			return i, e
		}
	}
	return len(ops), api.OK
}

// big is a number in 4 bytes, the greatest first.
func big(n int) string {
	return string([]byte{byte(n >> 24), byte(n >> 16), byte(n >> 8), byte(n)})
}

// sealed is a sealed sector, laid by hand.
func sealed(a, b, c, e int) string {
	return strings.Repeat(big(a)+big(b)+big(c)+big(e), 3) + zeros(16)
}

func zeros(n int) string { return strings.Repeat("\x00", n) }

// hotHead is the head of a hot journal, its first number as it stands there.
func hotHead(first, count int) string { return sealed(first, count, 0, 0) }

// record is a record's bytes, laid by hand.
func record(n int, p api.Page) string { return big(n) + zeros(60) + string(p[:]) }

// journalHead is what the journal's head says, of a file that has one.
func journalHead(d *disk.Disk) []uint32 {
	var s api.Sector
	copy(s[:], read(d, "journal"))
	w := disk.Open(s)
	return w[:]
}

// anew is the steps that write the head anew.
func anew(d *disk.Disk) []op {
	head := sealed(0, 0, 0, 0)
	if d.Len("journal") >= 64 {
		w := journalHead(d)
		head = sealed(int(w[0]), int(w[1]), int(w[2]), int(w[3]))
	}
	return []op{{"write", "journal", 0, head}, {"sync", "journal", 0, ""}}
}

// changing is the steps 4 and 5 of a commit; those of taking back end alike.
func changing(count int, pages []api.PageAt) []op {
	var ops []op
	for _, p := range pages {
		ops = append(ops, op{"write", "db", 256 * (p.N - 1), string(p.P[:])})
	}
	return append(ops,
		op{"truncate", "db", 256 * count, ""},
		op{"sync", "db", 0, ""},
		op{"write", "journal", 0, sealed(0, 0, 0, 0)},
		op{"sync", "journal", 0, ""})
}

// aside is the steps 1 to 3 of a commit.
func aside(d *disk.Disk, count int, pages []api.PageAt) []op {
	ops := anew(d)
	old, db := d.Len("db")/256, read(d, "db")
	records := 0
	for n := 1; n <= old; n++ {
		among := slices.ContainsFunc(pages, func(p api.PageAt) bool { return p.N == n })
		if among || n > count {
			ops = append(ops, op{"write", "journal", 64 + 320*records, big(n) + zeros(60) + db[256*(n-1):256*n]})
			records++
		}
	}
	return append(ops,
		op{"sync", "journal", 0, ""},
		op{"write", "journal", 0, sealed(records+1, old, 0, 0)},
		op{"sync", "journal", 0, ""})
}

// backing is the steps that take a hot journal back.
func backing(d *disk.Disk) []op {
	s, w := read(d, "journal"), journalHead(d)
	var pages []api.PageAt
	for k := range int(w[0]) - 1 {
		r := s[64+320*k : 64+320*k+320]
		p := api.PageAt{N: int(r[2])<<8 | int(r[3])}
		copy(p.P[:], r[64:])
		pages = append(pages, p)
	}
	return append(anew(d), changing(int(w[1]), pages)...)
}

// commitByHand plays the steps of a commit, and, where the chapter says so, those of taking back.
func commitByHand(d *disk.Disk, count int, pages []api.PageAt) api.Errno {
	if _, e := play(d, aside(d, count, pages)); e != api.OK {
		return e
	}
	_, e := play(d, changing(count, pages))
	if e == api.ErrFull {
		if _, back := play(d, backing(d)); back != api.OK {
			return back
		}
	}
	return e
}

// sameDisks fails the test unless two disks are the same: in what they count, in what is seen, and in what is there behind crashes with the same choices.
func sameDisks(t *testing.T, what string, r *rand.Rand, got, wanted *disk.Disk) {
	t.Helper()
	if got.Steps() != wanted.Steps() || got.Pending() != wanted.Pending() || got.Down() != wanted.Down() {
		t.Fatalf("%s: steps %d, pending %d, down %v, not %d, %d, %v", what, got.Steps(), got.Pending(), got.Down(), wanted.Steps(), wanted.Pending(), wanted.Down())
	}
	sameFiles(t, what, got, wanted)
	n := got.Pending()
	for _, choices := range [][]int{nil, slices.Repeat([]int{1}, n), torn(r, n), torn(r, n)} {
		g, w := got.Copy(), wanted.Copy()
		g.Crash()
		w.Crash()
		g.Restart(choices)
		w.Restart(choices)
		sameFiles(t, what+", behind a crash", g, w)
	}
}

func sameFiles(t *testing.T, what string, got, wanted *disk.Disk) {
	t.Helper()
	if !slices.Equal(got.Names(), wanted.Names()) {
		t.Fatalf("%s: files %q, not %q", what, got.Names(), wanted.Names())
	}
	for _, name := range wanted.Names() {
		if read(got, name) != read(wanted, name) {
			t.Fatalf("%s: the file %s is another one", what, name)
		}
	}
}

// torn is choices taken at random: lost, made, torn anywhere.
func torn(r *rand.Rand, n int) []int {
	choices := make([]int, n)
	for i := range choices {
		choices[i] = []int{0, 1, 2 + r.Intn(63)}[r.Intn(3)]
	}
	return choices
}

// job is a commit of a disk. Of one that is shaky a crash may take what was there ahead of the commit, or may bring up a head that was too short to count: there the steps alone are promised.
type job struct {
	what  string
	disk  *disk.Disk
	count int
	pages []api.PageAt
	shaky bool
}

// jobs is commits of all sorts: of files that are whole or not, that grow, shrink or stay.
func jobs() []job {
	old := some(4)
	journalOf := func(s string, pages ...api.Page) *disk.Disk {
		d := with(pages...)
		store(d, "journal", s)
		return d
	}
	half := with(old...)
	half.Truncate("db", 700)
	half.Sync("db")
	loose := with(old...)
	loose.Write("db", 100, "not synced")
	loose.Write("journal", 5, "not synced")
	oldHead, newHead := sealed(0, 7, 8, 9), sealed(0, 1, 2, 3)
	return []job{
		{what: "the first pages", disk: disk.New(plenty), count: 2, pages: at(50, 1, 2)},
		{what: "nothing of nothing", disk: disk.New(plenty), count: 0, pages: nil},
		{what: "one page", disk: with(old...), count: 4, pages: at(50, 2)},
		{what: "the first and the last page", disk: with(old...), count: 4, pages: at(50, 1, 4)},
		{what: "all pages", disk: with(old...), count: 4, pages: at(50, 1, 2, 3, 4)},
		{what: "no page", disk: with(old...), count: 4, pages: nil},
		{what: "the same page", disk: with(old...), count: 4, pages: []api.PageAt{{N: 3, P: old[2]}}},
		{what: "shrinks", disk: with(old...), count: 2, pages: nil},
		{what: "shrinks and changes", disk: with(old...), count: 2, pages: at(50, 2)},
		{what: "shrinks to nothing", disk: with(old...), count: 0, pages: nil},
		{what: "grows", disk: with(old...), count: 6, pages: at(50, 5, 6)},
		{what: "grows and changes", disk: with(old...), count: 6, pages: at(50, 1, 3, 5, 6)},
		{what: "a part of a page, stays", disk: half.Copy(), count: 2, pages: at(50, 1)},
		{what: "a part of a page, grows", disk: half.Copy(), count: 3, pages: at(50, 3)},
		{what: "a part of a page, shrinks", disk: half.Copy(), count: 1, pages: nil},
		{what: "what is not synced", disk: loose, count: 5, pages: at(50, 2, 5), shaky: true},
		{what: "a journal of a byte", disk: journalOf("\x01", old...), count: 3, pages: at(50, 1)},
		{what: "a journal of 63 bytes", disk: journalOf(oldHead[:63], old...), count: 3, pages: at(50, 1)},
		{what: "a journal of 63 bytes, hot with one more", disk: journalOf(hotHead(2, 4)[:63], old...), count: 3, pages: at(50, 1), shaky: true},
		{what: "a journal of 64 bytes", disk: journalOf(sealed(0, 0, 0, 0), old...), count: 3, pages: at(50, 1)},
		{what: "a head that says more", disk: journalOf(oldHead, old...), count: 3, pages: at(50, 1)},
		{what: "a torn head", disk: journalOf(newHead[:20]+oldHead[20:], old...), count: 4, pages: at(50, 1)},
		{what: "a longer journal", disk: journalOf(oldHead+strings.Repeat("z", 2000), old...), count: 5, pages: at(50, 4, 5)},
	}
}

// The steps of a commit are those of the chapter: wherever it crashes, the disk is the one on which they were made by hand.
func TestP62Steps(t *testing.T) {
	r := rand.New(rand.NewSource(622))
	for _, j := range jobs() {
		for n := 0; ; n++ {
			got, wanted := j.disk.Copy(), j.disk.Copy()
			got.CrashIn(n)
			wanted.CrashIn(n)
			e := commitByHand(wanted, j.count, j.pages)
			want(t, j.what, journal.Commit(got, j.count, j.pages), e)
			sameDisks(t, j.what, r, got, wanted)
			if n > 0 && e == api.OK {
				break
			}
		}
	}
}

// Each Write is of a whole head, record or page: so many steps has a commit that makes r records and changes p pages.
func TestP62HowManySteps(t *testing.T) {
	for _, c := range []struct{ old, count, changed, records int }{
		{0, 0, 0, 0}, {0, 3, 3, 0}, {3, 3, 0, 0}, {3, 3, 2, 2}, {3, 1, 0, 2}, {3, 1, 1, 3}, {3, 0, 0, 3}, {3, 5, 2, 0},
	} {
		d := with(some(c.old)...)
		before := d.Steps()
		numbers := upTo(1, c.changed)
		if c.count > c.old {
			numbers = upTo(c.old+1, c.count)
		}
		want(t, "Commit", journal.Commit(d, c.count, at(9, numbers...)), api.OK)
		if steps := d.Steps() - before; steps != 2+c.records+1+2+c.changed+2+2 {
			t.Errorf("%v: %d steps", c, steps)
		}
	}
}

// rooms is how much room a disk may have so that some steps of a commit are refused, and those that need no more.
func rooms(j job) []int {
	used := 0
	for _, name := range j.disk.Names() {
		used += j.disk.Len(name)
	}
	var rooms []int
	for more := 0; more <= 64+320*6+256*6; more += 32 {
		rooms = append(rooms, used+more-1, used+more)
	}
	return append(rooms, 0, used/2)
}

// A disk that is full ends a commit where the chapter says so, and takes it back where it says so, whatever step crashes.
func TestP62FullSteps(t *testing.T) {
	r := rand.New(rand.NewSource(623))
	ended, back := 0, 0
	for _, j := range jobs() {
		early := j.disk.Steps() + len(aside(j.disk, j.count, j.pages))
		for _, room := range rooms(j) {
			for n := 0; ; n++ {
				got, wanted := j.disk.Copy(), j.disk.Copy()
				for _, d := range []*disk.Disk{got, wanted} {
					d.SetRoom(room)
					d.CrashIn(n)
				}
				e := commitByHand(wanted, j.count, j.pages)
				want(t, j.what, journal.Commit(got, j.count, j.pages), e)
				if n%3 == 0 || e == api.ErrFull {
					sameDisks(t, j.what, r, got, wanted)
				}
				if e == api.ErrFull && got.Steps() < early {
					ended++
				} else if e == api.ErrFull {
					back++
				}
				if n > 0 && e != api.ErrOver {
					break
				}
			}
		}
	}
	if ended < 100 || back < 100 {
		t.Errorf("so few full disks: %d commits ended, %d taken back", ended, back)
	}
}
