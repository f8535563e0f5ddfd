package journal_test

import (
	"math/rand"
	"strings"
	"testing"

	"bureau/api"
	"bureau/disk"
	"bureau/journal"
)

// journalOnly is a disk with two pages and a journal of those bytes.
func journalOnly(s string) *disk.Disk {
	d := with(some(2)...)
	store(d, "journal", s)
	return d
}

func TestP63Hot(t *testing.T) {
	cold, hot := sealed(0, 5, 6, 7), sealed(1, 5, 6, 7)
	for _, c := range []struct {
		what  string
		bytes string
		hot   bool
	}{
		{"none", "", false},
		{"less than a head", hot[:63], false},
		{"a byte", "\x01", false},
		{"just a head", hot, true},
		{"a head and more", hot + "x", true},
		{"a head that says nothing", sealed(0, 0, 0, 0), false},
		{"a head whose other numbers are not 0", cold, false},
		{"and more", cold + hot, false},
		{"the greatest first number", sealed(0xffffffff, 0, 0, 0), true},
		{"the first number's highest byte", sealed(1<<24, 0, 0, 0), true},
		{"the first copy alone", hot[:16] + cold[16:], false},
		{"two copies", hot[:32] + cold[32:], true},
		{"a part of the second copy", hot[:19] + cold[19:], false},
		{"the third copy says it", cold[:16] + hot[16:32] + hot[32:], true},
		{"bytes of another kind", strings.Repeat("q", 64), true},
	} {
		d := journalOnly(c.bytes)
		before := d.Steps()
		if journal.Hot(d) != c.hot {
			t.Errorf("%s: hot: %v", c.what, !c.hot)
		}
		if d.Steps() != before {
			t.Errorf("%s: Hot made steps", c.what)
		}
		if !c.hot {
			if is, e := journal.Recover(d); is || e != api.OK || d.Steps() != before {
				t.Errorf("%s: Recover: %v %v, %d steps", c.what, is, e, d.Steps()-before)
			}
		}
		d.Crash()
		if journal.Hot(d) {
			t.Errorf("%s: hot, though the disk is down", c.what)
		}
		if is, e := journal.Recover(d); is || e != api.ErrOver {
			t.Errorf("%s: down: %v %v", c.what, is, e)
		}
	}
	for _, d := range noDisks() {
		if journal.Hot(d) {
			t.Error("no disk is hot")
		}
		if is, e := journal.Recover(d); is || e != api.ErrNil {
			t.Errorf("no disk: %v %v", is, e)
		}
	}
}

// laid is a hot journal of these records of pages, the count that is to be again first.
func laid(count int, numbers ...int) string {
	var s strings.Builder
	s.WriteString(hotHead(len(numbers)+1, count))
	for _, n := range numbers {
		s.WriteString(record(n, filled(byte(200+n))))
	}
	return s.String()
}

func TestP63Bad(t *testing.T) {
	good := laid(3, 1, 3)
	with := func(i int, b byte) string { return good[:i] + string([]byte{b}) + good[i+1:] }
	for what, s := range map[string]string{
		"a record too few":              good[:64+320],
		"a byte too few":                good[:len(good)-1],
		"no record at all":              good[:64],
		"a head that counts too many":   hotHead(4, 3) + good[64:],
		"the greatest first number":     hotHead(0xffffffff, 3) + good[64:],
		"first number 2^31":             hotHead(1<<31, 3) + good[64:],
		"more than MaxPages":            hotHead(4098, 4096) + good[64:],
		"MaxPages, which have no room":  hotHead(4097, 4096) + good[64:],
		"page 0":                        laid(3, 0),
		"a page behind the count":       laid(3, 1, 4),
		"a page where there is none":    laid(0, 1),
		"a page far behind the count":   laid(3, 1, 1<<24+2),
		"the greatest page":             laid(3, 0xffffffff),
		"a page twice":                  laid(3, 2, 2),
		"pages that fall":               laid(3, 3, 1),
		"pages that fall later":         laid(5, 1, 3, 2),
		"a count above MaxPages":        laid(4097, 1, 3),
		"a count above it, no record":   laid(4097),
		"the greatest count":            laid(0xffffffff, 1),
		"the third number":              sealed(3, 3, 1, 0) + good[64:],
		"the fourth number":             sealed(3, 3, 0, 1) + good[64:],
		"the third number, no record":   sealed(1, 3, 0xffffffff, 0),
		"a record's byte behind number": with(64+4, 1),
		"a record's last sector byte":   with(64+63, 255),
		"the second record's":           with(64+320+40, 1),
		"the highest byte of a number":  with(64, 1),
		"bytes of another kind":         strings.Repeat("q", 3000),
		"a torn head that says too much": good[:16] + sealed(1, 9, 9, 9)[16:32] +
			sealed(2, 3, 9, 9)[32:] + good[64:],
	} {
		d := journalOnly(s)
		before := d.Steps()
		if is, e := journal.Recover(d); is || e != api.ErrBad {
			t.Errorf("%s: %v %v", what, is, e)
		}
		if d.Steps() != before || !journal.Hot(d) || read(d, "journal") != s {
			t.Errorf("%s: what is refused has changed something", what)
		}
		d.SetRoom(0)
		if _, e := journal.Recover(d); e != api.ErrBad {
			t.Errorf("%s: bad ahead of full: %v", what, e)
		}
		d.CrashIn(1)
		if _, e := journal.Recover(d); e != api.ErrBad || d.Down() {
			t.Errorf("%s: no step is made: %v", what, e)
		}
		d.Crash()
		if _, e := journal.Recover(d); e != api.ErrOver {
			t.Errorf("%s: down ahead of bad: %v", what, e)
		}
	}
}

// hots is disks with a hot journal that can be taken back.
func hots() []job {
	head := hotHead(3, 4)
	half := journalOnly(laid(4, 2, 3))
	half.Truncate("db", 300)
	loose := journalOnly(laid(4, 2, 3))
	loose.Write("db", 700, "not synced")
	loose.Write("journal", 64+320*2, "not synced")
	return []job{
		{what: "one page", disk: journalOnly(laid(2, 1))},
		{what: "the last page", disk: journalOnly(laid(2, 2))},
		{what: "no record", disk: journalOnly(laid(2))},
		{what: "no record, fewer pages", disk: journalOnly(laid(1))},
		{what: "no record, no page", disk: journalOnly(laid(0))},
		{what: "no record, more pages", disk: journalOnly(laid(5))},
		{what: "more pages", disk: journalOnly(laid(4, 1, 3, 4))},
		{what: "pages with a gap", disk: journalOnly(laid(6, 5))},
		{what: "bytes behind the records", disk: journalOnly(laid(2, 1) + strings.Repeat("z", 999))},
		{what: "a torn head", disk: journalOnly(head[:40] + sealed(0, 1, 2, 3)[40:] + laid(4, 2, 3)[64:])},
		{what: "a head torn by another one", disk: journalOnly(sealed(0, 0, 0, 0)[:7] + laid(4, 2, 3)[7:])},
		{what: "bytes behind the head's copies", disk: journalOnly(head[:48] + strings.Repeat("z", 16) + laid(4, 2, 3)[64:])},
		{what: "a part of a page", disk: half},
		{what: "what is not synced", disk: loose, shaky: true},
	}
}

func TestP63TakesBack(t *testing.T) {
	for _, c := range []struct {
		count   int
		numbers []int
	}{
		{2, []int{1}}, {2, []int{2}}, {2, []int{1, 2}}, {2, nil}, {1, nil}, {0, nil}, {1, []int{1}}, {5, nil}, {5, []int{5}}, {4, []int{1, 3, 4}}, {4096, []int{1, 4096}},
	} {
		var kept []api.PageAt
		for _, n := range c.numbers {
			kept = append(kept, api.PageAt{N: n, P: filled(byte(200 + n))})
		}
		d := journalOnly(laid(c.count, c.numbers...))
		if is, e := journal.Recover(d); !is || e != api.OK {
			t.Errorf("%v: %v %v", c, is, e)
		}
		holds(t, "taken back", d, after(some(2), c.count, kept))
		if d.Len("db") != 256*c.count || d.Pending() != 0 {
			t.Errorf("%v: %d bytes of db, %d changes not synced", c, d.Len("db"), d.Pending())
		}
		if is, e := journal.Recover(d); is || e != api.OK {
			t.Errorf("%v: again: %v %v", c, is, e)
		}
	}
}

// As many records as a journal may have.
func TestP63GreatestJournal(t *testing.T) {
	const most = (api.MaxFile - 64) / 320
	d := journalOnly(laid(4096, upTo(4096-most+1, 4096)...))
	if is, e := journal.Recover(d); !is || e != api.OK {
		t.Errorf("%v %v", is, e)
	}
	if p, _ := journal.Page(d, 4096-most+1); p != filled(byte((200+4096-most+1)%256)) || journal.Count(d) != 4096 || journal.Hot(d) {
		t.Error("not all was taken back")
	}
}

// The steps of taking back are those of the chapter, whatever step crashes and however much room there is.
func TestP63Steps(t *testing.T) {
	r := rand.New(rand.NewSource(63))
	fulls := 0
	for _, j := range hots() {
		for _, room := range append(rooms(j), plenty) {
			for n := 0; ; n++ {
				got, wanted := j.disk.Copy(), j.disk.Copy()
				for _, d := range []*disk.Disk{got, wanted} {
					d.SetRoom(room)
					d.CrashIn(n)
				}
				_, wantedErr := play(wanted, backing(wanted))
				is, e := journal.Recover(got)
				want(t, j.what, e, wantedErr)
				if is != (e == api.OK) {
					t.Errorf("%s: %v beside %v", j.what, is, e)
				}
				if e == api.ErrFull {
					fulls++
					if !journal.Hot(got) {
						t.Errorf("%s: full, and not hot any more", j.what)
					}
				}
				sameDisks(t, j.what, r, got, wanted)
				if n > 0 && e != api.ErrOver {
					break
				}
			}
		}
	}
	if fulls < 100 {
		t.Errorf("so few full disks: %d", fulls)
	}
}

// What was refused for want of room is taken back when there is some.
func TestP63FullThenRoom(t *testing.T) {
	for _, j := range hots() {
		d, whole := j.disk.Copy(), j.disk.Copy()
		journal.Recover(whole)
		for room := 0; ; room += 32 {
			d.SetRoom(room)
			is, e := journal.Recover(d)
			if e == api.OK && is {
				break
			}
			if e != api.ErrFull || is || !journal.Hot(d) {
				t.Fatalf("%s: %v %v", j.what, is, e)
			}
			want(t, j.what+": a commit ahead of it", journal.Commit(d, journal.Count(d), nil), api.ErrBusy)
		}
		sameFiles(t, j.what, d, whole)
	}
}
