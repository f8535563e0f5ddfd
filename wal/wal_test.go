package wal_test

import (
	"fmt"
	"math"
	"math/rand"
	"slices"
	"strings"
	"testing"

	"bureau/api"
	"bureau/disk"
	"bureau/wal"
)

// noDisks is what stands for a disk that is not there.
func noDisks() []*disk.Disk { return []*disk.Disk{nil, {}} }

// refuses fails the test unless every call answers that error and nothing beside it, whatever else is wrong, and makes no step.
func refuses(t *testing.T, what string, d *disk.Disk, wanted api.Errno) {
	t.Helper()
	steps := d.Steps()
	want(t, what+": Check", wal.Check(d), wanted)
	if m, e := wal.Mark(d); m != 0 || e != wanted {
		t.Errorf("%s: Mark: %v %v", what, m, e)
	}
	if m, e := wal.Marks(d); m != nil || e != wanted {
		t.Errorf("%s: Marks: %v %v", what, m, e)
	}
	for _, mark := range []int{math.MinInt, -1, 0, 1, 2, 3, 4, math.MaxInt} {
		if n, e := wal.Count(d, mark); n != 0 || e != wanted {
			t.Errorf("%s: Count at %d: %v %v", what, mark, n, e)
		}
		for _, n := range []int{-1, 0, 1, 2, 5000} {
			if p, e := wal.Page(d, mark, n); p != (api.Page{}) || e != wanted {
				t.Errorf("%s: Page %d at %d: %v %v", what, n, mark, p, e)
			}
		}
		want(t, what+": Checkpoint", wal.Checkpoint(d, mark), wanted)
	}
	for _, count := range []int{-1, 0, 1, 2, 3, 5000} {
		for _, pages := range [][]api.PageAt{nil, at(1, 1), at(1, 1, 2), at(1, 2, 1), at(1, 0)} {
			if m, e := wal.Commit(d, count, pages); m != 0 || e != wanted {
				t.Errorf("%s: Commit: %v %v", what, m, e)
			}
		}
	}
	if d.Steps() != steps {
		t.Errorf("%s: refused, and steps were made", what)
	}
}

func TestP71NoDisk(t *testing.T) {
	for _, d := range noDisks() {
		refuses(t, "no disk", d, api.ErrNil)
	}
}

func TestP71Down(t *testing.T) {
	for _, log := range []string{"", whole(fr(1, 2)), whole(fr(1, 0)), sealed(1, 1, 1, 1)} {
		d := with(bytesOf(some(2)), log)
		d.Crash()
		refuses(t, "a disk that is down", d, api.ErrOver)
	}
}

// A log of less than 64 bytes has no head, whatever its bytes are.
func TestP71NoHead(t *testing.T) {
	for n := range 64 {
		for _, bytes := range []string{strings.Repeat("x", 64), sealed(1, 0, 0, 0), sealed(0, 1, 2, 3)} {
			d := with(bytesOf(some(2)), bytes[:n])
			want(t, "Check", wal.Check(d), api.OK)
			tells(t, fmt.Sprint(n, " bytes"), d, history{0: some(2)}, 0)
		}
	}
}

func TestP71Marks(t *testing.T) {
	for _, c := range []struct {
		what  string
		log   string
		marks []int
	}{
		{"a head alone", sealed(0, 0, 0, 0), []int{0}},
		{"one frame", whole(fr(1, 2)), []int{0, 1}},
		{"one frame, no page", whole(fr(0, 1)), []int{0, 1}},
		{"a commit of two", whole(fr(1, 0), fr(2, 3)), []int{0, 2}},
		{"two commits", whole(fr(1, 2), fr(2, 3)), []int{0, 1, 2}},
		{"commits of one, three, two, none", whole(fr(1, 2), fr(1, 0), fr(2, 0), fr(3, 4), fr(1, 0), fr(2, 4), fr(0, 3)), []int{0, 1, 4, 6, 7}},
		{"frames behind those that count", laid(2, fr(1, 0), fr(2, 3), fr(1, 3), fr(2, 0)), []int{0, 2}},
		{"bytes behind those that count", whole(fr(1, 2)) + strings.Repeat("z", 777), []int{0, 1}},
		{"no frame counts", laid(0, fr(1, 2), fr(5, 0)), []int{0}},
		{"the greatest number and count", whole(fr(4096, 0), fr(1, 4097)), []int{0, 2}},
		{"a number above the count", whole(fr(7, 0), fr(1, 2)), []int{0, 2}},
		{"numbers that fall", whole(fr(3, 0), fr(2, 0), fr(3, 0), fr(1, 4)), []int{0, 4}},
		{"a torn head, the old one", sealed(2, 0, 0, 0)[:7] + laid(1, fr(1, 2), fr(2, 3))[7:], []int{0, 1}},
		{"a torn head, the new one", sealed(2, 0, 0, 0)[:40] + laid(1, fr(1, 2), fr(2, 3))[40:], []int{0, 1, 2}},
		{"bytes behind the head's copies", whole(fr(1, 2))[:48] + strings.Repeat("z", 16) + fr(1, 2).bytes(), []int{0, 1}},
	} {
		d := with(bytesOf(some(2)), c.log)
		steps := d.Steps()
		want(t, c.what, wal.Check(d), api.OK)
		if m, e := wal.Marks(d); !slices.Equal(m, c.marks) || e != api.OK {
			t.Errorf("%s: %v %v", c.what, m, e)
		}
		if m, e := wal.Mark(d); m != c.marks[len(c.marks)-1] || e != api.OK {
			t.Errorf("%s: the last one %v %v", c.what, m, e)
		}
		tells(t, c.what, d, historyOf(t, d), 0)
		if d.Steps() != steps {
			t.Errorf("%s: reading makes steps", c.what)
		}
	}
}

// What Marks answers is the caller's own, its spare room too.
func TestP71MarksAreNew(t *testing.T) {
	d := with("", whole(fr(1, 2), fr(1, 2), fr(1, 2)))
	one, _ := wal.Marks(d)
	two, _ := wal.Marks(d)
	one = one[:cap(one)]
	for i := range one {
		one[i] = 77
	}
	if three, _ := wal.Marks(d); !slices.Equal(two, []int{0, 1, 2, 3}) || !slices.Equal(three, two) {
		t.Error(two, three)
	}
}

func TestP71Bad(t *testing.T) {
	good := whole(fr(1, 0), fr(2, 3))
	odd := func(place int) string { return good[:place] + "\x01" + good[place+1:] }
	for _, c := range []struct{ what, log string }{
		{"a frame is not there", laid(3, fr(1, 0), fr(2, 3))},
		{"no frame is there", laid(1)},
		{"a byte is not there", good[:len(good)-1]},
		{"more frames than may be", laid(3277, fr(1, 0), fr(2, 3))},
		{"more frames than can be", laid(math.MaxUint32, fr(1, 0), fr(2, 3))},
		{"so many that their bytes wrap round", laid(1<<30, fr(1, 0), fr(2, 3))},
		{"the head's second number", sealed(2, 1, 0, 0) + good[64:]},
		{"the head's third number", sealed(2, 0, 1, 0) + good[64:]},
		{"the head's fourth number", sealed(2, 0, 0, 1) + good[64:]},
		{"the head's second number, no frames", sealed(0, 1, 0, 0)},
		{"the head's third number, no frames", sealed(0, 0, 1<<31, 0)},
		{"the head's fourth number, no frames", sealed(0, 0, 0, 256)},
		{"a page's number", whole(fr(4097, 0), fr(2, 3))},
		{"the last page's number", whole(fr(1, 0), fr(4097, 3))},
		{"a page's number, great", whole(fr(math.MaxUint32, 0), fr(2, 3))},
		{"a page's number, in the highest bit", whole(fr(1<<31, 0), fr(2, 3))},
		{"a count", whole(fr(1, 0), fr(2, 4098))},
		{"a count ahead of the last one", whole(fr(1, 4098), fr(2, 3))},
		{"a count, great", whole(fr(1, 0), fr(2, math.MaxUint32))},
		{"a count, in the highest bit", whole(fr(1, 1<<31), fr(2, 3))},
		{"the page's number 0", whole(fr(0, 0), fr(2, 3))},
		{"the page's number 0, between", whole(fr(1, 2), fr(0, 0), fr(2, 3))},
		{"the last frame ends none", whole(fr(1, 2), fr(2, 0))},
		{"the only frame ends none", whole(fr(1, 0))},
		{"the last frame that counts ends none", laid(1, fr(1, 0), fr(2, 3))},
		{"the last frame is 0 and ends none", whole(fr(1, 2), fr(0, 0))},
		{"a byte behind the numbers", odd(64 + 8)},
		{"a byte at the sector's end", odd(64 + 63)},
		{"a byte within the last sector", odd(64 + 320 + 40)},
	} {
		d := with(bytesOf(some(2)), c.log)
		refuses(t, c.what, d, api.ErrBad)
		d.SetRoom(0)
		d.CrashIn(1)
		refuses(t, c.what+", full, and to crash", d, api.ErrBad)
	}
}

// A log that is cut off anywhere is bad, or, with less than a head, none.
func TestP71EveryLength(t *testing.T) {
	log := whole(fr(1, 0), fr(2, 3))
	for n := range len(log) {
		e := api.ErrBad
		if n < 64 {
			e = api.OK
		}
		want(t, fmt.Sprint(n, " bytes"), wal.Check(with("", log[:n])), e)
	}
	want(t, "all bytes", wal.Check(with("", log)), api.OK)
}

// agrees fails the test unless the calls tell of two files what is read of them by hand; it tells whether the log is a log.
func agrees(t *testing.T, what, db, log string) bool {
	t.Helper()
	d := with(db, log)
	frames, ok := readByHand(log)
	if !ok {
		want(t, what, wal.Check(d), api.ErrBad)
		return false
	}
	tells(t, what, d, historyByHand(db, frames), 0)
	return true
}

// Every byte of a log changed: what is told is what the chapter says of those bytes.
func TestP71EveryByte(t *testing.T) {
	log := whole(fr(1, 2), fr(0, 3), fr(2, 0), fr(1, 4))
	goods := 0
	for i := range log {
		for _, b := range []byte{0, 1, 2, 16, 17, 255} {
			if agrees(t, fmt.Sprintf("byte %d as %d", i, b), bytesOf(some(2)), log[:i]+string([]byte{b})+log[i+1:]) {
				goods++
			}
		}
	}
	if goods == 0 || goods == 6*len(log) {
		t.Errorf("%d logs", goods)
	}
}

// Logs of frames taken at random, some with bytes changed at random.
func TestP71Random(t *testing.T) {
	r := rand.New(rand.NewSource(71))
	goods, bads := 0, 0
	for range 4000 {
		var frames []handFrame
		for range r.Intn(7) {
			f := handFrame{n: r.Intn(6), p: filled(byte(r.Intn(256)))}
			if r.Intn(2) == 0 || f.n == 0 && r.Intn(4) > 0 {
				f.end = 1 + r.Intn(6)
			}
			frames = append(frames, f)
		}
		log := []byte(laid(max(0, len(frames)-r.Intn(2)), frames...))
		for range r.Intn(2) {
			log[r.Intn(len(log))] = byte(r.Intn(3))
		}
		db := bytesOf(some(r.Intn(5)))
		if agrees(t, "at random", db[:len(db)-r.Intn(len(db)+1)/4], string(log)) {
			goods++
		} else {
			bads++
		}
	}
	if goods < 1000 || bads < 500 {
		t.Errorf("%d logs, %d that are none", goods, bads)
	}
}

// A log with as many frames as there may be.
func TestP71GreatestLog(t *testing.T) {
	const most = (api.MaxFile - 64) / 320
	var s strings.Builder
	s.WriteString(sealed(most, 0, 0, 0))
	for k := 1; k <= most; k++ {
		s.WriteString(fr(k, 2*(k%2)).bytes())
	}
	s.WriteString(zeros(api.MaxFile - s.Len()))
	log := s.String()
	d := with("", log)
	want(t, "it ends no commit", wal.Check(d), api.ErrBad)
	d.Write("wal", 64+320*(most-1)+7, "\x01")
	marks, e := wal.Marks(d)
	if e != api.OK || len(marks) != 1+most/2+1 || marks[len(marks)-1] != most {
		t.Errorf("%d marks, %v", len(marks), e)
	}
	d.Write("wal", 0, sealed(most+1, 0, 0, 0))
	want(t, "one more", wal.Check(d), api.ErrBad)
}

func TestP72Count(t *testing.T) {
	d := with(bytesOf(some(3))+"a part", whole(fr(1, 4), fr(2, 0), fr(4, 5), fr(0, 1), fr(0, 4097)))
	for _, c := range []struct {
		mark, count int
		e           api.Errno
	}{
		{math.MinInt, 0, api.ErrNone},
		{-1, 0, api.ErrNone},
		{0, 3, api.OK},
		{1, 3, api.OK},
		{2, 0, api.ErrNone},
		{3, 4, api.OK},
		{4, 0, api.OK},
		{5, 4096, api.OK},
		{6, 0, api.ErrNone},
		{7, 0, api.ErrNone},
		{math.MaxInt, 0, api.ErrNone},
	} {
		n, e := wal.Count(d, c.mark)
		if n != c.count || e != c.e {
			t.Errorf("at %d: %d %v", c.mark, n, e)
		}
	}
}

// A frame behind those that count is no mark, though it ends a commit.
func TestP72BehindThoseThatCount(t *testing.T) {
	d := with(bytesOf(some(1)), laid(1, fr(1, 2), fr(1, 2), fr(1, 3)))
	for _, mark := range []int{2, 3} {
		if n, e := wal.Count(d, mark); n != 0 || e != api.ErrNone {
			t.Errorf("Count at %d: %d %v", mark, n, e)
		}
		if _, e := wal.Page(d, mark, 1); e != api.ErrNone {
			t.Errorf("Page at %d: %v", mark, e)
		}
		want(t, "Checkpoint", wal.Checkpoint(d, mark), api.ErrNone)
	}
	if p, e := wal.Page(d, 1, 1); e != api.OK || p != fr(1, 2).p {
		t.Errorf("the frame that counts: %v %v", e, p)
	}
}

func TestP72Page(t *testing.T) {
	db := some(3)
	frames := []handFrame{
		{2, 4, filled(50)},    // 1: the page 2 of three
		{3, 0, filled(51)},    // 2
		{1, 3, filled(52)},    // 3: the pages 3 and 1; it shrinks to two
		{0, 6, filled(53)},    // 4: it grows to five, without pages
		{2, 0, filled(54)},    // 5
		{2, 6, filled(55)},    // 6: twice the same page
		{4096, 2, filled(56)}, // 7: a page above the count
	}
	d := with(bytesOf(db)+strings.Repeat("y", 255), whole(frames...))
	none := api.Page{}
	for mark, wanted := range map[int][]api.Page{
		0: db,
		1: {db[0], filled(50), db[2]},
		3: {filled(52), filled(50)},
		4: {filled(52), filled(50), filled(51), none, none},
		6: {filled(52), filled(55), filled(51), none, none},
		7: {filled(52)},
	} {
		if n, e := wal.Count(d, mark); n != len(wanted) || e != api.OK {
			t.Errorf("at %d: %d %v", mark, n, e)
		}
		for n := -2; n <= 7; n++ {
			p, e := wal.Page(d, mark, n)
			if n >= 1 && n <= len(wanted) {
				if e != api.OK || p != wanted[n-1] {
					t.Errorf("page %d at %d: %v % x", n, mark, e, p)
				}
			} else if e != api.ErrNone || p != none {
				t.Errorf("page %d at %d: %v % x", n, mark, e, p)
			}
		}
		for _, n := range []int{4096, 4097, math.MinInt, math.MaxInt} {
			if p, e := wal.Page(d, mark, n); e != api.ErrNone || p != none {
				t.Errorf("page %d at %d: %v % x", n, mark, e, p)
			}
		}
	}
	for _, mark := range []int{math.MinInt, -1, 2, 5, 8, math.MaxInt} {
		if p, e := wal.Page(d, mark, 1); e != api.ErrNone || p != none {
			t.Errorf("at %d: %v % x", mark, e, p)
		}
	}
}

// The greatest database: its last page, from the log and from db.
func TestP72MostPages(t *testing.T) {
	d := with(zeros(api.MaxFile-256)+bytesOf(some(1)), whole(fr(4095, 4097), fr(4096, 4097)))
	for _, c := range []struct {
		mark, n int
		p       api.Page
		e       api.Errno
	}{
		{0, 4096, filled(0), api.OK},
		{0, 4095, api.Page{}, api.OK},
		{0, 4097, api.Page{}, api.ErrNone},
		{1, 4095, fr(4095, 4097).p, api.OK},
		{1, 4096, filled(0), api.OK},
		{2, 4096, fr(4096, 4097).p, api.OK},
		{2, 4097, api.Page{}, api.ErrNone},
	} {
		if p, e := wal.Page(d, c.mark, c.n); p != c.p || e != c.e {
			t.Errorf("page %d at %d: %v % x", c.n, c.mark, e, p)
		}
	}
}

// The chapter's examples.
func TestP72Examples(t *testing.T) {
	d := disk.New(1 << 16)
	p, q, r := filled(1), filled(2), filled(3)
	if m, e := wal.Mark(d); m != 0 || e != api.OK {
		t.Error(m, e)
	}
	if m, e := wal.Commit(d, 2, []api.PageAt{{N: 1, P: p}, {N: 2, P: q}}); m != 2 || e != api.OK {
		t.Error(m, e)
	}
	if m, e := wal.Commit(d, 2, []api.PageAt{{N: 1, P: r}}); m != 3 || e != api.OK {
		t.Error(m, e)
	}
	tells(t, "two commits", d, history{0: nil, 2: {p, q}, 3: {r, q}}, 0)
	if _, e := wal.Page(d, 1, 1); e != api.ErrNone {
		t.Error(e)
	}
	want(t, "Checkpoint", wal.Checkpoint(d, 2), api.OK)
	tells(t, "the first one at home", d, history{0: {p, q}, 2: {p, q}, 3: {r, q}}, 0)
	want(t, "Checkpoint", wal.Checkpoint(d, 3), api.OK)
	tells(t, "all at home", d, history{0: {r, q}}, 0)
	if m, e := wal.Commit(d, 0, nil); m != 1 || e != api.OK {
		t.Error(m, e)
	}
	tells(t, "nothing left", d, history{0: {r, q}, 1: nil}, 0)
}
