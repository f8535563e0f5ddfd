package disk_test

import (
	"math"
	"slices"
	"strings"
	"testing"

	"bureau/api"
	"bureau/disk"
)

// want fails the test unless a call answered that error.
func want(t *testing.T, what string, got, wanted api.Errno) {
	t.Helper()
	if got != wanted {
		t.Errorf("%s: %v, not %v", what, got, wanted)
	}
}

// holds fails the test unless the file has just these bytes.
func holds(t *testing.T, d *disk.Disk, name, bytes string) {
	t.Helper()
	s, e := d.Read(name, 0, math.MaxInt)
	if e != api.OK || s != bytes || d.Len(name) != len(bytes) {
		t.Errorf("file %q: %q (%v, Len %d), not %q", name, s, e, d.Len(name), bytes)
	}
}

// counts fails the test unless the disk tells these numbers.
func counts(t *testing.T, d *disk.Disk, steps, pending, starts int) {
	t.Helper()
	if d.Steps() != steps || d.Pending() != pending || d.Starts() != starts {
		t.Errorf("steps %d, pending %d, starts %d, not %d, %d, %d", d.Steps(), d.Pending(), d.Starts(), steps, pending, starts)
	}
}

// with makes a disk with room whose file f has these bytes, synced.
func with(bytes string) *disk.Disk {
	d := disk.New(1 << 24)
	d.Write("f", 0, bytes)
	d.Sync("f")
	return d
}

// restarted crashes the disk and starts it again.
func restarted(t *testing.T, d *disk.Disk, choices ...int) *disk.Disk {
	t.Helper()
	d.Crash()
	want(t, "Restart", d.Restart(choices), api.OK)
	return d
}

func zeros(n int) string { return strings.Repeat("\x00", n) }

func TestP11NewIsEmpty(t *testing.T) {
	d := disk.New(5)
	if d.Down() || d.Len("f") != 0 || len(d.Names()) != 0 {
		t.Error("a new disk is up and without files")
	}
	holds(t, d, "f", "")
	counts(t, d, 0, 0, 0)
	want(t, "as many bytes as there is room", d.Write("f", 0, "12345"), api.OK)
	want(t, "one more", d.Write("f", 5, "6"), api.ErrFull)
	for _, room := range []int{-1, math.MinInt, 0} {
		d := disk.New(room)
		want(t, "a byte without room", d.Write("f", 0, "x"), api.ErrFull)
		d.SetRoom(1)
		want(t, "a byte with room", d.Write("f", 0, "x"), api.OK)
	}
}

func TestP11Read(t *testing.T) {
	d := with("abcdef")
	for _, c := range []struct {
		at, n  int
		answer string
		e      api.Errno
	}{
		{0, 6, "abcdef", api.OK},
		{2, 3, "cde", api.OK},
		{5, 1, "f", api.OK},
		{4, 9, "ef", api.OK},
		{6, 1, "", api.OK},
		{7, 1, "", api.OK},
		{3, 0, "", api.OK},
		{1, math.MaxInt, "bcdef", api.OK},
		{math.MaxInt, math.MaxInt, "", api.OK},
		{-1, 2, "", api.ErrArg},
		{2, -1, "", api.ErrArg},
		{math.MinInt, math.MinInt, "", api.ErrArg},
	} {
		if s, e := d.Read("f", c.at, c.n); s != c.answer || e != c.e {
			t.Errorf("Read(%d, %d): %q %v, not %q %v", c.at, c.n, s, e, c.answer, c.e)
		}
	}
	if s, e := d.Read("nope", 0, 10); s != "" || e != api.OK {
		t.Errorf("a file that is not there: %q %v", s, e)
	}
	if _, e := d.Read("nope", -1, 0); e != api.ErrArg {
		t.Errorf("a place below 0 of a file that is not there: %v", e)
	}
	counts(t, d, 2, 0, 0)
}

func TestP11Names(t *testing.T) {
	d := disk.New(1000)
	for _, name := range []string{"b", "", "a\x00", "B", "ba", "gone", "\xff"} {
		d.Write(name, 0, "x")
	}
	d.Truncate("gone", 0)
	d.Write("none", 0, "")
	d.Truncate("none", 0)
	d.Sync("none")
	all := []string{"", "B", "a\x00", "b", "ba", "\xff"}
	names := d.Names()
	if !slices.Equal(names, all) {
		t.Errorf("Names: %q", names)
	}
	clear(names)
	if !slices.Equal(d.Names(), all) {
		t.Error("an answer is the caller's own")
	}
}

func TestP11Down(t *testing.T) {
	d := with("abc")
	d.Crash()
	if s, e := d.Read("f", -1, -1); s != "" || e != api.ErrOver {
		t.Errorf("Read: %q %v", s, e)
	}
	if d.Len("f") != 0 || len(d.Names()) != 0 {
		t.Error("a disk that is down tells no files")
	}
}

func TestP12WriteChanges(t *testing.T) {
	for _, c := range []struct {
		was     string
		at, n   int
		pending int
	}{
		{"", 0, 1, 2},
		{"", 0, 64, 2},
		{"", 0, 65, 3},
		{"", 63, 2, 3},
		{"", 64, 1, 2},
		{"", 200, 1, 2},
		{zeros(64), 0, 64, 1},
		{zeros(64), 63, 1, 1},
		{zeros(64), 63, 2, 3},
		{zeros(256), 1, 255, 4},
		{zeros(256), 64, 128, 2},
		{zeros(256), 256, 1, 2},
	} {
		d := with(c.was)
		data := strings.Repeat("x", c.n)
		want(t, "Write", d.Write("f", c.at, data), api.OK)
		if d.Pending() != c.pending {
			t.Errorf("%d bytes at %d of %d: %d changes, not %d", c.n, c.at, len(c.was), d.Pending(), c.pending)
		}
		bytes := []byte(c.was + zeros(max(0, c.at+c.n-len(c.was))))
		copy(bytes[c.at:], data)
		holds(t, d, "f", string(bytes))
	}
}

func TestP12WriteRefused(t *testing.T) {
	const most = api.MaxFile
	d := disk.New(most + 10)
	want(t, "below 0", d.Write("f", -1, "x"), api.ErrArg)
	want(t, "far below 0", d.Write("f", math.MinInt, ""), api.ErrArg)
	want(t, "below 0 and too long", d.Write("f", -1, zeros(most+2)), api.ErrArg)
	want(t, "behind the greatest file", d.Write("f", most, "x"), api.ErrLong)
	want(t, "far behind it", d.Write("f", math.MaxInt, "x"), api.ErrLong)
	want(t, "far behind it, without data", d.Write("f", most+1, ""), api.ErrLong)
	want(t, "too long", d.Write("f", 0, zeros(most+1)), api.ErrLong)
	counts(t, d, 0, 0, 0)
	want(t, "the greatest file", d.Write("f", most-1, "x"), api.OK)
	want(t, "too long ahead of full", d.Write("g", most, zeros(11)), api.ErrLong)
	want(t, "no room", d.Write("g", 0, zeros(11)), api.ErrFull)
	want(t, "no room for a gap", d.Write("g", 10, "x"), api.ErrFull)
	counts(t, d, 1, 2, 0)
	want(t, "the last room", d.Write("g", 9, "x"), api.OK)
	want(t, "no longer", d.Write("f", 0, "abc"), api.OK)
	want(t, "a byte more", d.Write("g", 5, "123456"), api.ErrFull)
	holds(t, d, "g", zeros(9)+"x")
	d.Truncate("f", most-1)
	want(t, "room that another file left", d.Write("g", 5, "123456"), api.OK)
	holds(t, d, "g", zeros(5)+"123456")
}

func TestP12WriteNothing(t *testing.T) {
	d := disk.New(3)
	d.Write("f", 0, "abc")
	for _, at := range []int{0, 3, 4, 1000, api.MaxFile} {
		want(t, "without data", d.Write("f", at, ""), api.OK)
		want(t, "without data, without a file", d.Write("g", at, ""), api.OK)
	}
	counts(t, d, 11, 2, 0)
	holds(t, d, "f", "abc")
	if !slices.Equal(d.Names(), []string{"f"}) {
		t.Errorf("Names: %q", d.Names())
	}
}

func TestP12Truncate(t *testing.T) {
	d := disk.New(api.MaxFile)
	want(t, "below 0", d.Truncate("f", -1), api.ErrArg)
	want(t, "far below 0", d.Truncate("f", math.MinInt), api.ErrArg)
	want(t, "too long", d.Truncate("f", api.MaxFile+1), api.ErrLong)
	want(t, "far too long", d.Truncate("f", math.MaxInt), api.ErrLong)
	counts(t, d, 0, 0, 0)
	want(t, "nothing of nothing", d.Truncate("f", 0), api.OK)
	counts(t, d, 1, 0, 0)
	want(t, "longer", d.Truncate("f", 3), api.OK)
	counts(t, d, 2, 1, 0)
	holds(t, d, "f", zeros(3))
	want(t, "the same", d.Truncate("f", 3), api.OK)
	counts(t, d, 3, 1, 0)
	d.Write("f", 0, "abc")
	want(t, "shorter", d.Truncate("f", 1), api.OK)
	holds(t, d, "f", "a")
	want(t, "longer again", d.Truncate("f", 200), api.OK)
	holds(t, d, "f", "a"+zeros(199))
	counts(t, d, 6, 4, 0)
	want(t, "too much for the disk", d.Truncate("g", api.MaxFile-199), api.ErrFull)
	want(t, "all of the disk", d.Truncate("g", api.MaxFile-200), api.OK)
	want(t, "a byte more", d.Truncate("f", 201), api.ErrFull)
	holds(t, d, "f", "a"+zeros(199))
	want(t, "gone", d.Truncate("f", 0), api.OK)
	want(t, "the greatest file", d.Truncate("g", api.MaxFile), api.OK)
	if !slices.Equal(d.Names(), []string{"g"}) {
		t.Errorf("Names: %q", d.Names())
	}
	d.Crash()
	want(t, "down", d.Truncate("g", -1), api.ErrOver)
	want(t, "down", d.Write("g", -1, "x"), api.ErrOver)
}

func TestP13Sync(t *testing.T) {
	d := with("old")
	d.Write("f", 0, "new and longer")
	d.Write("g", 0, "other")
	counts(t, d, 4, 4, 0)
	want(t, "Sync", d.Sync("f"), api.OK)
	counts(t, d, 5, 2, 0)
	want(t, "Sync of no file", d.Sync("nope"), api.OK)
	counts(t, d, 6, 2, 0)
	restarted(t, d)
	holds(t, d, "f", "new and longer")
	holds(t, d, "g", "")
	d.Truncate("f", 3)
	d.Sync("f")
	d.Truncate("f", 5)
	d.Sync("f")
	restarted(t, d)
	holds(t, d, "f", "new"+zeros(2))
	d.Truncate("f", 0)
	d.Sync("f")
	restarted(t, d)
	if len(d.Names()) != 0 {
		t.Errorf("Names: %q", d.Names())
	}
	d.Crash()
	want(t, "down", d.Sync("f"), api.ErrOver)
}

// What was made between two syncs of other files keeps its order: the choices meet the changes that are left.
func TestP13SyncLeavesOthersInOrder(t *testing.T) {
	d := disk.New(1000)
	d.Write("f", 0, "1")
	d.Write("g", 0, "2")
	d.Write("f", 0, "3")
	d.Write("h", 0, "4")
	want(t, "Sync", d.Sync("g"), api.OK)
	counts(t, d, 5, 5, 0)
	restarted(t, d, 1, 1, 0, 1, 0)
	holds(t, d, "f", "1")
	holds(t, d, "g", "2")
	holds(t, d, "h", "\x00")
}

func TestP14SetRoom(t *testing.T) {
	d := with("abcdef")
	d.SetRoom(3)
	holds(t, d, "f", "abcdef")
	want(t, "not longer", d.Write("f", 0, "ABCDEF"), api.OK)
	want(t, "longer", d.Write("f", 6, "g"), api.ErrFull)
	want(t, "shorter, though above the room", d.Truncate("f", 5), api.OK)
	want(t, "longer again", d.Truncate("f", 6), api.ErrFull)
	d.SetRoom(6)
	want(t, "with room", d.Truncate("f", 6), api.OK)
	d.SetRoom(-5)
	want(t, "another file", d.Write("g", 0, "x"), api.ErrFull)
	d.Crash()
	d.SetRoom(math.MaxInt)
	restarted(t, d)
	want(t, "room of any size", d.Write("g", 0, "x"), api.OK)
}

func TestP14CrashIn(t *testing.T) {
	steps := []func(d *disk.Disk) api.Errno{
		func(d *disk.Disk) api.Errno { return d.Write("f", 0, "new") },
		func(d *disk.Disk) api.Errno { return d.Truncate("f", 1) },
		func(d *disk.Disk) api.Errno { return d.Sync("f") },
		func(d *disk.Disk) api.Errno { return d.Write("g", 0, "") },
	}
	for n := 1; n <= len(steps); n++ {
		d := restarted(t, with("old"))
		d.CrashIn(n)
		for i, step := range steps {
			e := api.OK
			if i+1 >= n {
				e = api.ErrOver
			}
			want(t, "step", step(d), e)
			if d.Down() != (i+1 >= n) || d.Steps() != min(i+1, n) {
				t.Errorf("to crash at %d, behind %d: down %v, steps %d", n, i+1, d.Down(), d.Steps())
			}
		}
	}
}

func TestP14CrashingStep(t *testing.T) {
	d := with("old")
	d.CrashIn(1)
	want(t, "a refused call is no step", d.Write("f", -1, "x"), api.ErrArg)
	want(t, "nor is this one", d.Truncate("f", api.MaxFile+1), api.ErrLong)
	want(t, "a Write that crashes", d.Write("f", 0, "newer"), api.ErrOver)
	counts(t, d, 3, 2, 0)
	want(t, "Restart", d.Restart([]int{1, 1}), api.OK)
	holds(t, d, "f", "newer")
	d.CrashIn(1)
	want(t, "a Truncate that crashes", d.Truncate("f", 1), api.ErrOver)
	counts(t, d, 1, 1, 1)
	want(t, "Restart", d.Restart([]int{1}), api.OK)
	holds(t, d, "f", "n")
	d.Write("f", 0, "N")
	d.CrashIn(1)
	want(t, "a Sync that crashes", d.Sync("f"), api.ErrOver)
	counts(t, d, 2, 1, 2)
	want(t, "Restart", d.Restart(nil), api.OK)
	holds(t, d, "f", "n")
}

func TestP14CrashInIsSetAnew(t *testing.T) {
	for _, n := range []int{0, -1, math.MinInt} {
		d := with("")
		d.CrashIn(1)
		d.CrashIn(n)
		want(t, "no step is to crash", d.Write("f", 0, "x"), api.OK)
	}
	d := with("")
	d.CrashIn(2)
	want(t, "first", d.Sync("f"), api.OK)
	d.CrashIn(2)
	want(t, "second", d.Sync("f"), api.OK)
	want(t, "third", d.Sync("f"), api.ErrOver)
	d = with("")
	d.CrashIn(math.MaxInt)
	want(t, "a far one", d.Sync("f"), api.OK)
}

func TestP14Crash(t *testing.T) {
	d := disk.New(100)
	if d.Down() {
		t.Error("a new disk is up")
	}
	d.Write("f", 0, "x")
	d.Crash()
	d.Crash()
	if !d.Down() {
		t.Error("a disk that crashed is down")
	}
	want(t, "Write", d.Write("f", 0, "y"), api.ErrOver)
	want(t, "Sync", d.Sync("f"), api.ErrOver)
	counts(t, d, 1, 2, 0)
	restarted(t, d)
	if d.Down() {
		t.Error("a disk that was started again is up")
	}
	counts(t, d, 0, 0, 1)
}

func TestP15RestartRefused(t *testing.T) {
	d := with("abc")
	d.Write("f", 0, "x")
	want(t, "Restart of a disk that is up", d.Restart([]int{1}), api.ErrNone)
	counts(t, d, 3, 1, 0)
	holds(t, d, "f", "xbc")
}

func TestP15Choices(t *testing.T) {
	old, fresh := strings.Repeat("o", 64), strings.Repeat("n", 64)
	for _, c := range []struct{ choice, arrived int }{
		{math.MinInt, 0}, {-1, 0}, {0, 0}, {1, 64}, {2, 1}, {3, 2}, {63, 62}, {64, 63}, {65, 1}, {66, 2},
		{math.MaxInt, 1 + (math.MaxInt-2)%63},
	} {
		d := with(old + old)
		d.Write("f", 64, fresh)
		restarted(t, d, c.choice)
		holds(t, d, "f", old+fresh[:c.arrived]+old[c.arrived:])
	}
	for _, choice := range []int{math.MinInt, -1, 0, 1, 2, 3, 64, 65, math.MaxInt} {
		d := with("abcdef")
		d.Truncate("f", 2)
		restarted(t, d, choice)
		if choice > 0 {
			holds(t, d, "f", "ab")
		} else {
			holds(t, d, "f", "abcdef")
		}
	}
}

func TestP15FewAndManyChoices(t *testing.T) {
	d := with("....")
	d.Write("f", 0, "x")
	d.Write("f", 1, "y")
	choices := []int{1, 1, 1, 7, 7}
	e := d.Copy()
	restarted(t, d, choices[:1]...)
	holds(t, d, "f", "x...")
	restarted(t, e, choices...)
	holds(t, e, "f", "xy..")
	if !slices.Equal(choices, []int{1, 1, 1, 7, 7}) {
		t.Error("what is handed in is not changed")
	}
}

// A sector is laid into the file that is kept: no longer than that one is, and whole with what lay behind its end.
func TestP15SectorsAndLengths(t *testing.T) {
	d := with("ab")
	d.Write("f", 2, "cd")
	restarted(t, d, 0, 1)
	holds(t, d, "f", "ab")
	d.Truncate("f", 4)
	holds(t, d, "f", "ab"+zeros(2))

	d = disk.New(1000)
	d.Write("f", 0, "abcd")
	d.Truncate("f", 6)
	restarted(t, d, 0, 1, 1)
	holds(t, d, "f", zeros(6))

	d = with("abcdef")
	d.Truncate("f", 2)
	d.Truncate("f", 6)
	e := d.Copy()
	restarted(t, d, 1, 1)
	holds(t, d, "f", "ab"+zeros(4))
	restarted(t, e, 0, 1)
	holds(t, e, "f", "abcdef")

	d = with(strings.Repeat("o", 70))
	d.Truncate("f", 2)
	d.Write("f", 1, "n")
	restarted(t, d, 0, 1)
	holds(t, d, "f", "on"+zeros(62)+"oooooo")
}

func TestP15StartsAfresh(t *testing.T) {
	d := with("abc")
	d.Write("f", 0, "x")
	d.CrashIn(3)
	restarted(t, d, 1)
	counts(t, d, 0, 0, 1)
	for range 5 {
		want(t, "no step is to crash", d.Sync("f"), api.OK)
	}
	restarted(t, d)
	holds(t, d, "f", "xbc")
	d.Crash()
	d.CrashIn(1)
	restarted(t, d)
	want(t, "none that was set while it was down", d.Sync("f"), api.OK)
	counts(t, d, 1, 0, 3)
}

func TestP15MoreThanRoom(t *testing.T) {
	d := disk.New(3)
	d.Write("f", 0, "abc")
	d.Sync("f")
	d.Truncate("f", 0)
	d.Write("g", 0, "xyz")
	restarted(t, d, 0, 1, 1)
	holds(t, d, "f", "abc")
	holds(t, d, "g", "xyz")
	want(t, "no longer", d.Write("g", 3, "!"), api.ErrFull)
}

func TestP16Copy(t *testing.T) {
	d := restarted(t, with("old"))
	d.SetRoom(200)
	d.Write("f", 0, "new")
	d.Write("g", 0, "g")
	d.CrashIn(2)
	e := d.Copy()
	counts(t, e, 2, 3, 1)
	want(t, "a Write of the first one", d.Write("f", 0, "NEW"), api.OK)
	want(t, "its Sync crashes", d.Sync("f"), api.ErrOver)
	holds(t, e, "f", "new")
	counts(t, e, 2, 3, 1)
	want(t, "the room is the same", e.Truncate("g", 198), api.ErrFull)
	want(t, "a step of the other one", e.Truncate("g", 197), api.OK)
	want(t, "its second one crashes too", e.Write("h", 0, ""), api.ErrOver)
	f := e.Copy()
	if !f.Down() {
		t.Error("a copy of a disk that is down is down")
	}
	restarted(t, d, 0, 1, 1, 1)
	restarted(t, e, 1)
	restarted(t, f, 0, 1, 1)
	holds(t, d, "f", "NEW")
	holds(t, d, "g", "g")
	holds(t, e, "f", "new")
	holds(t, e, "g", "")
	holds(t, f, "f", "old")
	holds(t, f, "g", "g")
	d.Write("f", 0, "!!!")
	d.Sync("f")
	holds(t, e, "f", "new")
	restarted(t, f)
	holds(t, f, "f", "old")
}

// A nil disk and a zero one, which no call has made, are as one that is not there.
func TestNoDisk(t *testing.T) {
	for _, d := range []*disk.Disk{nil, {}} {
		d.SetRoom(100)
		d.CrashIn(1)
		d.Crash()
		if s, e := d.Read("f", -1, 1); s != "" || e != api.ErrNil {
			t.Errorf("Read: %q %v", s, e)
		}
		want(t, "Write", d.Write("f", -1, "x"), api.ErrNil)
		want(t, "Truncate", d.Truncate("f", -1), api.ErrNil)
		want(t, "Sync", d.Sync("f"), api.ErrNil)
		want(t, "Restart", d.Restart([]int{1}), api.ErrNil)
		if d.Len("f") != 0 || d.Names() != nil || d.Down() || d.Copy() != nil {
			t.Error("a disk that is not there tells nothing")
		}
		counts(t, d, 0, 0, 0)
	}
}
