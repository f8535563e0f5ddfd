package page_test

import (
	"fmt"
	"math"
	"slices"
	"strings"
	"testing"

	"bureau/api"
	"bureau/page"
)

// full is how many bytes a page has for cells and their lengths.
const full = api.PageSize - 6

// far are places that no page has.
var far = []int{-1, -2, -60, -255, -256, -257, math.MinInt, math.MinInt + 1, math.MinInt32, 126, 250, 255, 256, 257, 512, 1 << 16, math.MaxInt32, math.MaxInt - 1, math.MaxInt}

// links are those that tell the link's four bytes apart.
var links = []uint32{0, 1, 7, 255, 256, 0x01020304, 0x80000000, 0x00ff0000, math.MaxUint32}

func long(s string, n int) string { return strings.Repeat(s, n) }

// ones are n cells of one byte each.
func ones(n int) []string { return slices.Repeat([]string{"x"}, n) }

// spec is a page as the chapter's words see it.
type spec struct {
	kind  api.PageKind
	link  uint32
	cells []string
}

// page is a spec's bytes, by the chapter's words.
func (s spec) page() (p api.Page) {
	b := []byte{byte(s.kind), byte(len(s.cells)), byte(s.link >> 24), byte(s.link >> 16), byte(s.link >> 8), byte(s.link)}
	for _, c := range s.cells {
		b = append(b, byte(len(c)))
	}
	for _, c := range s.cells {
		b = append(b, c...)
	}
	if len(b) > len(p) {
		panic("a page of too many bytes")
	}
	for i := range b {
		p[i] = b[i]
	}
	return p
}

// size is how many bytes a spec's cells and their lengths take.
func (s spec) size() int { return len(s.cells) + len(strings.Join(s.cells, "")) }

// with is the spec with a cell more, without with one less.
func (s spec) with(i int, cell string) spec {
	return spec{s.kind, s.link, slices.Insert(slices.Clone(s.cells), i, cell)}
}

func (s spec) without(i int) spec {
	return spec{s.kind, s.link, slices.Delete(slices.Clone(s.cells), i, i+1)}
}

// specs are pages of all kinds: without cells, with short and long ones, with zeros in them, with no room left and with little.
func specs() []spec {
	lists := [][]string{
		nil, {"a"}, {"\x00"}, {"ab", "c"}, {"ab", "xyz", "c"}, {"c", "ab"}, {"a", "a", "a"}, {"\x00\x00", "\x00", "a\x00\x00"},
		{long("m", 60)}, {"a", long("m", 60), "b"}, {long("m", 60), long("n", 59), long("\xff", 60)},
		ones(full/2 - 1), ones(full / 2), append(ones(full/2-1), "yz")[1:], append(slices.Repeat([]string{long("\x00", 60)}, 4), "vwxyz"),
		append(slices.Repeat([]string{long("o", 60)}, 4), "wxyz"), append(ones(60), long("p", 60), long("q", 60)), {"\x01", "\x02\x03", "\x3c", "\x3d\x06"},
	}
	var all []spec
	for i, cells := range lists {
		for kind := api.PageFree; kind <= api.PageSpill; kind++ {
			all = append(all, spec{kind, links[(i+int(kind))%len(links)], cells})
		}
	}
	return all
}

// bad are pages that may not be, each by what is wrong in it.
func bad() map[string]api.Page {
	all := map[string]api.Page{}
	change := func(name string, s spec, at int, b byte) {
		p := s.page()
		p[at] = b
		all[name] = p
	}
	two := spec{api.PageRows, 7, []string{"ab", "c"}}
	tight := spec{api.PageKeys, 8, append(slices.Repeat([]string{long("o", 60)}, 4), "vwxyz")}
	for _, k := range []byte{6, 7, 8, 16, 64, 128, 129, 255} {
		change(fmt.Sprintf("kind %d", k), two, 0, k)
		change(fmt.Sprintf("kind %d, no cells", k), spec{}, 0, k)
	}
	for n := 3; n < 256; n++ {
		change(fmt.Sprintf("%d cells, bytes of two", n), two, 1, byte(n))
	}
	for n := 126; n < 256; n++ {
		p := api.Page{1, byte(n)}
		for i := 6; i < len(p); i++ {
			p[i] = 1
		}
		all[fmt.Sprintf("%d cells of a byte each", n)] = p
	}
	change("a cell more than it says", two, 1, 1)
	change("cells, but it says none", two, 1, 0)
	change("a first length of 0", two, 6, 0)
	change("a last length of 0", two, 7, 0)
	for _, n := range []byte{61, 62, 64, 127, 128, 251, 252, 255} {
		change(fmt.Sprintf("a first length of %d", n), two, 6, n)
		change(fmt.Sprintf("a last length of %d", n), two, 7, n)
		change(fmt.Sprintf("a last length of %d in a page without room", n), tight, 10, n)
	}
	for n := byte(6); n <= 60; n++ {
		change(fmt.Sprintf("a last length of %d, where 5 have room", n), tight, 10, n)
	}
	change("a length shorter by one", two, 6, 1)
	change("a last length shorter by one in a page without room", tight, 10, 4)
	for at := 11; at < api.PageSize; at++ {
		change(fmt.Sprintf("a byte %d behind the cells", at), two, at, byte(at))
		change(fmt.Sprintf("a byte %d, no cells", at), spec{kind: api.PageSpill}, at, 1)
	}
	change("a last byte 1", two, 255, 1)
	change("a last byte 128", two, 255, 128)
	last := api.Page{}
	for i := range last {
		last[i] = 255
	}
	all["bytes of 255 alone"] = last
	return all
}

func TestP51Check(t *testing.T) {
	if e := page.Check(api.Page{}); e != api.OK {
		t.Error("a page of zeros:", e)
	}
	for _, s := range specs() {
		if e := page.Check(s.page()); e != api.OK {
			t.Errorf("%v: %v", s, e)
		}
	}
	for name, p := range bad() {
		if e := page.Check(p); e != api.ErrBad {
			t.Errorf("%s: %v", name, e)
		}
	}
}

func TestP51CheckKinds(t *testing.T) {
	for k := range 256 {
		p := spec{0, 9, []string{"cell"}}.page()
		p[0] = byte(k)
		want := api.OK
		if k > 5 {
			want = api.ErrBad
		}
		if e := page.Check(p); e != want {
			t.Errorf("kind %d: %v", k, e)
		}
	}
}

func TestP51CheckLengths(t *testing.T) {
	for n := range 256 {
		for _, lengths := range [][]byte{{byte(n)}, {byte(n), 1, 60}, {60, byte(n), 1}, {1, 60, byte(n)}} {
			p := api.Page{byte(api.PageKeysIn), byte(len(lengths)), 1, 2, 3, 4}
			copy(p[6:], lengths)
			want := api.OK
			if n == 0 || n > api.MaxCell {
				want = api.ErrBad
			}
			if e := page.Check(p); e != want {
				t.Errorf("lengths %v: %v", lengths, e)
			}
		}
	}
}

func TestP51New(t *testing.T) {
	p, e := page.New(api.PageRows, 7, "ab", "c")
	if e != api.OK || string(p[:12]) != "\x01\x02\x00\x00\x00\x07\x02\x01abc\x00" || p != (api.Page{1, 2, 0, 0, 0, 7, 2, 1, 'a', 'b', 'c'}) {
		t.Errorf("% x %v", p, e)
	}
	if p, e := page.New(api.PageFree, 0); p != (api.Page{}) || e != api.OK {
		t.Errorf("nothing: % x %v", p, e)
	}
	if p, e := page.New(api.PageSpill, 0x01020304); p != (api.Page{5, 0, 1, 2, 3, 4}) || e != api.OK {
		t.Errorf("a kind and a link: % x %v", p, e)
	}
	for _, s := range specs() {
		kept := slices.Clone(s.cells)
		if p, e := page.New(s.kind, s.link, s.cells...); p != s.page() || e != api.OK {
			t.Errorf("%v: % x %v", s, p, e)
		}
		if !slices.Equal(kept, s.cells) {
			t.Error("cells that were handed in are changed")
		}
	}
}

func TestP51NewRoom(t *testing.T) {
	sixty := slices.Repeat([]string{long("s", 60)}, 4)
	for _, c := range []struct {
		cells []string
		want  api.Errno
	}{
		{ones(125), api.OK}, {ones(126), api.ErrFull}, {ones(250), api.ErrFull}, {ones(251), api.ErrFull},
		{ones(255), api.ErrFull}, {ones(256), api.ErrFull}, {ones(257), api.ErrFull}, {ones(512), api.ErrFull}, {ones(1 << 16), api.ErrFull},
		{sixty, api.OK}, {append(slices.Clone(sixty), "12345"), api.OK}, {append(slices.Clone(sixty), "123456"), api.ErrFull},
		{append(slices.Clone(sixty), "12", "34"), api.OK}, {append(slices.Clone(sixty), "12", "345"), api.ErrFull}, {append(slices.Clone(sixty), "1", "2", "3"), api.OK},
		{append(slices.Clone(sixty), "1", "2", "3", "4"), api.ErrFull}, {append(slices.Clone(sixty), long("s", 60)), api.ErrFull},
		{append(ones(124), "ab"), api.ErrFull}, {append(ones(123), "abc"), api.OK}, {append(ones(123), "abcd"), api.ErrFull},
	} {
		p, e := page.New(api.PageKeys, 3, c.cells...)
		if e != c.want || (e != api.OK && p != (api.Page{})) || (e == api.OK && p != spec{api.PageKeys, 3, c.cells}.page()) {
			t.Errorf("%d cells, %d bytes: %v", len(c.cells), spec{cells: c.cells}.size(), e)
		}
	}
}

func TestP51NewRefuses(t *testing.T) {
	tooLong, filling := long("l", 61), ones(126)
	for _, c := range []struct {
		name  string
		kind  api.PageKind
		cells []string
		want  api.Errno
	}{
		{"kind 6", 6, nil, api.ErrArg}, {"kind 7", 7, []string{"a"}, api.ErrArg}, {"kind 128", 128, nil, api.ErrArg}, {"kind 255", 255, []string{"a"}, api.ErrArg},
		{"kind 6, a long cell", 6, []string{tooLong}, api.ErrArg}, {"kind 6, too many", 6, filling, api.ErrArg},
		{"an empty cell", 1, []string{""}, api.ErrArg}, {"a first empty cell", 1, []string{"", "a"}, api.ErrArg}, {"a last empty cell", 1, []string{"a", ""}, api.ErrArg},
		{"a long one, an empty one", 1, []string{tooLong, ""}, api.ErrArg}, {"an empty one, a long one", 1, []string{"", tooLong}, api.ErrArg},
		{"too many, an empty one", 1, append(slices.Clone(filling), ""), api.ErrArg}, {"an empty one, too many", 1, append([]string{""}, filling...), api.ErrArg},
		{"empty ones, more than a page has", 1, make([]string, 300), api.ErrArg},
		{"61 bytes", 1, []string{tooLong}, api.ErrLong}, {"256 bytes", 1, []string{long("l", 256)}, api.ErrLong}, {"257 bytes", 0, []string{long("l", 257)}, api.ErrLong}, {"100000 bytes", 5, []string{long("l", 100000)}, api.ErrLong},
		{"a last long one", 1, []string{"a", tooLong}, api.ErrLong}, {"a first long one", 1, []string{tooLong, "a"}, api.ErrLong},
		{"a long one, too many", 1, append([]string{tooLong}, filling...), api.ErrLong}, {"too many, a long one", 1, append(slices.Clone(filling), tooLong), api.ErrLong},
	} {
		if p, e := page.New(c.kind, 1, c.cells...); e != c.want || p != (api.Page{}) {
			t.Errorf("%s: % x %v", c.name, p, e)
		}
	}
}

func TestP52Told(t *testing.T) {
	for _, s := range specs() {
		p := s.page()
		if page.Kind(p) != s.kind || page.Count(p) != len(s.cells) || page.Link(p) != s.link || page.Room(p) != full-s.size() {
			t.Errorf("%v: %d %d %d %d", s, page.Kind(p), page.Count(p), page.Link(p), page.Room(p))
		}
		for _, link := range links {
			if got := page.Link(spec{s.kind, link, s.cells}.page()); got != link {
				t.Errorf("link %x: %x", link, got)
			}
		}
	}
	if n := page.Room(api.Page{}); n != 250 {
		t.Error("room of no cells:", n)
	}
	if n := page.Room(spec{1, 7, []string{"ab", "c"}}.page()); n != 245 {
		t.Error("room of ab, c:", n)
	}
	if n := page.Room(spec{cells: ones(125)}.page()); n != 0 {
		t.Error("room of a full page:", n)
	}
	if n := page.Room(spec{cells: []string{"a\x00\x00"}}.page()); n != 246 {
		t.Error("zeros of a cell are counted as room:", n)
	}
}

func TestP52ToldOfBad(t *testing.T) {
	for name, p := range bad() {
		if page.Kind(p) != 0 || page.Count(p) != 0 || page.Link(p) != 0 || page.Room(p) != 0 {
			t.Errorf("%s: %d %d %d %d", name, page.Kind(p), page.Count(p), page.Link(p), page.Room(p))
		}
		all := page.Cells(p)
		if all == nil {
			t.Fatalf("%s: no iterator", name)
		}
		for i, c := range all {
			t.Errorf("%s: told %d %q", name, i, c)
		}
		for _, i := range []int{0, 1, -1, 2, math.MinInt, math.MaxInt} {
			if c, e := page.Cell(p, i); c != "" || e != api.ErrBad {
				t.Errorf("%s: cell %d is %q %v", name, i, c, e)
			}
		}
	}
}

func TestP52Cell(t *testing.T) {
	for _, s := range specs() {
		p := s.page()
		for i, want := range s.cells {
			if c, e := page.Cell(p, i); c != want || e != api.OK {
				t.Errorf("%v: cell %d is %q %v", s, i, c, e)
			}
		}
		for _, i := range append([]int{len(s.cells), len(s.cells) + 1}, far...) {
			if c, e := page.Cell(p, i); c != "" || e != api.ErrNone {
				t.Errorf("%v: cell %d is %q %v", s, i, c, e)
			}
		}
	}
}

// told are the cells that an iterator tells, up to n of them; it must tell them with their places.
func told(t *testing.T, all func(func(int, string) bool), n int) (cells []string) {
	t.Helper()
	for i, c := range all {
		if i != len(cells) {
			t.Errorf("place %d behind %d cells", i, len(cells))
		}
		if cells = append(cells, c); len(cells) == n {
			break
		}
	}
	return cells
}

func TestP52Cells(t *testing.T) {
	for _, s := range specs() {
		p := s.page()
		all := page.Cells(p)
		if got := told(t, all, -1); !slices.Equal(got, s.cells) {
			t.Errorf("%v: %q", s, got)
		}
		for n := 1; n <= len(s.cells); n++ {
			if got := told(t, all, n); !slices.Equal(got, s.cells[:n]) {
				t.Errorf("%v: left behind %d: %q", s, n, got)
			}
		}
		p[0], p[6] = 9, 200
		if got := told(t, all, -1); !slices.Equal(got, s.cells) {
			t.Errorf("%v: gone over again: %q", s, got)
		}
	}
}

func TestP52CellsWithinThemselves(t *testing.T) {
	want := []string{"ab", "xyz", "c"}
	all := page.Cells(spec{1, 7, want}.page())
	rounds := 0
	for range all {
		rounds++
		if got := told(t, all, 2); !slices.Equal(got, want[:2]) {
			t.Errorf("%q", got)
		}
		if got := told(t, all, -1); !slices.Equal(got, want) {
			t.Errorf("%q", got)
		}
	}
	if rounds != 3 {
		t.Error(rounds)
	}
}
