package journal

import "bureau/api"

// The files' names.
const (
	dbFile      = "db"
	journalFile = "journal"
)

// The places of the numbers of the journal's head; those behind them are 0.
const (
	recordsAnd1 = iota // 0: the journal is not hot
	countBefore
)

const (
	numberSize = 4
	recordSize = api.SectorSize + api.PageSize
)

// pageStart is where a page begins in db.
func pageStart(n int) int { return api.PageSize * (n - 1) }

// recordStart is where a record begins in the journal.
func recordStart(k int) int { return api.SectorSize + recordSize*k }

// layRecord is the bytes of a record: a sector with the page's number, the greatest byte first, and the page.
func layRecord(p api.PageAt) string {
	b := make([]byte, recordSize)
	n := uint32(p.N)
	for i := range numberSize {
		b[numberSize-1-i] = byte(n)
		n >>= 8
	}
	copy(b[api.SectorSize:], p.P[:])
	return string(b)
}

// readRecord is the page of a record; false of bytes that layRecord does not lay.
func readRecord(s string) (api.PageAt, bool) {
	if len(s) != recordSize {
		return api.PageAt{}, false
	}
	n := uint32(0)
	for i := range numberSize {
		n <<= 8
		n |= uint32(s[i])
	}
	p := api.PageAt{N: int(n)}
	copy(p.P[:], s[api.SectorSize:])
	return p, layRecord(p) == s
}
