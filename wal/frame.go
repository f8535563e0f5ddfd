package wal

import "bureau/api"

const (
	numberSize = 4
	frameSize  = api.SectorSize + api.PageSize
)

// frame is a page of the log.
type frame struct {
	api.PageAt        // its number is 0 in a commit that changes no page
	end        uint32 // the count, and 1, of the commit that the frame ends; 0: it ends none
	plain      bool   // its sector holds nothing but the two numbers
}

// frameStart is where a frame begins in the log; frames are numbered from 1 on.
func frameStart(k int) int { return api.SectorSize + frameSize*(k-1) }

// framesOf is the frames of a commit: there is one also where no page is changed, as the last one tells the count.
func framesOf(count int, pages []api.PageAt) []frame {
	frames := make([]frame, max(len(pages), 1))
	for i, p := range pages {
		frames[i].PageAt = p
	}
	frames[len(frames)-1].end = uint32(count + 1)
	return frames
}

// ends tells whether the frame ends a commit.
func (f frame) ends() bool { return f.end != 0 }

// mayBe tells whether a commit could have a frame like that.
func (f frame) mayBe() bool {
	return f.plain && f.N <= api.MaxPages && f.end <= api.MaxPages+1 && (f.N != 0 || f.ends())
}

// layFrame is a frame's bytes: a sector with the two numbers, and the page.
func layFrame(f frame) string {
	b := make([]byte, frameSize)
	layNumber(b, uint32(f.N))
	layNumber(b[numberSize:], f.end)
	copy(b[api.SectorSize:], f.P[:])
	return string(b)
}

// readFrame is the frame of bytes, as many as a frame has.
func readFrame(s string) frame {
	f := frame{end: readNumber(s[numberSize:]), plain: isZeros(s[2*numberSize : api.SectorSize])}
	f.N = int(readNumber(s))
	copy(f.P[:], s[api.SectorSize:])
	return f
}

// layNumber puts a number's bytes at the beginning of b, the highest one first.
func layNumber(b []byte, n uint32) {
	for i := range numberSize {
		b[numberSize-1-i] = byte(n)
		n >>= 8
	}
}

// readNumber is the number at the beginning of s.
func readNumber(s string) uint32 {
	n := uint32(0)
	for i := range numberSize {
		n <<= 8
		n |= uint32(s[i])
	}
	return n
}

// isZeros tells whether all bytes are 0.
func isZeros(s string) bool {
	for i := range len(s) {
		if s[i] != 0 {
			return false
		}
	}
	return true
}
