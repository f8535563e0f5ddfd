package store

import (
	"maps"

	"bureau/api"
)

// content is what a transaction has: a count of pages, and those of them that it put. The others are as they were when it began: a page that was cut off comes back only by being put.
type content struct {
	count int
	put   map[int]api.Page
}

func (c content) clone() content { return content{c.count, maps.Clone(c.put)} }

// set makes p the page n, which may be the first one behind the end.
func (c *content) set(n int, p api.Page) {
	c.put[n] = p
	c.count = max(c.count, n)
}

// cut leaves a count of pages.
func (c *content) cut(count int) {
	c.count = count
	maps.DeleteFunc(c.put, func(n int, _ api.Page) bool { return n > count })
}
