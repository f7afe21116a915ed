// Package arena: see DOC.md, chapter 1.
package arena

import "gloaming/api"

// words is embedded as a value: there is none to reach through a nil Arena,
// so each call of an Arena asks for nil first.
type words struct {
	cells []int
}

func (w *words) has(at int) bool {
	return 0 <= at && at < len(w.cells)
}

// from takes no length: the sum of a place and a length could wrap round.
// A place behind the end has no words from it on; at is not below 0.
func (w *words) from(at int) []int {
	return w.cells[min(at, len(w.cells)):]
}

// Arena is words.
type Arena struct {
	words
}

// New makes one.
func New(pages int) (*Arena, api.Errno) {
	if pages < 1 || pages > api.MaxPages {
		return nil, api.ErrArg
	}
	return &Arena{words{make([]int, pages*api.PageWords)}}, api.OK
}

func (a *Arena) Len() int {
	if a == nil {
		return 0
	}
	return len(a.cells)
}

func (a *Arena) Load(at int) (int, api.Errno) {
	if a == nil || !a.has(at) {
		return 0, api.ErrNone
	}
	return a.cells[at], api.OK
}

func (a *Arena) Store(at, x int) api.Errno {
	if a == nil || !a.has(at) {
		return api.ErrNone
	}
	a.cells[at] = x
	return api.OK
}

func (a *Arena) Fill(at, n int) api.Errno {
	if a == nil {
		return api.ErrNone
	}
	if n < 0 {
		return api.ErrArg
	}
	if at < 0 {
		return api.ErrNone
	}
	rest := a.from(at)
	if len(rest) < n {
		return api.ErrNone
	}
	clear(rest[:n])
	return api.OK
}
