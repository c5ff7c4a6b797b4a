package tree

import (
	"slices"

	"lodestone/api"
	"lodestone/node"
	"lodestone/pager"
)

// What becomes of the page in which a key is, or would be.
const (
	putting = iota
	deleting
	again
)

// spot is a key in a tree.
type spot struct {
	pager *pager.Pager
	key   string
}

// read is a page's node.
func (s spot) read(r api.Ref) (api.Node, api.Errno) { return Node(s.pager, r) }

// change is what becomes of the page of a spot, and so of all above it.
type change struct {
	spot
	what  int
	value string
	deep  int       // how deep the page is
	old   []api.Ref // pages that others stand for now
}

// made is the root behind a change: the old pages go only when all new ones are laid.
func (c *change) made(r api.Ref) (api.Ref, api.Errno) {
	root, e := c.root(r)
	if e != api.OK {
		return r, e
	}
	for _, old := range c.old {
		c.pager.Drop(old)
	}
	return root, api.OK
}

// root is the root behind a change, with the old pages still there.
func (c *change) root(r api.Ref) (api.Ref, api.Errno) {
	parts := []api.Node{{Entries: []api.Entry{{Key: c.key, Value: c.value}}}}
	if !none(r) {
		var e api.Errno
		parts, e = c.page(r, 1)
		if e != api.OK {
			return r, e
		}
	}
	switch {
	case len(parts) == 0:
		return api.Ref{Place: noPlace}, api.OK
	case len(parts) > 1:
		return c.above(parts)
	case len(parts[0].Kids) == 1:
		return c.only(parts[0].Kids[0].Ref)
	}
	kids, e := c.laid(parts)
	if e != api.OK {
		return r, e
	}
	return kids[0].Ref, api.OK
}

// above is a new root above several pages.
func (c *change) above(parts []api.Node) (api.Ref, api.Errno) {
	if c.deep >= api.MostDepth {
		return api.Ref{}, api.ErrFull
	}
	kids, e := c.laid(parts)
	if e != api.OK {
		return api.Ref{}, e
	}
	kids, e = c.laid([]api.Node{{Kids: kids}})
	if e != api.OK {
		return api.Ref{}, e
	}
	return kids[0].Ref, api.OK
}

// only is the root where a page would be the only one below it.
func (c *change) only(r api.Ref) (api.Ref, api.Errno) {
	for range api.MostDepth {
		n, e := c.read(r)
		if e != api.OK {
			return api.Ref{}, e
		}
		if len(n.Kids) != 1 {
			return r, api.OK
		}
		c.old = append(c.old, r)
		r = n.Kids[0].Ref
	}
	return api.Ref{}, api.ErrIntegrity
}

// page is what stands for a page behind the change: no node, one, or two. They are not laid yet.
func (c *change) page(r api.Ref, depth int) ([]api.Node, api.Errno) {
	if depth > api.MostDepth {
		return nil, api.ErrIntegrity
	}
	n, e := c.read(r)
	if e != api.OK {
		return nil, e
	}
	c.old = append(c.old, r)
	if len(n.Kids) == 0 {
		c.deep = depth
		n = c.entries(n)
	} else if n, e = c.below(n, depth); e != api.OK {
		return nil, e
	}
	if len(n.Entries)+len(n.Kids) == 0 {
		return nil, api.OK
	}
	return node.Split(n), api.OK
}

// entries is a node of entries behind the change.
func (c *change) entries(n api.Node) api.Node {
	at, found := node.Find(n, c.key)
	behind := at
	if found {
		behind++
	}
	switch c.what {
	case putting:
		n.Entries = slices.Concat(n.Entries[:at:at], []api.Entry{{Key: c.key, Value: c.value}}, n.Entries[behind:])
	case deleting:
		n.Entries = slices.Concat(n.Entries[:at:at], n.Entries[behind:])
	}
	return n
}

// below is a node of pages behind the change, whose new pages are laid.
func (c *change) below(n api.Node, depth int) (api.Node, api.Errno) {
	from := node.Below(n, c.key)
	to := from + 1
	parts, e := c.page(n.Kids[from].Ref, depth+1)
	if e != api.OK {
		return api.Node{}, e
	}
	if len(parts) == 1 {
		from, to, e = c.together(n, from, parts)
		if e != api.OK {
			return api.Node{}, e
		}
	}
	kids, e := c.laid(parts)
	if e != api.OK {
		return api.Node{}, e
	}
	return api.Node{Kids: slices.Concat(n.Kids[:from:from], kids, n.Kids[to:])}, api.OK
}

// together puts what stands for a page alone together with the page beside it, if one of the two has few bytes and both go into one: it stands for the pages from one place on and below another one then.
func (c *change) together(n api.Node, at int, parts []api.Node) (int, int, api.Errno) {
	beside := at + 1
	if beside == len(n.Kids) {
		beside = at - 1
	}
	if beside < 0 {
		return at, at + 1, api.OK
	}
	other, e := c.read(n.Kids[beside].Ref)
	if e != api.OK {
		return 0, 0, e
	}
	both := node.Both(parts[0], other)
	if beside < at {
		both = node.Both(other, parts[0])
	}
	few := node.Size(parts[0]) < fewerBytes || node.Size(other) < fewerBytes
	if !few || !node.May(both) || node.Size(both) > api.PlainBytes {
		return at, at + 1, api.OK
	}
	c.old = append(c.old, n.Kids[beside].Ref)
	parts[0] = both
	return min(at, beside), max(at, beside) + 1, api.OK
}

// laid is new pages.
func (c *change) laid(parts []api.Node) ([]api.Kid, api.Errno) {
	var kids []api.Kid
	for _, part := range parts {
		s := node.Put(part)
		if s == "" {
			return nil, api.ErrIntegrity
		}
		r, e := c.pager.Write(s)
		if e != api.OK {
			return nil, e
		}
		kids = append(kids, api.Kid{Low: node.Keys(part)[0], Ref: r})
	}
	return kids, api.OK
}
