package vault

import (
	"lodestone/anchor"
	"lodestone/api"
	"lodestone/blob"
	"lodestone/ring"
	"lodestone/tree"
	"lodestone/wal"
)

// start begins a store: the first anchor is laid.
func (v *Vault) start() api.Errno {
	a := anchor.First()
	a.From = v.ring.First
	return v.lay(a)
}

// resume goes on with a store that the register tells of.
func (v *Vault) resume() api.Errno {
	register := v.device.Register()
	// The number is another one than any that blocks were sealed with, whatever became of these.
	if e := v.device.Bump(register); e != api.OK {
		return e
	}
	slot := int(register[0]) - 1
	if slot < 0 || slot >= api.AnchorBlocks {
		return api.ErrIntegrity
	}
	_, held, _, e := v.pager.Fetch(slot, register[1:])
	if e != api.OK {
		return e
	}
	a, e := anchor.Get(held)
	if e != api.OK || anchor.Slot(a) != slot {
		return api.ErrIntegrity
	}
	v.anchor = a
	v.pager.Epoch(a.Epoch)
	if e := v.claim(); e != api.OK {
		return e
	}
	return v.replay()
}

// claim takes the places of all pages, each of which is read.
func (v *Vault) claim() api.Errno {
	pages, e := v.pages()
	if e != api.OK {
		return e
	}
	for _, r := range pages {
		if !v.pager.Space().Use(r.Place) {
			return api.ErrIntegrity
		}
	}
	return api.OK
}

// pages is all pages: the tree's, then those of long values.
func (v *Vault) pages() ([]api.Ref, api.Errno) {
	pages, entries, e := tree.Pages(v.pager, v.anchor.Root)
	if e != api.OK {
		return nil, e
	}
	for _, entry := range entries {
		_, long, e := read(entry.Value)
		if e != api.OK {
			return nil, e
		}
		more, e := blob.Pages(v.pager, long)
		if e != api.OK {
			return nil, e
		}
		pages = append(pages, more...)
	}
	return pages, api.OK
}

// logged is the heads of the log's blocks, and what they hold; ErrIntegrity: their chain is not the anchor's.
func (v *Vault) logged() ([]api.Head, []string, api.Errno) {
	a := v.anchor
	if !ring.May(v.ring, a.From) || a.Many > v.ring.Len {
		return nil, nil, api.ErrIntegrity
	}
	var heads []api.Head
	var pieces []string
	chain := noChain()
	for k := range a.Many {
		head, piece, block, e := v.pager.Fetch(ring.On(v.ring, a.From, k), api.NoSum)
		if e != api.OK {
			return nil, nil, e
		}
		chain = wal.Chain(v.book, chain, block)
		heads, pieces = append(heads, head), append(pieces, piece)
	}
	if chain != a.Chain {
		return nil, nil, api.ErrIntegrity
	}
	return heads, pieces, api.OK
}

// replay notes the log's changes again.
func (v *Vault) replay() api.Errno {
	_, pieces, e := v.logged()
	if e != api.OK {
		return e
	}
	records, e := wal.Join(pieces)
	if e != api.OK {
		return e
	}
	for _, record := range records {
		for _, c := range record {
			v.log.Put(c)
		}
	}
	return api.OK
}

// Heads is what all blocks say plainly of themselves that count: the anchor's, the log's, the pages'.
func (v *Vault) Heads() ([]api.Head, api.Errno) {
	if e := v.Stuck(); e != api.OK {
		return nil, e
	}
	first, _, _, e := v.pager.Fetch(anchor.Slot(v.anchor), v.device.Register()[1:])
	if e != api.OK {
		return nil, v.failed(e)
	}
	heads, _, e := v.logged()
	if e != api.OK {
		return nil, v.failed(e)
	}
	heads = append([]api.Head{first}, heads...)
	pages, e := v.pages()
	if e != api.OK {
		return nil, v.failed(e)
	}
	for _, r := range pages {
		head, _, _, e := v.pager.Fetch(r.Place, r.Sum)
		if e != api.OK {
			return nil, v.failed(e)
		}
		heads = append(heads, head)
	}
	return heads, api.OK
}
