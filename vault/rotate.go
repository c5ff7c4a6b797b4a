package vault

import (
	"lodestone/api"
	"lodestone/blob"
	"lodestone/cursor"
	"lodestone/tree"
)

// Rotate is one step of a rotation to the next epoch's keys; true: it is done (its last step). A log that is not empty is brought into the tree first, which is a step; then the epoch is a new one; then page by page. ErrFull, ErrIntegrity, ErrPower.
func (v *Vault) Rotate() (bool, api.Errno) {
	if e := v.Stuck(); e != api.OK {
		return false, e
	}
	if v.anchor.Many > 0 {
		return false, v.Checkpoint()
	}
	a := v.next()
	if !v.anchor.Turn {
		a.Epoch++
		a.Turn = true
		return false, v.lay(a)
	}
	a, e := v.turned(a)
	if e != api.OK {
		return false, v.undone(e)
	}
	if e := v.lay(a); e != api.OK {
		return false, e
	}
	v.pager.Done()
	return !a.Turn, api.OK
}

// turned is an anchor behind which one page more is sealed by its epoch, or none is left that is not.
func (v *Vault) turned(a api.Anchor) (api.Anchor, api.Errno) {
	first, found, e := cursor.Next(v.pager, a.Root, a.Next)
	if e != api.OK {
		return a, e
	}
	a.Next = ""
	if found {
		if a.Root, a.Next, e = v.page(a.Root, first.Key); e != api.OK {
			return a, e
		}
	}
	a.Turn = a.Next != ""
	return a, api.OK
}

// page is a root behind which the page of a key is laid anew, with the long values of its keys from there on; and the least key behind its last one.
func (v *Vault) page(root api.Ref, key string) (api.Ref, string, api.Errno) {
	last, e := cursor.Last(v.pager, root, key)
	if e != api.OK {
		return root, "", e
	}
	entries, e := cursor.Range(v.pager, root, key, last+nought, api.MostRange)
	if e == api.OK {
		root, e = tree.Again(v.pager, root, key)
	}
	for _, entry := range entries {
		if e != api.OK {
			return root, "", e
		}
		root, e = v.again(root, entry)
	}
	return root, above(last), e
}

// again is a root behind which the value of an entry is laid anew, if it is a long one.
func (v *Vault) again(root api.Ref, entry api.Entry) (api.Ref, api.Errno) {
	_, long, e := read(entry.Value)
	if e != api.OK || long.Place == noPlace {
		return root, e
	}
	value, e := blob.Get(v.pager, long)
	if e == api.OK {
		e = blob.Drop(v.pager, long)
	}
	if e != api.OK {
		return root, e
	}
	return v.put(root, entry.Key, value)
}

// above is the least key of MostKey bytes at most that is above one; nothing: there is none.
func above(key string) string {
	if len(key) < api.MostKey {
		return key + nought
	}
	last := len(key) - 1
	for last >= 0 && key[last] == 255 {
		last--
	}
	if last < 0 {
		return ""
	}
	return key[:last] + string([]byte{key[last] + 1})
}
