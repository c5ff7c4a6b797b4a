package vault

import (
	"lodestone/api"
	"lodestone/blob"
	"lodestone/code"
)

// What stands ahead of a value in the tree, and of the first page of a long one.
const (
	shortMark = "\x00"
	longMark  = "\x01"
	noPlace   = -1
)

// stored is how a value stands in the tree; a long one is laid.
func (v *Vault) stored(value string) (string, api.Errno) {
	if len(value) < api.MostInline {
		return shortMark + value, api.OK
	}
	r, e := blob.Put(v.pager, value)
	if e != api.OK {
		return "", e
	}
	return longMark + code.Num(uint64(r.Place)) + r.Sum, api.OK
}

// read is a value as it stands in the tree, or (none: Place -1) the first page of a long one.
func read(s string) (string, api.Ref, api.Errno) {
	r := code.Read(s)
	switch r.Bytes(1) {
	case shortMark:
		return r.Bytes(r.Left()), api.Ref{Place: noPlace}, api.OK
	case longMark:
		long := api.Ref{Place: int(r.Num(api.MostBlocks - 1)), Sum: r.Bytes(api.SumBytes)}
		if r.End() == api.OK {
			return "", long, api.OK
		}
	}
	return "", api.Ref{}, api.ErrIntegrity
}

// value is the value that stands so in the tree.
func (v *Vault) value(s string) (string, api.Errno) {
	short, long, e := read(s)
	if e != api.OK || long.Place == noPlace {
		return short, e
	}
	return blob.Get(v.pager, long)
}
