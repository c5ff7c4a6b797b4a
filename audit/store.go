package audit

import (
	"iter"
	"math"
	"slices"

	"lodestone/api"
	"lodestone/code"
	"lodestone/index"
	"lodestone/names"
	"lodestone/order"
	"lodestone/record"
	"lodestone/schema"
	"lodestone/value"
	"lodestone/view"
)

// Keys of the store, or what they begin with.
const (
	namesKey   = "N"
	indexesKey = "X"
	nextMark   = "c"
	freeMark   = "f"
	nodeMark   = "n"
	edgeMark   = "e"
	labelMark  = "l"
	behind     = "\x00"
)

// foundMarks is what keys begin with by which nodes and edges are found.
var foundMarks = [5]string{"o", "i", "l", "r", "u"}

// kind is all nodes, or all edges: their numbers, what they say, the next number that is given, and those that are free.
type kind struct {
	ids    []uint64
	things []api.Thing
	next   uint64
	freed  []uint64
}

// free tells the numbers that are free.
func (k *kind) free() iter.Seq[uint64] {
	return func(yield func(uint64) bool) {
		for _, n := range k.freed {
			if !yield(n) {
				return
			}
		}
	}
}

// store is what of a graph was read.
type store struct {
	view    *view.View
	indexes []api.Index
	nodes   kind
	edges   kind
	found   []api.Entry // by which nodes and edges are found
}

// whole is what it comes to that stored bytes are not in their form.
func whole(e api.Errno) api.Errno {
	if e != api.OK {
		return api.ErrIntegrity
	}
	return api.OK
}

// entries is all entries whose keys begin so.
func (s *store) entries(head string) ([]api.Entry, api.Errno) {
	var all []api.Entry
	from := head
	for {
		l, e := s.view.Range(from, order.Above(head), api.MostRange)
		if e != api.OK {
			return nil, e
		}
		all = append(all, l...)
		if len(l) < api.MostRange {
			return all, api.OK
		}
		from = l[len(l)-1].Key + behind
	}
}

// read reads all that a graph has: errors of the store, or ErrIntegrity.
func (s *store) read() api.Errno {
	if e := s.readNames(); e != api.OK {
		return e
	}
	var e api.Errno
	if s.nodes, e = s.readKind(false); e != api.OK {
		return e
	}
	if s.edges, e = s.readKind(true); e != api.OK {
		return e
	}
	for i := range len(foundMarks) {
		l, e := s.entries(foundMarks[i])
		if e != api.OK {
			return e
		}
		s.found = append(s.found, l...)
	}
	return api.OK
}

// readNames reads names and indexes.
func (s *store) readNames() api.Errno {
	bytes, found, e := s.view.Get(namesKey)
	if e == api.OK && found {
		_, e = names.Get(bytes)
		e = whole(e)
	}
	if e != api.OK {
		return e
	}
	bytes, found, e = s.view.Get(indexesKey)
	if e == api.OK && found {
		s.indexes, e = schema.Get(bytes)
		e = whole(e)
	}
	return e
}

// numbered is all entries whose keys begin so, and the numbers behind that.
func (s *store) numbered(head string) ([]api.Entry, []uint64, api.Errno) {
	l, e := s.entries(head)
	if e != api.OK {
		return nil, nil, e
	}
	var numbers []uint64
	for _, entry := range l {
		p := order.Read(entry.Key[len(head):])
		numbers = append(numbers, p.Num())
		if p.End() != api.OK {
			return nil, nil, api.ErrIntegrity
		}
	}
	return l, numbers, api.OK
}

// readKind reads all nodes, or all edges.
func (s *store) readKind(edge bool) (kind, api.Errno) {
	head := nodeMark
	if edge {
		head = edgeMark
	}
	l, ids, e := s.numbered(head)
	if e != api.OK {
		return kind{}, e
	}
	k := kind{ids: ids}
	for _, entry := range l {
		t, e := record.Get(entry.Value)
		if e != api.OK || t.Edge != edge {
			return kind{}, api.ErrIntegrity
		}
		k.things = append(k.things, t)
	}
	if _, k.freed, e = s.numbered(freeMark + code.Bool(edge)); e != api.OK {
		return kind{}, e
	}
	k.next, e = s.readNext(edge)
	return k, e
}

// readNext reads the next number that is given.
func (s *store) readNext(edge bool) (uint64, api.Errno) {
	bytes, found, e := s.view.Get(nextMark + code.Bool(edge))
	if e != api.OK || !found {
		return 1, e
	}
	r := code.Read(bytes)
	next := r.Num(math.MaxUint64)
	return next, whole(r.End())
}

// ends is whether an edge's ends are not there.
func (s *store) ends() int {
	there := map[uint64]mark{}
	for _, id := range s.nodes.ids {
		there[id] = mark{}
	}
	for _, t := range s.edges.things {
		_, from := there[t.From]
		_, to := there[t.To]
		if !from || !to {
			return api.AuditEnds
		}
	}
	return 0
}

// numbers is whether a number is free and there, or not given yet, or neither free nor there.
func (k *kind) numbers() int {
	seen := map[uint64]mark{}
	for n := range k.free() {
		if n >= k.next {
			return api.AuditIDs
		}
		seen[n] = mark{}
	}
	for _, id := range k.ids {
		if _, free := seen[id]; free || id >= k.next {
			return api.AuditIDs
		}
		seen[id] = mark{}
	}
	// All that were seen are below the next number: none of those from 1 on is left out, if they are just so many.
	delete(seen, 0)
	if uint64(len(seen))+1 != max(k.next, 1) {
		return api.AuditIDs
	}
	return 0
}

// said is what a key may have as its value, as nodes and edges say: more than one, where nodes say it of which one may.
type said struct {
	values []string
}

// wanted is the keys by which nodes and edges are found, as these say.
func (s *store) wanted() map[string]said {
	all := map[string]said{}
	bare := said{values: []string{""}}
	for i, t := range s.edges.things {
		id := s.edges.ids[i]
		all[record.Beside(true, t.From, t.Type, id)] = bare
		all[record.Beside(false, t.To, t.Type, id)] = bare
	}
	for i, t := range s.nodes.things {
		id := s.nodes.ids[i]
		for _, label := range t.Labels {
			all[labelMark+order.Num(uint64(label))+order.Num(id)] = bare
		}
		for _, x := range schema.Of(s.indexes, t.Labels) {
			v := record.Find(t, x.Key)
			if !value.Words(v) {
				continue
			}
			all[index.Key(x.Label, x.Key, v, id)] = bare
			if x.Kind == api.IndexUnique {
				one := index.One(x.Label, x.Key, v)
				all[one] = said{values: append(all[one].values, code.Num(id))}
			}
		}
	}
	return all
}

// keys is whether the keys by which nodes and edges are found are not just those that these say, and whether a value that only one node may have has two.
func (s *store) keys() int {
	wanted, wrong := s.wanted(), 0
	for _, want := range wanted {
		if len(want.values) > 1 {
			wrong |= api.AuditOnce
		}
	}
	for _, entry := range s.found {
		if !slices.Contains(wanted[entry.Key].values, entry.Value) {
			wrong |= api.AuditKeys
		}
		delete(wanted, entry.Key)
	}
	if len(wanted) > 0 {
		wrong |= api.AuditKeys
	}
	return wrong
}
