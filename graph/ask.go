package graph

import (
	"slices"
	"strings"

	"lodestone/api"
	"lodestone/index"
	"lodestone/order"
	"lodestone/record"
	"lodestone/schema"
)

// Info is a node or an edge: ErrNone, errors of the store.
func (g *Graph) Info(edge bool, id uint64) (api.Info, api.Errno) {
	if e := g.look(); e != api.OK {
		return api.Info{}, e
	}
	t, e := g.thing(edge, id)
	if e != api.OK {
		return api.Info{}, e
	}
	return g.told(id, t), api.OK
}

// Names is the names of a kind, in order.
func (g *Graph) Names(kind int) []string {
	if g.look() != api.OK {
		return nil
	}
	return slices.Sorted(slices.Values(g.names.All(kind)))
}

// Beside is the edges that lead from a node (out), or to it, of a type (empty: of any), by their numbers within each type, the types by theirs: ErrNone: there is no such node; errors of the store.
func (g *Graph) Beside(id uint64, out bool, typ string) ([]api.Info, api.Errno) {
	if e := g.look(); e != api.OK {
		return nil, e
	}
	if _, e := g.thing(false, id); e != api.OK {
		return nil, e
	}
	number := -1
	if typ != "" {
		var found bool
		if number, found = g.names.Find(api.NameType, typ); !found {
			return nil, api.OK
		}
	}
	ids, e := g.numbers(record.Beside(out, id, number, 0))
	if e != api.OK {
		return nil, e
	}
	var infos []api.Info
	for _, edge := range ids {
		t, e := g.known(true, edge)
		if e != api.OK {
			return nil, e
		}
		infos = append(infos, g.told(edge, t))
	}
	return infos, api.OK
}

// Labelled is the nodes of a label: errors of the store.
func (g *Graph) Labelled(label string) ([]uint64, api.Errno) {
	if e := g.look(); e != api.OK {
		return nil, e
	}
	number, found := g.names.Find(api.NameLabel, label)
	if !found {
		return nil, api.OK
	}
	g.view.Need(OnLabel(number), false)
	return g.numbers(labelHead(number))
}

// found is the numbers of a label and a key by which nodes can be found; false: they can't be.
func (g *Graph) found(label, key string) (api.Index, bool) {
	l, known := g.names.Find(api.NameLabel, label)
	k, both := g.names.Find(api.NameKey, key)
	if !known || !both {
		return api.Index{}, false
	}
	kind := schema.Find(g.indexes, l, k)
	return api.Index{Label: l, Key: k, Kind: kind}, kind != api.IndexNone
}

// Between is the nodes of a label whose values of a key are from one on, and up to another one (nothing: no bound), by their values, then by themselves: ErrNone: they can't be found by that key; errors of the store.
func (g *Graph) Between(label, key string, low, high api.Value) ([]uint64, api.Errno) {
	if e := g.look(); e != api.OK {
		return nil, e
	}
	i, ok := g.found(label, key)
	if !ok {
		return nil, api.ErrNone
	}
	g.view.Need(OnLabel(i.Label), false)
	return index.Between(g.view, i.Label, i.Key, low, high)
}

// Indexed tells whether nodes of a label can be found by a key.
func (g *Graph) Indexed(label, key string) bool {
	if g.look() != api.OK {
		return false
	}
	_, ok := g.found(label, key)
	return ok
}

// All is the numbers of all nodes, or of all edges: errors of the store.
func (g *Graph) All(edge bool) ([]uint64, api.Errno) {
	if e := g.look(); e != api.OK {
		return nil, e
	}
	g.view.Need(onNumbers, false)
	return g.numbers(strings.TrimSuffix(record.Key(edge, 0), order.Num(0)))
}
