package graph

import (
	"math"
	"slices"

	"lodestone/api"
	"lodestone/code"
	"lodestone/index"
	"lodestone/order"
	"lodestone/record"
	"lodestone/schema"
	"lodestone/value"
)

// name is a name's number, a new one if it has none: ErrInput, ErrFull.
func (g *Graph) name(kind int, name string) (int, api.Errno) {
	if number, found := g.names.Find(kind, name); found {
		return number, api.OK
	}
	number, e := g.names.Give(kind, name)
	if e != api.OK {
		return 0, e
	}
	g.view.Need(onNames, true)
	g.view.Put(namesKey, g.names.Put())
	return number, api.OK
}

// withProps is a thing with properties, one behind the other: ErrInput, ErrFull.
func (g *Graph) withProps(t api.Thing, props []api.Pair) (api.Thing, api.Errno) {
	for _, p := range props {
		key, e := g.name(api.NameKey, p.Name)
		if e != api.OK {
			return t, e
		}
		if !value.May(p.Value) {
			return t, api.ErrInput
		}
		t = record.With(t, key, p.Value)
		if len(t.Props) > api.MostProps {
			return t, api.ErrInput
		}
	}
	return t, api.OK
}

// withLabel is labels with one more.
func withLabel(labels []int, label int) []int {
	at, has := slices.BinarySearch(labels, label)
	if has {
		return labels
	}
	return slices.Insert(slices.Clone(labels), at, label)
}

// number is the number of a new thing: the least that is free, else the next.
func (g *Graph) number(edge bool) (uint64, api.Errno) {
	g.view.Need(onNumbers, true)
	head := freeHead(edge)
	l, e := g.view.Range(head, order.Above(head), 1)
	if e != api.OK {
		return 0, e
	}
	if len(l) > 0 {
		g.view.Del(l[0].Key)
		return last(l[0].Key[len(head):])
	}
	s, found, e := g.view.Get(nextKey(edge))
	if e != api.OK {
		return 0, e
	}
	next := uint64(1)
	if found {
		r := code.Read(s)
		next = r.Num(math.MaxUint64)
		if r.End() != api.OK {
			return 0, api.ErrIntegrity
		}
	}
	g.view.Put(nextKey(edge), code.Num(next+1))
	return next, api.OK
}

// giveBack lets a number be free.
func (g *Graph) giveBack(edge bool, id uint64) {
	g.view.Need(onNumbers, true)
	g.view.Put(freeHead(edge)+order.Num(id), "")
}

// keep stores a thing: ErrMuch.
func (g *Graph) keep(id uint64, t api.Thing) api.Errno {
	s := record.Put(t)
	if s == "" {
		return api.ErrMuch
	}
	g.view.Put(record.Key(t.Edge, id), s)
	return api.OK
}

// join lets a node be found by a label, and by its values: ErrInput, ErrTwice, errors of the store.
func (g *Graph) join(id uint64, t api.Thing, label int) api.Errno {
	g.view.Need(OnLabel(label), true)
	g.view.Put(labelKey(label, id), "")
	for _, i := range schema.Of(g.indexes, []int{label}) {
		if e := index.Add(g.view, i, record.Find(t, i.Key), id); e != api.OK {
			return e
		}
	}
	return api.OK
}

// leave lets a node not be found by a label any more.
func (g *Graph) leave(id uint64, t api.Thing, label int) {
	g.view.Need(OnLabel(label), true)
	g.view.Del(labelKey(label, id))
	for _, i := range schema.Of(g.indexes, []int{label}) {
		index.Remove(g.view, i, record.Find(t, i.Key), id)
	}
}

// AddNode is a new node's number: ErrInput: labels or properties that may not be; ErrFull: too many names; ErrMuch: it is too great; ErrTwice; errors of the store.
func (g *Graph) AddNode(labels []string, props []api.Pair) (uint64, api.Errno) {
	if e := g.look(); e != api.OK {
		return 0, e
	}
	var t api.Thing
	for _, label := range labels {
		number, e := g.name(api.NameLabel, label)
		if e != api.OK {
			return 0, e
		}
		t.Labels = withLabel(t.Labels, number)
	}
	if len(t.Labels) > api.MostLabels {
		return 0, api.ErrInput
	}
	t, e := g.withProps(t, props)
	if e != api.OK {
		return 0, e
	}
	id, e := g.number(false)
	if e != api.OK {
		return 0, e
	}
	g.view.Need(OnNode(id), true)
	for _, label := range t.Labels {
		if e := g.join(id, t, label); e != api.OK {
			return 0, e
		}
	}
	if e := g.keep(id, t); e != api.OK {
		return 0, e
	}
	return id, api.OK
}

// AddEdge is a new edge's number: ErrInput, ErrFull, ErrMuch; ErrNone: there is no such node; errors of the store.
func (g *Graph) AddEdge(typ string, from, to uint64, props []api.Pair) (uint64, api.Errno) {
	if e := g.look(); e != api.OK {
		return 0, e
	}
	number, e := g.name(api.NameType, typ)
	if e != api.OK {
		return 0, e
	}
	t, e := g.withProps(api.Thing{Edge: true, Type: number, From: from, To: to}, props)
	if e != api.OK {
		return 0, e
	}
	for _, end := range []uint64{from, to} {
		if _, e := g.thing(false, end); e != api.OK {
			return 0, e
		}
	}
	id, e := g.number(true)
	if e != api.OK {
		return 0, e
	}
	g.view.Need(OnEdge(id), true)
	g.holdEnds(t)
	g.view.Put(record.Beside(true, from, number, id), "")
	g.view.Put(record.Beside(false, to, number, id), "")
	if e := g.keep(id, t); e != api.OK {
		return 0, e
	}
	return id, api.OK
}

// holdEnds says that what leads from an edge's first end, and to its second, is changed.
func (g *Graph) holdEnds(t api.Thing) {
	g.view.Need(OnNode(t.From), true)
	g.view.Need(OnNode(t.To), true)
}

// Set gives a node or an edge a property, or (nothing) takes it away: ErrInput, ErrFull, ErrMuch, ErrNone, ErrTwice; errors of the store.
func (g *Graph) Set(edge bool, id uint64, p api.Pair) api.Errno {
	if e := g.look(); e != api.OK {
		return e
	}
	g.view.Need(on(edge, id), true)
	t, e := g.thing(edge, id)
	if e != api.OK {
		return e
	}
	changed, e := g.withProps(t, []api.Pair{p})
	if e != api.OK {
		return e
	}
	key, _ := g.names.Find(api.NameKey, p.Name)
	for _, i := range schema.Of(g.indexes, t.Labels) {
		if i.Key != key {
			continue
		}
		g.view.Need(OnLabel(i.Label), true)
		index.Remove(g.view, i, record.Find(t, key), id)
		if e := index.Add(g.view, i, p.Value, id); e != api.OK {
			return e
		}
	}
	return g.keep(id, changed)
}

// Label gives a node a label, or takes it away: ErrInput, ErrFull, ErrNone, ErrTwice; errors of the store.
func (g *Graph) Label(id uint64, label string, has bool) api.Errno {
	if e := g.look(); e != api.OK {
		return e
	}
	t, e := g.thing(false, id)
	if e != api.OK {
		return e
	}
	number, e := g.name(api.NameLabel, label)
	if e != api.OK || slices.Contains(t.Labels, number) == has {
		return e
	}
	if has && len(t.Labels) >= api.MostLabels {
		return api.ErrInput
	}
	g.view.Need(OnNode(id), true)
	if has {
		t.Labels = withLabel(t.Labels, number)
		if e := g.join(id, t, number); e != api.OK {
			return e
		}
		return g.keep(id, t)
	}
	g.leave(id, t, number)
	t.Labels = slices.DeleteFunc(t.Labels, func(n int) bool { return n == number })
	return g.keep(id, t)
}

// used tells whether edges lead from a node, or to it: errors of the store.
func (g *Graph) used(id uint64) (bool, api.Errno) {
	for _, out := range []bool{true, false} {
		head := record.Beside(out, id, -1, 0)
		l, e := g.view.Range(head, order.Above(head), 1)
		if e != api.OK || len(l) > 0 {
			return len(l) > 0, e
		}
	}
	return false, api.OK
}

// Drop lets a node or an edge go: ErrNone; ErrUsed: edges lead from the node, or to it; errors of the store.
func (g *Graph) Drop(edge bool, id uint64) api.Errno {
	if e := g.look(); e != api.OK {
		return e
	}
	g.view.Need(on(edge, id), true)
	t, e := g.thing(edge, id)
	if e != api.OK {
		return e
	}
	if edge {
		g.holdEnds(t)
		g.view.Del(record.Beside(true, t.From, t.Type, id))
		g.view.Del(record.Beside(false, t.To, t.Type, id))
	} else {
		used, e := g.used(id)
		if e != api.OK {
			return e
		}
		if used {
			return api.ErrUsed
		}
		for _, label := range t.Labels {
			g.leave(id, t, label)
		}
	}
	g.view.Del(record.Key(edge, id))
	g.giveBack(edge, id)
	return api.OK
}

// AddIndex lets nodes of a label be found by a key: ErrInput: it may not be, is there, or a value is too long; ErrFull, ErrTwice; errors of the store.
func (g *Graph) AddIndex(label, key string, kind int) api.Errno {
	if e := g.look(); e != api.OK {
		return e
	}
	l, e := g.name(api.NameLabel, label)
	if e != api.OK {
		return e
	}
	k, e := g.name(api.NameKey, key)
	if e != api.OK {
		return e
	}
	i := api.Index{Label: l, Key: k, Kind: kind}
	indexes, e := schema.Add(g.indexes, i)
	if e != api.OK {
		return e
	}
	g.setIndexes(l, indexes)
	ids, e := g.numbers(labelHead(l))
	for _, id := range ids {
		t, e := g.known(false, id)
		if e == api.OK {
			e = index.Add(g.view, i, record.Find(t, k), id)
		}
		if e != api.OK {
			return e
		}
	}
	return e
}

// setIndexes stores indexes, of which those of a label were changed.
func (g *Graph) setIndexes(label int, indexes []api.Index) {
	g.view.Need(onNames, true)
	g.view.Need(OnLabel(label), true)
	g.indexes = indexes
	g.view.Put(indexesKey, schema.Put(indexes))
}

// DropIndex lets them not be found so any more: ErrNone; errors of the store.
func (g *Graph) DropIndex(label, key string) api.Errno {
	if e := g.look(); e != api.OK {
		return e
	}
	i, ok := g.found(label, key)
	if !ok {
		return api.ErrNone
	}
	indexes, _ := schema.Drop(g.indexes, i.Label, i.Key)
	g.setIndexes(i.Label, indexes)
	return index.Clear(g.view, i)
}
