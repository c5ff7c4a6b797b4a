package desk

import (
	"lodestone/api"
)

// line goes through the words of a line. Where a word may not stand it stays, and takes no more.
type line struct {
	words []api.Word
	at    int
	wrong bool
}

// word is the next word.
func (l *line) word() api.Word { return l.words[l.at] }

// ended tells whether no word is left.
func (l *line) ended() bool { return l.wrong || l.word().Kind == api.WordEnd }

// take takes the next word, which must be of a kind.
func (l *line) take(kind int) api.Word {
	w := l.word()
	if l.wrong || w.Kind != kind {
		l.wrong = true
		return api.Word{}
	}
	l.at++
	return w
}

// next tells whether the next word is of a kind and says so, and takes it then.
func (l *line) next(kind int, s string) bool {
	w := l.word()
	if l.wrong || w.Kind != kind || w.S != s {
		return false
	}
	l.at++
	return true
}

// mark tells whether the next word is a mark, and takes it then.
func (l *line) mark(s string) bool { return l.next(api.WordMark, s) }

// name, text and id take a name, a text, and the number of a node or an edge.
func (l *line) name() string { return l.take(api.WordName).S }

func (l *line) text() string { return l.take(api.WordText).S }

func (l *line) id() uint64 { return uint64(l.take(api.WordInt).N) }

// number takes a number, which may be below 0.
func (l *line) number() int64 {
	if l.mark("-") {
		return -l.take(api.WordInt).N
	}
	return l.take(api.WordInt).N
}

// value takes a value.
func (l *line) value() api.Value {
	switch {
	case l.next(api.WordName, "nothing"):
		return api.Value{}
	case l.next(api.WordName, "false"):
		return api.Value{Kind: api.KindBool}
	case l.next(api.WordName, "true"):
		return api.Value{Kind: api.KindBool, N: 1}
	case l.word().Kind == api.WordText:
		return api.Value{Kind: api.KindText, S: l.text()}
	}
	return api.Value{Kind: api.KindInt, N: l.number()}
}

// props takes properties, to the line's end.
func (l *line) props() []api.Pair {
	var props []api.Pair
	for !l.ended() {
		p := api.Pair{Name: l.name()}
		if !l.mark("=") {
			l.wrong = true
		}
		p.Value = l.value()
		props = append(props, p)
	}
	return props
}

// key takes a name, as the only property of an act.
func (l *line) key() []api.Pair { return []api.Pair{{Name: l.name()}} }

// addNode takes labels, up to a colon or the line's end, and properties.
func (l *line) addNode() api.Op {
	op := api.Op{What: api.OpAddNode}
	for !l.ended() && !l.mark(":") {
		op.Names = append(op.Names, l.name())
	}
	op.Props = l.props()
	return op
}

// between takes a label, a key and two values of it.
func (l *line) between() api.Op {
	op := api.Op{What: api.OpBetween, Name: l.name()}
	key := l.name()
	for range 2 {
		op.Props = append(op.Props, api.Pair{Name: key, Value: l.value()})
	}
	return op
}

// change takes what stands behind the name of an act that changes a graph; false: there is none of that name.
func (l *line) change(verb string) (api.Op, bool) {
	switch verb {
	case "node":
		return l.addNode(), true
	case "edge":
		return api.Op{What: api.OpAddEdge, Name: l.name(), A: l.id(), B: l.id(), Props: l.props()}, true
	case "set", "setedge":
		return api.Op{What: api.OpSet, Edge: verb == "setedge", A: l.id(), Props: l.props()}, true
	case "label", "unlabel":
		return api.Op{What: api.OpLabel, Yes: verb == "label", A: l.id(), Name: l.name()}, true
	case "drop", "dropedge":
		return api.Op{What: api.OpDrop, Edge: verb == "dropedge", A: l.id()}, true
	case "index":
		return api.Op{What: api.OpAddIndex, B: api.IndexRange, Name: l.name(), Props: l.key()}, true
	case "unique":
		return api.Op{What: api.OpAddIndex, B: api.IndexUnique, Name: l.name(), Props: l.key()}, true
	case "unindex":
		return api.Op{What: api.OpDropIndex, Name: l.name(), Props: l.key()}, true
	}
	return api.Op{}, false
}

// ask takes what stands behind the name of an act that asks of a graph; false: there is none of that name.
func (l *line) ask(verb string) (api.Op, bool) {
	switch verb {
	case "info", "infoedge":
		return api.Op{What: api.OpInfo, Edge: verb == "infoedge", A: l.id()}, true
	case "out", "in":
		return api.Op{What: api.OpBeside, Yes: verb == "out", A: l.id()}, true
	case "labelled":
		return api.Op{What: api.OpLabelled, Name: l.name()}, true
	case "between":
		return l.between(), true
	case "walk":
		return api.Op{What: api.OpWalk, Yes: true, A: l.id(), B: l.id()}, true
	case "ask":
		return api.Op{What: api.OpAsk, Name: l.text()}, true
	case "nodes", "edges":
		return api.Op{What: api.OpAll, Edge: verb == "edges"}, true
	}
	return api.Op{}, false
}

// end takes what stands behind the name of an act that ends a transaction, or keeps its changes; false: there is none of that name.
func (l *line) end(verb string) (api.Op, bool) {
	switch verb {
	case "save":
		return api.Op{What: api.OpSave}, true
	case "back":
		return api.Op{What: api.OpBack, A: l.id()}, true
	case "commit":
		return api.Op{What: api.OpCommit}, true
	case "abort":
		return api.Op{What: api.OpAbort}, true
	}
	return api.Op{}, false
}

// session takes an act of a session, with its number.
func (l *line) session() api.Act {
	a := api.Act{What: api.ActDo, Who: int(l.take(api.WordInt).N)}
	verb := l.name()
	if verb == "go" {
		a.What = api.ActGo
		return a
	}
	op, ok := l.change(verb)
	if !ok {
		op, ok = l.ask(verb)
	}
	if !ok {
		op, ok = l.end(verb)
	}
	l.wrong = l.wrong || !ok
	a.Op = op
	return a
}

// machine takes an act of the store, the power or an enemy.
func (l *line) machine() api.Act {
	switch l.name() {
	case "checkpoint":
		return api.Act{What: api.ActCheck}
	case "rotate":
		return api.Act{What: api.ActTurn}
	case "cut":
		return api.Act{What: api.ActCut, A: int(l.number())}
	case "plan":
		return api.Act{What: api.ActPlan, A: int(l.number()), B: int(l.number())}
	case "up":
		return api.Act{What: api.ActUp}
	case "poke":
		return api.Act{What: api.ActPoke, A: int(l.number()), B: int(l.number()), S: l.text()}
	case "keep":
		return api.Act{What: api.ActKeep, A: int(l.number())}
	case "restore":
		return api.Act{What: api.ActBack, A: int(l.number()), B: int(l.number())}
	}
	l.wrong = true
	return api.Act{}
}
