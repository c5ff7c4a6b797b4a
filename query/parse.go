package query

import (
	"math"

	"lodestone/api"
	"lodestone/lex"
	"lodestone/names"
	"lodestone/value"
)

// parser goes through the words of a question. Where a word may not stand it stays, and takes no more.
type parser struct {
	words []api.Word
	at    int
	wrong bool
}

// word is the next word.
func (p *parser) word() api.Word { return p.words[p.at] }

// next tells whether the next word is of a kind and says so, and takes it then.
func (p *parser) next(kind int, s string) bool {
	w := p.word()
	if p.wrong || w.Kind != kind || w.S != s {
		return false
	}
	p.at++
	return true
}

// mark and keyword tell whether the next word is such a one, and take it then.
func (p *parser) mark(s string) bool { return p.next(api.WordMark, s) }

func (p *parser) keyword(s string) bool { return p.next(api.WordName, s) }

// must says that a word may not stand where it stands, if what had to be taken was not.
func (p *parser) must(taken bool) {
	if !taken {
		p.wrong = true
	}
}

// reserved tells whether a name is a word that no name may be.
func reserved(s string) bool {
	switch s {
	case findWord, whereWord, andWord, tellWord, limitWord, noneWord:
		return true
	}
	return false
}

// maybeName takes a name, if one is next.
func (p *parser) maybeName() string {
	w := p.word()
	if p.wrong || w.Kind != api.WordName || reserved(w.S) || !names.May(w.S) {
		return ""
	}
	p.at++
	return w.S
}

// name takes a name.
func (p *parser) name() string {
	s := p.maybeName()
	p.must(s != "")
	return s
}

// typed takes a name and, behind a colon, a label or a type, each if it is there.
func (p *parser) typed() (string, string) {
	name, typ := p.maybeName(), ""
	if p.mark(":") {
		typ = p.name()
	}
	return name, typ
}

// number takes a number from 0 to most: a greater one may not stand there.
func (p *parser) number(most int64) int64 {
	w := p.word()
	p.must(w.Kind == api.WordInt && w.N <= most)
	if p.wrong {
		return 0
	}
	p.at++
	return w.N
}

// value takes a value.
func (p *parser) value() api.Value {
	for i := range len(plain) {
		if p.keyword(plain[i]) {
			return plainValue(i)
		}
	}
	if p.mark("-") {
		return value.Int(-p.number(math.MaxInt64))
	}
	w := p.word()
	if w.Kind == api.WordText && !p.wrong {
		p.at++
		return value.Text(w.S)
	}
	return value.Int(p.number(math.MaxInt64))
}

// props takes a node's properties, behind the brace that is ahead of them.
func (p *parser) props() []api.Pair {
	var props []api.Pair
	for more := true; more && !p.wrong; more = p.mark(",") {
		name := p.name()
		p.must(p.mark(":"))
		props = append(props, api.Pair{Name: name, Value: p.value()})
	}
	p.must(p.mark("}"))
	return props
}

// node takes a node.
func (p *parser) node() api.NodePat {
	var n api.NodePat
	p.must(p.mark("("))
	n.Var, n.Label = p.typed()
	if p.mark("{") {
		n.Props = p.props()
	}
	p.must(p.mark(")"))
	return n
}

// edge takes an edge, if one is next.
func (p *parser) edge() (api.EdgePat, bool) {
	e := api.EdgePat{Out: p.mark("-")}
	if !e.Out && !p.mark("<-") {
		return e, false
	}
	p.must(p.mark("["))
	e.Var, e.Type = p.typed()
	p.must(p.mark("]"))
	if e.Out {
		p.must(p.mark("->"))
	} else {
		p.must(p.mark("-"))
	}
	return e, true
}

// op takes what a condition is said with.
func (p *parser) op() int {
	for i := range len(ops) {
		if p.mark(ops[i]) {
			return i
		}
	}
	p.must(false)
	return 0
}

// cond takes a condition.
func (p *parser) cond() api.Cond {
	c := api.Cond{Var: p.name()}
	p.must(p.mark("."))
	c.Key = p.name()
	c.Op = p.op()
	c.Value = p.value()
	return c
}

// item takes what is told of a node or an edge.
func (p *parser) item() api.Item {
	item := api.Item{Var: p.name()}
	if p.mark(".") {
		item.Key = p.name()
	}
	return item
}

// question takes a question, to its end.
func (p *parser) question() api.Question {
	q := api.Question{Limit: api.MostLimit}
	p.must(p.keyword(findWord))
	q.Nodes = append(q.Nodes, p.node())
	for e, more := p.edge(); more && !p.wrong; e, more = p.edge() {
		q.Edges = append(q.Edges, e)
		q.Nodes = append(q.Nodes, p.node())
	}
	if p.keyword(whereWord) {
		for more := true; more && !p.wrong; more = p.keyword(andWord) {
			q.Where = append(q.Where, p.cond())
		}
	}
	p.must(p.keyword(tellWord))
	for more := true; more && !p.wrong; more = p.mark(",") {
		q.Tell = append(q.Tell, p.item())
	}
	if p.keyword(limitWord) {
		q.Limit = int(p.number(api.MostLimit))
	}
	p.must(p.word().Kind == api.WordEnd)
	return q
}

// Parse is the question of a text: errors of layer 32; ErrGrammar with where it is wrong, or (at its end) that it may not be.
func Parse(s string) (api.Question, int, api.Errno) {
	words, at, e := lex.Words(s)
	if e != api.OK {
		return api.Question{}, at, e
	}
	p := &parser{words: words}
	q := p.question()
	if p.wrong {
		return api.Question{}, p.word().At, api.ErrGrammar
	}
	if !May(q) {
		return api.Question{}, len(s), api.ErrGrammar
	}
	return q, 0, api.OK
}
