package txn

import (
	"lodestone/api"
	"lodestone/graph"
	"lodestone/match"
	"lodestone/query"
	"lodestone/view"
	"lodestone/walk"
)

// Exec does an act that changes or asks in a view; with an error the view is not to be used any more, but for what it needs.
func Exec(x *view.View, op api.Op) api.Reply {
	var r api.Reply
	switch op.What {
	case api.OpSave:
		n, e := x.Save()
		r = api.Reply{ID: uint64(n), Err: e}
	case api.OpBack:
		r.Err = x.Back(int(min(op.A, api.MostSaves+1)))
	default:
		r = inGraph(x, op)
	}
	if r.Err != api.OK {
		return api.Reply{Err: r.Err}
	}
	return r
}

// inGraph does an act in the graph of a view.
func inGraph(x *view.View, op api.Op) api.Reply {
	if op.What < api.OpAddNode || op.What > api.OpWalk || op.What == api.OpCommit || op.What == api.OpAbort {
		return api.Reply{Err: api.ErrInput}
	}
	g, e := graph.Of(x)
	if e != api.OK {
		return api.Reply{Err: e}
	}
	switch op.What {
	case api.OpInfo, api.OpBeside, api.OpLabelled, api.OpBetween, api.OpAsk, api.OpAll, api.OpWalk:
		return asked(g, op)
	}
	return changed(g, op)
}

// first is the first property of an act; none, where there is none.
func first(op api.Op) api.Pair {
	if len(op.Props) == 0 {
		return api.Pair{}
	}
	return op.Props[0]
}

// changed does an act that changes a graph.
func changed(g *graph.Graph, op api.Op) api.Reply {
	var r api.Reply
	switch op.What {
	case api.OpAddNode:
		r.ID, r.Err = g.AddNode(op.Names, op.Props)
	case api.OpAddEdge:
		r.ID, r.Err = g.AddEdge(op.Name, op.A, op.B, op.Props)
	case api.OpSet:
		if len(op.Props) == 0 {
			return api.Reply{Err: api.ErrInput}
		}
		r.Err = g.Set(op.Edge, op.A, op.Props[0])
	case api.OpLabel:
		r.Err = g.Label(op.A, op.Name, op.Yes)
	case api.OpDrop:
		r.Err = g.Drop(op.Edge, op.A)
	case api.OpAddIndex:
		r.Err = g.AddIndex(op.Name, first(op).Name, int(min(op.B, api.IndexUnique+1)))
	case api.OpDropIndex:
		r.Err = g.DropIndex(op.Name, first(op).Name)
	}
	return r
}

// asked does an act that asks of a graph.
func asked(g *graph.Graph, op api.Op) api.Reply {
	var r api.Reply
	switch op.What {
	case api.OpInfo:
		var x api.Info
		x, r.Err = g.Info(op.Edge, op.A)
		r.Infos = []api.Info{x}
	case api.OpBeside:
		r.Infos, r.Err = g.Beside(op.A, op.Yes, op.Name)
	case api.OpLabelled:
		r.IDs, r.Err = g.Labelled(op.Name)
	case api.OpBetween:
		if len(op.Props) != 2 || op.Props[0].Name != op.Props[1].Name {
			return api.Reply{Err: api.ErrInput}
		}
		r.IDs, r.Err = g.Between(op.Name, op.Props[0].Name, op.Props[0].Value, op.Props[1].Value)
	case api.OpAsk:
		var q api.Question
		if q, _, r.Err = query.Parse(op.Name); r.Err == api.OK {
			r.Rows, r.Err = match.Rows(g, q)
		}
	case api.OpAll:
		r.IDs, r.Err = g.All(op.Edge)
	case api.OpWalk:
		var all []api.Far
		all, r.Err = walk.From(g, op.A, op.Name, op.Yes, int(min(op.B, api.MostFar)))
		for _, x := range all {
			r.IDs = append(r.IDs, x.ID)
		}
	}
	return r
}
