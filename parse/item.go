package parse

import "recoup/api"

func (r *reader) description() []api.Item {
	asked := itemsByWord()
	var l []api.Item
	for !r.ended() {
		l = append(l, r.item(asked))
	}
	return l
}

// itemsByWord tells by an item's first word what reads all behind it up to the
// last sign.
func itemsByWord() map[string]func(*reader) api.Item {
	return map[string]func(*reader) api.Item{
		"const":    (*reader).constant,
		"code":     (*reader).code,
		"use":      (*reader).use,
		"domains":  (*reader).domains,
		"tolerate": (*reader).tolerate,
		"place":    (*reader).place,
	}
}

func (r *reader) item(asked map[string]func(*reader) api.Item) api.Item {
	first := r.take()
	rest, known := asked[first.Text]
	if !known {
		panic(misfit(first))
	}
	t := rest(r)
	r.sign(";")
	t.Line, t.Col = first.Line, first.Col
	return t
}

func (r *reader) constant() api.Item {
	name := r.name()
	r.sign("=")
	return api.Item{Kind: api.IConst, Name: name, Value: r.sum()}
}

func (r *reader) code() api.Item {
	name := r.name()
	r.sign("=")
	return api.Item{Kind: api.ICode, Name: name, Shape: r.shape()}
}

func (r *reader) use() api.Item {
	return api.Item{Kind: api.IUse, Name: r.name()}
}

func (r *reader) domains() api.Item {
	return api.Item{Kind: api.IDomains, Value: r.sum()}
}

func (r *reader) tolerate() api.Item {
	return api.Item{Kind: api.ITolerate, Value: r.sum()}
}

func (r *reader) place() api.Item {
	how := r.take()
	t := api.Item{Kind: api.IPlace}
	switch how.Text {
	case "row":
		t.Place = api.PRow
	case "spread":
		t.Place = api.PSpread
	case "spiral":
		t.Place, t.Value = api.PSpiral, r.sum()
	case "list":
		r.sign("[")
		t.Place, t.List = api.PList, r.row()
		r.sign("]")
	default:
		panic(misfit(how))
	}
	return t
}
