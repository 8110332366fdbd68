package sample

import (
	"davenport/api"
)

// Past is what replies have told so far: the revisions of documents by their ids, and the tokens.
type Past struct {
	Revs   map[string]string
	Tokens []string
}

// NewPast returns the past before the first reply.
func NewPast() *Past {
	return &Past{Revs: map[string]string{}, Tokens: []string{""}}
}

// Note adds the reply to an operation.
func (p *Past) Note(op api.Op, r api.Reply) {
	if r.Err != api.OK {
		return
	}
	switch op.Kind {
	case api.OpPut:
		p.Revs[op.Id] = r.Rev
	case api.OpDelete:
		delete(p.Revs, op.Id)
	case api.OpChanges:
		p.Tokens = append(p.Tokens, r.Token)
	}
}

// rev returns the revision that an operation on a document must name, or at times another one.
func (s *Source) rev(p *Past, id string) string {
	switch s.Below(12) {
	case 0:
		return "1-0badcafe"
	case 1:
		return ""
	case 2:
		return "1-x"
	}
	return p.Revs[id]
}

// Ask returns a query, which at times is not valid.
func (s *Source) Ask() api.Ask {
	a := api.Ask{HasFrom: s.Below(3) == 0, HasTo: s.Below(3) == 0, After: s.Below(2) == 0, Ahead: s.Below(2) == 0, Turned: s.Below(2) == 0, Most: s.Below(6) - 1, Level: s.Below(4) - 1, Kind: s.Below(6)}
	if a.HasFrom {
		a.From = s.Value(1)
	}
	if a.HasTo {
		a.To = s.Value(1)
	}
	return a
}

// Op returns an operation that may follow a past; some have an error.
func (s *Source) Op(p *Past) api.Op {
	texts := [...]string{`{"k":[1,2],"n":7}`, `{"k":[1,3],"n":-2}`, `{"k":[2],"n":9223372036854775807}`, `{"k":"x","n":null}`, "[1,2,3]", " 5 ", "[1,", `{"a":1,"a":2}`, "null"}
	sources := [...]string{"emit doc.k,doc.n;", "emit doc.k,doc.n;", "emit doc,id;", "for x in doc{emit x,1;emit[x,x],id;}", "emit id,size doc;", "emit x,1;", "emit doc", ""}
	// Documents are put and views are queried more often than anything else happens to them.
	kinds := [...]int{api.OpPut, api.OpPut, api.OpPut, api.OpDelete, api.OpGet, api.OpDefine, api.OpDefine, api.OpQuery, api.OpQuery, api.OpQuery, api.OpQuery, api.OpChanges}
	op := api.Op{Kind: kinds[s.Below(len(kinds))], Id: Name(s.Below(6))}
	if op.Kind == api.OpDefine && s.Below(4) == 0 {
		op.Kind = api.OpDrop
	}
	if op.Kind == api.OpQuery && s.Below(4) > 0 {
		op.Id = Name(s.Below(3))
	}
	if s.Below(30) == 0 {
		op.Id = "No"
	}
	switch op.Kind {
	case api.OpPut:
		op.Rev, op.Text = s.rev(p, op.Id), texts[s.Below(len(texts))]
	case api.OpDelete:
		op.Rev = s.rev(p, op.Id)
	case api.OpDefine:
		op.Text = sources[s.Below(len(sources))]
	case api.OpQuery:
		op.Ask = s.Ask()
	case api.OpChanges:
		op.Token, op.Most = p.Tokens[s.Below(len(p.Tokens))], s.Below(6)
		if s.Below(20) == 0 {
			op.Token = "7.00000000"
		}
	}
	if s.Below(60) == 0 {
		op.Kind = 8
	}
	return op
}
