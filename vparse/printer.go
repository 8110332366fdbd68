package vparse

import (
	"davenport/api"
	"davenport/numeral"
	"davenport/quote"
)

// output is the text that has been written, and the kind of its last token.
type output struct {
	text []byte
	last int
}

// long reports whether the text has become too long; nothing more is written then.
func (o *output) long() bool {
	return len(o.text) > api.MaxSource
}

// wordy reports whether tokens of a kind would run into each other.
func wordy(kind int) bool {
	return kind == api.TkName || kind == api.TkWord || kind == api.TkInt
}

// put writes a token.
func (o *output) put(kind int, text string) {
	if o.long() {
		return
	}
	if wordy(o.last) && wordy(kind) || o.last == api.TkInt && text == "." {
		o.text = append(o.text, ' ')
	}
	o.text = append(o.text, text...)
	o.last = kind
}

// printer writes programs.
type printer struct {
	output
}

func (w *printer) sign(text string) { w.put(api.TkSign, text) }

func (w *printer) word(text string) { w.put(api.TkWord, text) }

func (w *printer) statements(l []api.Stmt) {
	for _, s := range l {
		if w.long() {
			return
		}
		w.statement(s)
	}
}

func (w *printer) block(l []api.Stmt) {
	w.sign("{")
	w.statements(l)
	w.sign("}")
}

func (w *printer) statement(s api.Stmt) {
	switch s.Kind {
	case api.StEmit:
		w.word("emit")
		w.expr(s.A, lowest)
		w.sign(",")
		w.expr(s.B, lowest)
		w.sign(";")
	case api.StIf:
		w.word("if")
		w.expr(s.A, lowest)
		w.block(s.Body)
		if len(s.Else) > 0 {
			w.word("else")
			w.block(s.Else)
		}
	case api.StFor:
		w.word("for")
		w.put(api.TkName, s.Name)
		w.word("in")
		w.expr(s.A, lowest)
		w.block(s.Body)
	}
}

// expr writes an expression as an operand of at least a level.
func (w *printer) expr(x api.Expr, level int) {
	if w.long() {
		return
	}
	if levelOf(x) < level {
		w.sign("(")
		w.expr(x, lowest)
		w.sign(")")
		return
	}
	switch x.Kind {
	case api.ExLit:
		w.literal(x.Value)
	case api.ExName:
		w.put(api.TkName, x.Name)
	case api.ExPath:
		w.expr(x.Kids[0], pathLevel)
		w.sign(".")
		w.put(api.TkName, x.Name)
	case api.ExList:
		w.list(x.Kids)
	default:
		w.operation(operatorOf(x.Kind), x.Kids)
	}
}

// operation writes an operator between its operands, or before the only one.
func (w *printer) operation(o operator, kids []api.Expr) {
	kind := api.TkSign
	if o.text[0] >= 'a' {
		kind = api.TkWord
	}
	if o.left > 0 {
		w.expr(kids[0], o.left)
	}
	w.put(kind, o.text)
	w.expr(kids[len(kids)-1], o.right)
}

func (w *printer) list(l []api.Expr) {
	w.sign("[")
	for i, x := range l {
		if i > 0 {
			w.sign(",")
		}
		w.expr(x, lowest)
	}
	w.sign("]")
}

func (w *printer) literal(v api.Value) {
	switch v.Kind {
	case api.VNull:
		w.word("null")
	case api.VBool:
		if v.N == 1 {
			w.word("true")
		} else {
			w.word("false")
		}
	case api.VInt:
		w.put(api.TkInt, numeral.Print(v.N))
	case api.VText:
		text, _ := quote.Print(v.S)
		w.put(api.TkText, text)
	}
}
