package term

import (
	"safehouse/api"
	"safehouse/octet"
)

// Encode answers the bytes of t.
func Encode(t api.Term) ([]byte, api.Errno) {
	if wrong := Check(t); wrong != api.OK {
		return nil, wrong
	}
	return lay(nil, t), api.OK
}

// Decode answers the term with whose bytes b begins, and how many these are.
func Decode(b []byte) (api.Term, int, api.Errno) {
	r := &reader{Reader: octet.Read(b)}
	t, wrong := r.first()
	if wrong != api.OK {
		return api.Term{}, 0, wrong
	}
	return t, len(b) - r.Left(), api.OK
}

// lay answers row, and the bytes of t behind it, in row's own room if there is some.
func lay(row []byte, t api.Term) []byte {
	f := fieldsOf(t.Kind)
	row = append(row, byte(t.Kind))
	if f.has(hasText) {
		row = append(row, byte(len(t.Text)))
		row = append(row, t.Text...)
	}
	if f.has(hasUser) {
		row = append(row, byte(t.User))
	}
	if f.has(hasNum) {
		row = append(row, octet.Put16(nil, uint16(t.Num))...)
	}
	for _, kid := range t.Kids {
		row = lay(row, kid)
	}
	return row
}

// reader takes terms off bytes, and counts them.
type reader struct {
	*octet.Reader
	size int
}

// first takes a term off. What is wrong with the bytes leaves all that is under way at once.
func (r *reader) first() (t api.Term, wrong api.Errno) {
	defer func() {
		if left := recover(); left != nil {
			t, wrong = api.Term{}, left.(api.Errno)
		}
	}()
	return r.term(1), api.OK
}

// term takes a term off that stands so deep.
func (r *reader) term(deep int) api.Term {
	t := api.Term{Kind: r.small()}
	f := fieldsOf(t.Kind)
	r.size++
	need(f != 0 && r.size <= api.MaxSize && deep <= api.MaxDeep, api.ErrTerm)
	if f.has(hasText) {
		t.Text = r.text()
	}
	if f.has(hasUser) {
		t.User = r.small()
	}
	// A user that may not be is wrong, whether there are bytes behind it or not.
	need(f.mayHave(t), api.ErrTerm)
	if f.has(hasNum) {
		t.Num = int(r.U16())
		r.whole()
	}
	for range f.kids() {
		t.Kids = append(t.Kids, r.term(deep+1))
	}
	return t
}

// text takes a text off, and how many bytes it has ahead of it.
func (r *reader) text() string {
	n := r.small()
	need(n <= api.MaxText, api.ErrTerm)
	b := r.Raw(n)
	r.whole()
	return string(b)
}

// small takes a number in 1 byte off.
func (r *reader) small() int {
	n := int(r.U8())
	r.whole()
	return n
}

// whole leaves if there were too few bytes for what was last taken.
func (r *reader) whole() {
	need(r.Err() == api.OK, r.Err())
}

// need leaves with wrong, unless ok.
func need(ok bool, wrong api.Errno) {
	if !ok {
		panic(wrong)
	}
}
