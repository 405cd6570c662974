package term_test

import (
	"reflect"
	"strings"
	"testing"

	"safehouse/api"
	"safehouse/term"
)

// What stands here is the chapter's words once more, by other means than the package's: a model of which terms may be, of their bytes, and of what is wrong with bytes.

// known answers which of Text, User and Num count, and how many Kids: false of what is no Kind.
func known(kind int) (text, user, num bool, kids int, ok bool) {
	switch kind {
	case 1:
		return true, false, false, 0, true
	case 2:
		return false, true, true, 0, true
	case 3:
		return false, true, false, 0, true
	case 4, 6:
		return false, false, false, 2, true
	case 5:
		return false, false, false, 1, true
	case 7:
		return false, true, false, 1, true
	case 8:
		return false, true, true, 1, true
	}
	return false, false, false, 0, false
}

// fitting tells whether the fields of t are as its Kind says, and those of all beneath it.
func fitting(t api.Term) bool {
	text, user, num, kids, ok := known(t.Kind)
	switch {
	case !ok,
		!text && t.Text != "", len(t.Text) > 64,
		!user && t.User != 0, user && (t.User < 1 || t.User > 6),
		!num && t.Num != 0, t.Num < 0, t.Num > 65535,
		len(t.Kids) != kids:
		return false
	}
	for _, kid := range t.Kids {
		if !fitting(kid) {
			return false
		}
	}
	return true
}

// sizeOf counts t, and all beneath it.
func sizeOf(t api.Term) int {
	n := 1
	for _, kid := range t.Kids {
		n += sizeOf(kid)
	}
	return n
}

// depthOf answers how deep t is.
func depthOf(t api.Term) int {
	n := 0
	for _, kid := range t.Kids {
		n = max(n, depthOf(kid))
	}
	return 1 + n
}

// mayBe tells whether a term may be.
func mayBe(t api.Term) bool {
	return fitting(t) && sizeOf(t) <= 1200 && depthOf(t) <= 60
}

// bytesOf answers the bytes of a term, as a text, whether it is too great, or too deep, or not.
func bytesOf(t api.Term) string {
	text, user, num, _, _ := known(t.Kind)
	parts := []string{string([]byte{byte(t.Kind)})}
	if text {
		parts = append(parts, string([]byte{byte(len(t.Text))}), t.Text)
	}
	if user {
		parts = append(parts, string([]byte{byte(t.User)}))
	}
	if num {
		parts = append(parts, string([]byte{byte(t.Num / 256), byte(t.Num % 256)}))
	}
	for _, kid := range t.Kids {
		parts = append(parts, bytesOf(kid))
	}
	return strings.Join(parts, "")
}

// scan says where the term with whose bytes b begins ends, and what is wrong, without making it: what is owed is a stack of the depths at which terms are still to come.
func scan(b []byte) (int, api.Errno) {
	owed, size, at := []int{1}, 0, 0
	for len(owed) > 0 {
		deep := owed[len(owed)-1]
		owed = owed[:len(owed)-1]
		if at == len(b) {
			return 0, api.ErrShort
		}
		text, user, num, kids, ok := known(int(b[at]))
		at++
		if size++; !ok || size > 1200 || deep > 60 {
			return 0, api.ErrTerm
		}
		if text {
			if at == len(b) {
				return 0, api.ErrShort
			}
			if b[at] > 64 {
				return 0, api.ErrTerm
			}
			at += 1 + int(b[at])
		}
		if user {
			if at == len(b) {
				return 0, api.ErrShort
			}
			if b[at] < 1 || b[at] > 6 {
				return 0, api.ErrTerm
			}
			at++
		}
		if num {
			at += 2
		}
		if at > len(b) {
			return 0, api.ErrShort
		}
		for range kids {
			owed = append(owed, deep+1)
		}
	}
	return at, api.OK
}

// plain answers t with nil in the place of each empty list, all in new memory.
func plain(t api.Term) api.Term {
	var kids []api.Term
	for _, kid := range t.Kids {
		kids = append(kids, plain(kid))
	}
	t.Kids = kids
	return t
}

// equal tells whether a and b are the same, without asking the package.
func equal(a, b api.Term) bool {
	return reflect.DeepEqual(plain(a), plain(b))
}

// node answers a term with these fields, and with just these Kids.
func node(kind, user, num int, text string, kids ...api.Term) api.Term {
	return api.Term{Kind: kind, User: user, Num: num, Text: text, Kids: kids}
}

// said answers a text.
func said(s string) api.Term {
	return node(1, 0, 0, s)
}

// checkTerm holds what is told of a term against the model.
func checkTerm(t *testing.T, what string, x api.Term) {
	t.Helper()
	before := plain(x)
	wantErr, wantSize, wantBytes := api.ErrTerm, 0, ""
	if mayBe(x) {
		wantErr, wantSize, wantBytes = api.OK, sizeOf(x), bytesOf(x)
	}
	if got := term.Check(x); got != wantErr {
		t.Errorf("%s: Check: %d, not %d", what, got, wantErr)
	}
	if got := term.Size(x); got != wantSize {
		t.Errorf("%s: Size: %d, not %d", what, got, wantSize)
	}
	got, err := term.Encode(x)
	if string(got) != wantBytes || err != wantErr {
		t.Errorf("%s: Encode: % x, %d, not % x, %d", what, got, err, wantBytes, wantErr)
	}
	if !term.Same(x, before) || !equal(x, before) {
		t.Errorf("%s: it is not the same any more", what)
	}
}

// checkBytes holds what Decode tells of bytes against the model.
func checkBytes(t *testing.T, what string, b []byte) {
	t.Helper()
	before := string(b)
	wantN, wantErr := scan(b)
	got, n, err := term.Decode(b)
	if n != wantN || err != wantErr {
		t.Errorf("%s: Decode(% x): %d bytes, %d, not %d, %d", what, b, n, err, wantN, wantErr)
	}
	if err != api.OK {
		if !reflect.DeepEqual(got, api.Term{}) {
			t.Errorf("%s: Decode(% x): beside the error %d stands %v", what, b, err, got)
		}
	} else if !mayBe(got) || bytesOf(got) != before[:wantN] {
		t.Errorf("%s: Decode(% x): a term whose bytes are others: %v", what, b, got)
	}
	if string(b) != before {
		t.Errorf("%s: Decode changed what it was handed", what)
	}
}

// chance answers numbers that look picked, always the same ones.
type chance uint32

func (c *chance) below(n int) int {
	*c = *c*1664525 + 1013904223
	return int(*c>>8) % n
}

// text picks one, of the greatest length at times.
func (c *chance) text() string {
	b := make([]byte, []int{0, 1, 2, 63, 64, c.below(64)}[c.below(6)])
	for k := range b {
		b[k] = byte(c.below(256))
	}
	return string(b)
}

// term picks one that may be, with at most so many Kids beneath one another.
func (c *chance) term(deep int) api.Term {
	kind := 1 + c.below(8)
	if deep == 0 {
		kind = 1 + c.below(3)
	}
	text, user, num, kids, _ := known(kind)
	t := api.Term{Kind: kind}
	if text {
		t.Text = c.text()
	}
	if user {
		t.User = 1 + c.below(6)
	}
	if num {
		t.Num = []int{0, 1, 255, 256, 65535, c.below(65536)}[c.below(6)]
	}
	for range kids {
		t.Kids = append(t.Kids, c.term(deep-1))
	}
	return t
}

// places answers where the terms within t stand, t the first one.
func places(t *api.Term) []*api.Term {
	l := []*api.Term{t}
	for k := range t.Kids {
		l = append(l, places(&t.Kids[k])...)
	}
	return l
}

// spoil changes one field of t to another value.
func (c *chance) spoil(t *api.Term) {
	switch c.below(5) {
	case 0:
		t.Kind += []int{1, -1, 9, -9, 256}[c.below(5)]
	case 1:
		t.User += []int{1, -1, 6, -6, 256}[c.below(5)]
	case 2:
		t.Num += []int{1, -1, 65535, 65536, -65536}[c.below(5)]
	case 3:
		t.Text += strings.Repeat("x", []int{1, 64, 65}[c.below(3)])
	case 4:
		if len(t.Kids) > 0 && c.below(2) == 0 {
			t.Kids = t.Kids[1:]
		} else {
			t.Kids = append(t.Kids, said("y"))
		}
	}
}
