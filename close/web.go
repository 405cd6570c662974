package close

import (
	"slices"

	"safehouse/api"
	"safehouse/term"
)

// shape is a term whose Kids are told by their numbers: the same for terms that are the same, and for no others.
type shape struct {
	kind, user, num int
	text            string
	kids            [2]int
}

// node is a term, and the numbers of those that it hangs together with.
type node struct {
	term   api.Term
	inside []int // what comes out of it, once all its keys can be reckoned
	keys   []int
	needs  []int // what it is put together of
	wakes  []int // itself, and each term that has it among its keys or needs
}

// web is terms and all beneath them, numbered: each stands there once.
type web struct {
	numbers map[shape]int
	nodes   []node
}

// newWeb answers a web without terms.
func newWeb() *web {
	return &web{numbers: map[shape]int{}}
}

// add answers the number of t, which is a new one if t was not there.
func (w *web) add(t api.Term) int {
	kids := w.addAll(t.Kids)
	s := shape{kind: t.Kind, user: t.User, num: t.Num, text: t.Text}
	copy(s.kids[:], kids)
	if n, there := w.numbers[s]; there {
		return n
	}
	x := w.laid(t, kids)
	n := len(w.nodes)
	x.wakes = []int{n}
	w.numbers[s] = n
	w.nodes = append(w.nodes, x)
	for _, m := range slices.Concat(x.keys, x.needs) {
		w.nodes[m].wakes = append(w.nodes[m].wakes, n)
	}
	return n
}

// addAll answers the numbers of the terms of l.
func (w *web) addAll(l []api.Term) []int {
	var numbers []int
	for _, t := range l {
		numbers = append(numbers, w.add(t))
	}
	return numbers
}

// laid answers t, whose Kids have these numbers, without what it wakes.
func (w *web) laid(t api.Term, kids []int) node {
	x := node{term: t, needs: kids}
	switch t.Kind {
	case api.TermPair:
		x.inside = kids
	case api.TermLock:
		x.keys, x.inside = kids[:1], kids[1:]
	case api.TermSeal:
		x.keys, x.inside = w.secret(t), kids
	case api.TermSign:
		x.inside, x.needs = kids, slices.Concat(w.secret(t), kids)
	}
	return x
}

// secret answers the number of the secret of t's user.
func (w *web) secret(t api.Term) []int {
	return []int{w.add(term.Secret(t.User))}
}
