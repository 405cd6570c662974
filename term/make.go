package term

import (
	"slices"

	"safehouse/api"
)

// Text answers what everybody can say.
func Text(s string) api.Term {
	return made(api.Term{Kind: api.TermText, Text: s})
}

// Fresh answers an atom that the user has thrown.
func Fresh(user, num int) api.Term {
	return made(api.Term{Kind: api.TermFresh, User: user, Num: num})
}

// Secret answers the user's secret.
func Secret(user int) api.Term {
	return made(api.Term{Kind: api.TermSecret, User: user})
}

// Pair answers both as one.
func Pair(a, b api.Term) api.Term {
	return made(api.Term{Kind: api.TermPair}, a, b)
}

// Hash answers the digest of a.
func Hash(a api.Term) api.Term {
	return made(api.Term{Kind: api.TermHash}, a)
}

// Lock answers the body, locked by the key.
func Lock(key, body api.Term) api.Term {
	return made(api.Term{Kind: api.TermLock}, key, body)
}

// Seal answers the body for this user alone.
func Seal(user int, body api.Term) api.Term {
	return made(api.Term{Kind: api.TermSeal, User: user}, body)
}

// Sign answers the body, signed by the user with that leaf.
func Sign(user, leaf int, body api.Term) api.Term {
	return made(api.Term{Kind: api.TermSign, User: user, Num: leaf}, body)
}

// List answers a list of terms as a term.
func List(l ...api.Term) api.Term {
	t := Text("")
	for _, first := range slices.Backward(copied(l)) {
		// Both are new already: Pair would copy all that stands behind the first one again, each time.
		t = api.Term{Kind: api.TermPair, Kids: []api.Term{first, t}}
	}
	return t
}

// Unlist answers the terms of a list, and whether t is one.
func Unlist(t api.Term) ([]api.Term, bool) {
	if Check(t) != api.OK {
		return nil, false
	}
	var l []api.Term
	for ; t.Kind == api.TermPair; t = t.Kids[1] {
		l = append(l, t.Kids[0])
	}
	if !Same(t, Text("")) {
		return nil, false
	}
	return copied(l), true
}

// made answers t with copies of these Kids.
func made(t api.Term, kids ...api.Term) api.Term {
	t.Kids = copied(kids)
	return t
}

// copied answers the terms of l in memory of their own, Kid by Kid.
func copied(l []api.Term) []api.Term {
	if len(l) == 0 {
		return nil
	}
	row := make([]api.Term, len(l))
	for k, t := range l {
		t.Kids = copied(t.Kids)
		row[k] = t
	}
	return row
}
