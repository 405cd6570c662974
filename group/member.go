package group

import (
	"cmp"
	"slices"

	"safehouse/api"
	"safehouse/term"
)

// CheckMember answers ErrMember of what no member can know.
func CheckMember(m api.Knows) api.Errno {
	if !isUpTo(m.User, api.MaxUsers) || !areOnOneWay(m.Keys) {
		return api.ErrMember
	}
	for _, k := range m.Keys {
		if term.Check(k.Key) != api.OK {
			return api.ErrMember
		}
	}
	return api.OK
}

// Update answers what is known behind the messages, heard one behind the other.
func Update(m api.Knows, l []api.Term) (api.Knows, api.Errno) {
	if wrong := CheckMember(m); wrong != api.OK {
		return api.Knows{}, wrong
	}
	for _, t := range l {
		if wrong := term.Check(t); wrong != api.OK {
			return api.Knows{}, wrong
		}
	}
	m.Keys = slices.Clone(m.Keys)
	for _, t := range l {
		m.Keys = heard(m, t)
	}
	for k := range m.Keys {
		m.Keys[k].Key = copied(m.Keys[k].Key)
	}
	return m, api.OK
}

// Root answers the root's key, and whether it is known.
func Root(m api.Knows) (api.Term, bool) {
	if CheckMember(m) != api.OK || len(m.Keys) == 0 || m.Keys[0].Node != root {
		return api.Term{}, false
	}
	return copied(m.Keys[0].Key), true
}

// areOnOneWay tells whether there are no nodes, or they rise along the way of one place, whose node is the last one.
func areOnOneWay(l []api.NodeKey) bool {
	if len(l) == 0 {
		return true
	}
	last := l[len(l)-1].Node
	if last < firstLeaf || last > lastNode {
		return false
	}
	for node := range way(last - firstLeaf) {
		// From the place's node up the numbers fall, as they do from the last one back.
		if len(l) > 0 && l[len(l)-1].Node == node {
			l = l[:len(l)-1]
		}
	}
	return len(l) == 0
}

// heard answers which keys are known behind a message, in the room of those that were known ahead of it.
func heard(m api.Knows, t api.Term) []api.NodeKey {
	if t.Kind != api.TermPair {
		return m.Keys
	}
	l, node, said := m.Keys, nodeOf(t.Kids[0]), t.Kids[1]
	switch {
	case node >= firstLeaf && said.Kind == api.TermSeal && said.User == m.User:
		l = nil
		fallthrough
	case isUpTo(node, firstLeaf-1) && said.Kind == api.TermLock && opens(l, node, said.Kids[0]):
		// Of a sealed term and of a lock what is inside stands last.
		l = put(l, node, said.Kids[len(said.Kids)-1])
	}
	return l
}

// nodeOf answers the node whose number in digits t is: 0, if it is none's.
func nodeOf(t api.Term) int {
	for node := root; node <= lastNode; node++ {
		if term.Same(t, digits(node)) {
			return node
		}
	}
	return 0
}

// opens tells whether that key is known as the one of a node right under this one.
func opens(l []api.NodeKey, node int, key api.Term) bool {
	return slices.ContainsFunc(l, func(k api.NodeKey) bool {
		return k.Node/2 == node && term.Same(k.Key, key)
	})
}

// put answers the keys with that one as the node's, at its place.
func put(l []api.NodeKey, node int, key api.Term) []api.NodeKey {
	place, there := slices.BinarySearchFunc(l, node, func(k api.NodeKey, node int) int {
		return cmp.Compare(k.Node, node)
	})
	if !there {
		l = slices.Insert(l, place, api.NodeKey{Node: node})
	}
	l[place].Key = key
	return l
}

// copied answers t in memory of its own, Kid by Kid.
func copied(t api.Term) api.Term {
	kids := t.Kids
	t.Kids = nil
	for _, kid := range kids {
		t.Kids = append(t.Kids, copied(kid))
	}
	return t
}
