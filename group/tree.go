package group

import (
	"iter"
	"slices"
	"strconv"

	"safehouse/api"
	"safehouse/term"
)

const (
	root      = 1
	firstLeaf = api.MaxPlaces    // the node of the place 0
	lastNode  = api.MaxNodes - 1 // the node of the last place
)

// way tells the nodes of a place's way, from its own one up to the root.
func way(place int) iter.Seq[int] {
	return func(yield func(int) bool) {
		for node := firstLeaf + place; node >= root; node /= 2 {
			if !yield(node) {
				return
			}
		}
	}
}

// under answers, node by node, how many members are under it, or at it.
func under(g api.Group) [api.MaxNodes]int {
	var members [api.MaxNodes]int
	for place, user := range g.Places {
		if user == 0 {
			continue
		}
		for node := range way(place) {
			members[node]++
		}
	}
	return members
}

// pruned answers g without the keys of nodes that nobody is under.
func pruned(g api.Group) api.Group {
	for node, members := range under(g) {
		if members == 0 {
			g.Nums[node] = 0
		}
	}
	return g
}

// isKeyed tells whether a node has a key just if a member is under it.
func isKeyed(g api.Group) bool {
	for node, members := range under(g) {
		if members > 0 && g.Nums[node] == 0 {
			return false
		}
	}
	return pruned(g) == g
}

// renewed answers g in the next epoch, the place's way renewed from the Num next on, the messages, and how many Nums were taken.
func renewed(g api.Group, place, next int) (api.Group, []api.Term, int, api.Errno) {
	if g.Epoch == api.MaxNum || next > api.MaxNum {
		return refused(api.ErrFull)
	}
	var l []api.Term
	n := 0
	renew := func(node int) {
		g.Nums[node] = next + n
		n++
		// The nodes under it have their new keys by now, as the way goes up.
		l = append(l, messages(g, node)...)
	}
	g = pruned(g)
	g.Epoch++
	members := under(g)
	for node := range way(place) {
		if members[node] > 0 {
			renew(node)
		}
	}
	if next+n-1 > api.MaxNum {
		return refused(api.ErrFull)
	}
	return g, l, n, api.OK
}

// messages answers what tells the key of a node that has one to those who are under it.
func messages(g api.Group, node int) []api.Term {
	key := keyOf(g, node)
	if node >= firstLeaf {
		return []api.Term{term.Pair(digits(node), term.Seal(g.Places[node-firstLeaf], key))}
	}
	var l []api.Term
	for _, below := range []int{2 * node, 2*node + 1} {
		if g.Nums[below] != 0 {
			l = append(l, term.Pair(digits(node), term.Lock(keyOf(g, below), key)))
		}
	}
	return l
}

// keyOf answers the key of a node that has one.
func keyOf(g api.Group, node int) api.Term {
	return term.Fresh(g.Owner, g.Nums[node])
}

// digits answers the node's number in digits.
func digits(node int) api.Term {
	return term.Text(strconv.Itoa(node))
}

// isAboveAll tells whether the Num is above all those of the group.
func isAboveAll(num int, g api.Group) bool {
	return num > slices.Max(g.Nums[:])
}

// areOwn tells whether the numbers are from 0 to most, and none but 0 is there twice.
func areOwn(l []int, most int) bool {
	for k, n := range l {
		if n != 0 && (!isUpTo(n, most) || slices.Contains(l[:k], n)) {
			return false
		}
	}
	return true
}

// isUpTo tells whether n is from 1 to most.
func isUpTo(n, most int) bool {
	return 1 <= n && n <= most
}
