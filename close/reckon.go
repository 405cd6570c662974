package close

import "iter"

// how tells in which way a term can be reckoned; 0 is in none.
type how int

const (
	made how = 1 + iota // it can be put together
	part                // it is known, or came out of a part
)

// got is a term's number, and in which way it can be reckoned.
type got struct {
	number int
	how    how
}

// reckoned answers which terms of the web can be reckoned from those with these numbers, and in which way.
func (w *web) reckoned(known []int) map[int]how {
	had := map[int]how{}
	stack := w.toBegin(known)
work:
	for len(stack) > 0 {
		top := stack[len(stack)-1]
		stack = stack[:len(stack)-1]
		if had[top.number] >= top.how {
			continue work
		}
		had[top.number] = top.how
		for _, n := range w.nodes[top.number].wakes {
			for next := range w.gives(n, had) {
				stack = append(stack, next)
			}
		}
	}
	return had
}

// toBegin answers the known terms as parts, and as made whatever takes nothing to make, which is the texts.
func (w *web) toBegin(known []int) []got {
	var l []got
	for n := range w.nodes {
		if w.canMake(n, nil) {
			l = append(l, got{n, made})
		}
	}
	for _, n := range known {
		l = append(l, got{n, part})
	}
	return l
}

// gives tells what comes of the n-th term by what is had: itself, if it can be made; all inside, if it is a part that can be opened.
// What is inside a term that is only made is not told: it was had ahead of that term.
func (w *web) gives(n int, had map[int]how) iter.Seq[got] {
	return func(yield func(got) bool) {
		if w.canMake(n, had) && !yield(got{n, made}) {
			return
		}
		if had[n] < part || !all(w.nodes[n].keys, had) {
			return
		}
		for _, m := range w.nodes[n].inside {
			if !yield(got{m, part}) {
				return
			}
		}
	}
}

// canMake tells whether the n-th term can be put together out of what is had.
func (w *web) canMake(n int, had map[int]how) bool {
	x := w.nodes[n]
	return !isAtom(x.term) && all(x.needs, had)
}

// all tells whether each of these is had.
func all(numbers []int, had map[int]how) bool {
	for _, n := range numbers {
		if had[n] < made {
			return false
		}
	}
	return true
}
