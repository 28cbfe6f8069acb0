package oops

import "errors"

const (
	// deepest is how deep a chain of errors is searched, twice as deep as the
	// program is used (R6). Without an end to it, the search of a chain that
	// leads back to itself would have none.
	deepest = 1 << 17
	// most is how many errors one search examines: each takes 16 bytes at least
	// in the one that wraps it, and the program is given fewer than 2^31 (R6).
	// A chain that wraps the same errors again and again can have so many that
	// a search of all of them would not end in any useful time.
	most = 1 << 27
)

// search is what the links of one chain share.
type search struct {
	// suits reports whether an error is the one that is looked for.
	suits func(e error) bool
	left  int
}

// link is an error of a chain as errors.As is shown it. On the error itself
// errors.As would panic together with the methods that it calls, and would go
// on for ever in a chain without an end.
type link struct {
	err    error
	depth  int
	search *search
}

// chain returns e for errors.As to search: it finds the first error that
// suits, and examines none behind that one.
func chain(e error, suits func(e error) bool) error {
	return link{err: e, search: &search{suits: suits, left: most}}
}

// Error makes a link an error; nobody asks for the text.
func (l link) Error() string { return "link" }

// As examines the error of the link alone. One that panics does not suit.
func (l link) As(any) bool {
	suits := false
	if l.search.enter(l.depth) {
		quietly(func() { suits = l.search.suits(l.err) })
	}
	return suits
}

// Unwrap returns no links if the error panics: the search goes on beside it.
func (l link) Unwrap() []error {
	var links []error
	if l.search.left > 0 {
		quietly(func() {
			for _, inner := range wrapped(l.err) {
				links = append(links, link{err: inner, depth: l.depth + 1, search: l.search})
			}
		})
	}
	return links
}

// enter reports whether one more error may be examined. The first one that is
// too deep ends the whole search: a chain without an end can fork in each of
// its errors, and has too many that are less deep.
func (s *search) enter(depth int) bool {
	if depth > deepest {
		s.left = 0
	}
	if s.left == 0 {
		return false
	}
	s.left--
	return true
}

// wrapped returns the errors that e wraps, as errors.As asks for them.
func wrapped(e error) []error {
	switch outer := e.(type) {
	case interface{ Unwrap() error }:
		return []error{outer.Unwrap()}
	case interface{ Unwrap() []error }:
		return outer.Unwrap()
	}
	return nil
}

// wanted is a type of errors that first looks for.
type wanted interface {
	comparable
	error
}

// first finds the first T in the chain of e.
func first[T wanted](e error) (found T, ok bool) {
	ok = errors.As(chain(e, func(inner error) (suits bool) {
		found, suits = taken[T](inner)
		return suits
	}), &found)
	return found, ok
}

// taken returns e as a T if it is one, or can be taken for one. An error that
// says so but gives none is passed over, as one that does not say so.
func taken[T wanted](e error) (T, bool) {
	if own, ok := e.(T); ok {
		return own, true
	}
	var given, none T
	if other, ok := e.(interface{ As(any) bool }); ok {
		if other.As(&given) && given != none {
			return given, true
		}
	}
	return none, false
}

// quietly calls what may panic. What it has done by then stays done.
func quietly(call func()) {
	defer func() { _ = recover() }()
	call()
}
