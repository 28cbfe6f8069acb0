package oops

import "errors"

const (
	// deepest is how deep a search follows a chain: a path that has no end is
	// cut there. A chain that is given is 2^16 deep at most (R6), and the search
	// can have gone round in it as deep as few before it comes to its rest.
	deepest = 1 << 19
	// most is how many errors one search examines. There is room for all that
	// are given (R6), since each takes 16 bytes at least in the one that wraps
	// it. Only a search that cannot know errors again comes so far.
	most = 1 << 28
	// few is how many errors a search examines before it takes care to follow
	// none again. Nearly all chains have fewer and need not pay for it. It is
	// also how many errors may fail to be compared before it stops to try.
	few = 1 << 18
	// stride is how many errors in a row are followed for one that is compared,
	// if they may be values that contain one another: to compare one of these
	// takes as long as to follow all that are in it.
	stride = 1 << 9
)

// search is what the links of one chain share.
type search struct {
	// suits reports whether an error is the one that is looked for.
	suits func(e error) bool
	spent int
	most  int
	// followed holds what the errors are known by that were followed. A chain
	// can wrap the same errors again and again, such that there are too many
	// paths to go them all, or can lead back to itself.
	followed map[any]struct{}
	// failed is how many errors could not be compared.
	failed int
}

// link is an error of a chain as errors.As is shown it. On the error itself
// errors.As would panic together with the methods that it calls, and would go
// on for ever in a chain that leads back to itself.
type link struct {
	err    error
	depth  int
	search *search
}

// list is where in memory an error lists those that it wraps.
type list struct {
	first *error
	size  int
}

// chain returns e for errors.As to search: it finds the first error that
// suits, and examines none behind that one.
func chain(e error, suits func(e error) bool) error {
	return link{err: e, search: newSearch(most, suits)}
}

func newSearch(most int, suits func(e error) bool) *search {
	return &search{suits: suits, most: most, followed: map[any]struct{}{}}
}

// Error makes a link an error; nobody asks for the text.
func (l link) Error() string { return "link" }

// As examines the error of the link alone. One that panics does not suit.
func (l link) As(any) bool {
	suits := false
	if l.search.spend(1) {
		quietly(func() { suits = l.search.suits(l.err) })
	}
	return suits
}

// Unwrap returns no links if the error panics: the search goes on beside it.
func (l link) Unwrap() []error {
	var links []error
	if l.search.spend(0) {
		quietly(func() {
			for _, inner := range l.search.follow(l.err, l.depth) {
				links = append(links, link{err: inner, depth: l.depth + 1, search: l.search})
			}
		})
	}
	return links
}

// spend reports whether that much is left of what the search may examine.
func (s *search) spend(n int) bool {
	s.spent += n
	return s.spent <= s.most
}

// follow returns the errors that e wraps, or none if they need not be searched.
func (s *search) follow(e error, depth int) []error {
	inner := wrapped(e)
	if len(inner) == 0 {
		return nil
	}
	if depth == deepest {
		// Without this price, a chain that has no end and forks in each of its
		// errors would be cut too often.
		s.spend(deepest)
		return nil
	}
	if s.again(e, depth, inner) {
		return nil
	}
	return inner
}

// again reports whether it is known that e was followed before: then all that
// it wraps has been examined, or is about to be.
func (s *search) again(e error, depth int, inner []error) bool {
	if s.spent <= few {
		return false
	}
	if key, ok := place(e, inner); ok {
		return s.met(key)
	}
	if s.failed > few || len(inner) == 1 && depth%stride != 0 {
		return false
	}
	known := false
	s.failed++
	// An error that cannot be compared panics here.
	quietly(func() {
		known = s.met(e)
		s.failed--
	})
	return known
}

// met remembers what an error is known by, and reports whether it did so
// before.
func (s *search) met(key any) bool {
	before := len(s.followed)
	s.followed[key] = struct{}{}
	return len(s.followed) == before
}

// place returns where in memory e is, or its list of errors. That can be told
// of the pointers of this package, and of an error that does not list anew what
// it wraps whenever it is asked.
func place(e error, inner []error) (any, bool) {
	switch e.(type) {
	case *Step, *Place, *Which:
		return e, true
	}
	if len(inner) == 1 {
		return nil, false
	}
	own, same := list{&inner[0], len(inner)}, wrapped(e)
	if len(same) != len(inner) || &same[0] != own.first {
		return nil, false
	}
	return own, true
}

// wrapped returns the errors that e wraps, as errors.As asks for them.
func wrapped(e error) []error {
	switch outer := e.(type) {
	case interface{ Unwrap() error }:
		return []error{outer.Unwrap()}
	case interface{ Unwrap() []error }:
		return outer.Unwrap()
	}
	return nil
}

// first lets errors.As look for the first T in the chain of e that counts.
func first[T error](e error, counts func(found T) bool) (T, bool) {
	var found, none T
	ok := errors.As(chain(e, func(inner error) bool {
		return take(inner, &found) && counts(found)
	}), &found)
	if !ok {
		return none, false
	}
	return found, true
}

// take sets the target to e if e is a T, or lets e set it to one that e can be
// taken for, as errors.As does.
func take[T error](e error, target *T) bool {
	if own, ok := e.(T); ok {
		*target = own
		return true
	}
	if other, ok := e.(interface{ As(any) bool }); ok {
		return other.As(target)
	}
	return false
}

// quietly calls what may panic. What it has done by then stays done.
func quietly(call func()) {
	defer func() { _ = recover() }()
	call()
}
