package graph

import (
	"slices"

	"taproot/api"
	"taproot/hex"
	"taproot/oops"
)

func (g *Graph) Check(r api.Request) error {
	if !bounded(r) {
		return api.ErrArg
	}
	if e := checkLists(r.Commits); e != nil {
		return e
	}
	added, e := g.added(r.Commits)
	if e != nil {
		return e
	}
	if e := g.checkParents(r.Commits, added); e != nil {
		return e
	}
	if e := g.checkHeads(r.Heads, added); e != nil {
		return e
	}
	if e := checkCycles(r.Commits, added); e != nil {
		return e
	}
	if g.Count()+len(added) > api.MaxCommits {
		return api.ErrFull
	}
	return nil
}

func bounded(r api.Request) bool {
	if r.Group != api.Master && r.Group != api.Other {
		return false
	}
	return len(r.Commits) <= api.MaxRequest && len(r.Heads) <= api.MaxRequest
}

func checkLists(l []api.Commit) error {
	for _, c := range l {
		if len(c.Parents) > api.MaxParents {
			return oops.Of(c.Hash, api.ErrLimit)
		}
		// Sort keeps each hash once.
		if len(hex.Sort(c.Parents)) < len(c.Parents) {
			return oops.Of(c.Hash, api.ErrArg)
		}
	}
	return nil
}

// added returns the parents of those commits of l that do not exist, unless
// there is a conflict. A commit is compared with the first one of its hash
// only, because all that come between them have had the same parents.
func (g *Graph) added(l []api.Commit) (lists, error) {
	added := lists{}
	for _, c := range l {
		parents, known := g.parents[c.Hash]
		if !known {
			parents, known = added[c.Hash]
		}
		if !known {
			added[c.Hash] = c.Parents
		} else if !slices.Equal(parents, c.Parents) {
			return nil, oops.Of(c.Hash, api.ErrConflict)
		}
	}
	return added, nil
}

func (g *Graph) checkParents(l []api.Commit, added lists) error {
	for _, c := range l {
		for _, p := range c.Parents {
			if !g.Has(p) && !added.has(p) {
				return oops.Of(p, api.ErrParent)
			}
		}
	}
	return nil
}

func (g *Graph) checkHeads(heads []api.Hash, added lists) error {
	for _, h := range heads {
		if !g.Has(h) && !added.has(h) {
			return oops.Of(h, api.ErrUnknown)
		}
	}
	return nil
}

// checkCycles looks at the commits that would be added alone: those of the
// graph are descendants of none of them.
func checkCycles(l []api.Commit, added lists) error {
	for _, c := range l {
		if added.reach(c.Parents).has(c.Hash) {
			return oops.Of(c.Hash, api.ErrCycle)
		}
	}
	return nil
}
