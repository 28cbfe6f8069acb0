package radix

import (
	"errors"

	"taproot/api"
	"taproot/hex"
	"taproot/log"
	"taproot/octet"
)

// The kinds of records. Each node has one of its own.
const (
	singleKind = 1 + iota
	forkKind
)

const (
	digits = "0123456789abcdef"
	// deepest is how many digits lead to a hash at most.
	deepest = 2 * len(api.Hash{})
	// maxLoaded is how many hashes a tree may have to be loaded.
	maxLoaded = 2 * api.MaxCommits
)

func (t *Tree) Save(l *log.Log) (int, error) {
	if l == nil {
		return 0, api.ErrArg
	}
	length := l.Length()
	fresh := t.top.unsaved(nil)
	for _, n := range fresh {
		if e := l.Add(n.encode()); e != nil {
			forget(fresh)
			return 0, withdraw(l, length, e)
		}
		n.record = l.Count()
	}
	return t.top.saved(), nil
}

func Load(l *log.Log, root int) (*Tree, error) {
	if l == nil {
		return nil, api.ErrArg
	}
	if root == 0 {
		return New(), nil
	}
	r := &reading{log: l}
	top := r.node(root, "")
	if top == nil {
		return nil, api.ErrForm
	}
	return &Tree{top: top, count: r.count}, nil
}

// unsaved appends the nodes that have not been saved to list, those below n
// ahead of it, because its record contains the numbers of theirs.
func (n *node) unsaved(list []*node) []*node {
	if n == nil || n.record != 0 {
		return list
	}
	if n.ways != nil {
		for _, below := range n.ways {
			list = below.unsaved(list)
		}
	}
	return append(list, n)
}

// saved returns the number of the record, which is 0 for no node at all.
func (n *node) saved() int {
	if n == nil {
		return 0
	}
	return n.record
}

// encode returns the record of a node. All nodes below must have been saved.
func (n *node) encode() (kind int, body []byte) {
	w := octet.NewWriter()
	if n.ways == nil {
		w.Raw(n.hash[:])
		w.Var(n.number)
		return singleKind, w.Bytes()
	}
	for _, below := range n.ways {
		w.Var(below.saved())
	}
	return forkKind, w.Bytes()
}

// forget makes the nodes unsaved again.
func forget(list []*node) {
	for _, n := range list {
		n.record = 0
	}
}

// withdraw removes the records that were added before the log returned e, so
// that a Save that is refused has changed nothing. Only a full disk allows
// that. If the disk fails now, this matters more than that it is full.
func withdraw(l *log.Log, length int, e error) error {
	if !errors.Is(e, api.ErrSpace) || l.Length() == length {
		return e
	}
	if failed := l.Cut(length); failed != nil {
		return failed
	}
	return e
}

// reading is a tree that is being loaded, with the number of hashes so far.
type reading struct {
	log   *log.Log
	count int
}

// node returns the node with this number, to which the digits of path lead, or
// nil if Save does not write such a record there.
func (r *reading) node(number int, path string) *node {
	kind, body, _ := r.log.Record(number - 1)
	switch kind {
	case singleKind:
		return r.single(number, body, path)
	case forkKind:
		return r.fork(number, body, path)
	default:
		return nil
	}
}

func (r *reading) single(number int, body []byte, path string) *node {
	n := &node{record: number}
	from := octet.NewReader(body)
	copy(n.hash[:], from.Raw(len(n.hash)))
	n.number = from.Var()
	r.count++
	if from.Lack() || from.Left() > 0 || n.number < 0 || r.count > maxLoaded {
		return nil
	}
	// Whatever is wrong with the ways, it leads to a hash that is not there.
	if !hex.Begins(n.hash, path) {
		return nil
	}
	return n
}

func (r *reading) fork(number int, body []byte, path string) *node {
	below, ok := decode(number, body)
	if !ok || len(path) == deepest {
		return nil
	}
	n := &node{record: number, ways: new([ways]*node)}
	before := r.count
	for k, to := range below {
		if to == 0 {
			continue
		}
		n.ways[k] = r.node(to, path+digits[k:k+1])
		if n.ways[k] == nil {
			return nil
		}
	}
	// Save writes no fork for a single hash, let alone for none.
	if r.count < before+2 {
		return nil
	}
	return n
}

// decode returns the numbers of the nodes below a fork, and whether its record
// may contain them: only records ahead of it can have been saved before. What
// is no number at all is left to node.
func decode(number int, body []byte) ([ways]int, bool) {
	var below [ways]int
	from := octet.NewReader(body)
	for k := range below {
		below[k] = from.Var()
		if below[k] >= number {
			return [ways]int{}, false
		}
	}
	return below, !from.Lack() && from.Left() == 0
}
