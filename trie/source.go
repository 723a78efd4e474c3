package trie

import (
	"bytes"

	"cairn/api"
)

// Source tells nodes by their hashes.
type Source interface {
	Node(h api.Hash) ([]byte, api.Errno)
}

// Memory is a source in memory. One that NewMemory did not make has no nodes and keeps none.
type Memory struct {
	nodes map[api.Hash][]byte // nil in a Memory that NewMemory did not make
}

// NewMemory answers a Memory without nodes: 12.2
func NewMemory() *Memory { return &Memory{nodes: map[api.Hash][]byte{}} }

// Node answers the bytes that are kept under a hash: 12.2
func (m *Memory) Node(h api.Hash) ([]byte, api.Errno) {
	if m == nil {
		return nil, api.ErrNone
	}
	b, is := m.nodes[h]
	if !is {
		return nil, api.ErrNone
	}
	return bytes.Clone(b), api.OK
}

// Add keeps the nodes of l that the Memory does not have, and answers how many they are: 12.2
func (m *Memory) Add(l []api.Node) int {
	if m == nil || m.nodes == nil {
		return 0
	}
	had := len(m.nodes)
	for _, n := range l {
		if _, is := m.nodes[n.Hash]; !is {
			m.nodes[n.Hash] = bytes.Clone(n.Bytes)
		}
	}
	return len(m.nodes) - had
}

// Len answers how many nodes the Memory has: 12.2
func (m *Memory) Len() int {
	if m == nil {
		return 0
	}
	return len(m.nodes)
}

// nowhere is a source that has nothing.
type nowhere struct{}

func (nowhere) Node(api.Hash) ([]byte, api.Errno) { return nil, api.ErrNone }

// ask answers what a source tells. The source is somebody else's: if it panics, it tells nothing, so that no call of the trie does.
func ask(src Source, h api.Hash) (b []byte, e api.Errno) {
	defer func() {
		if recover() != nil {
			b, e = nil, api.ErrNone
		}
	}()
	return src.Node(h)
}

// has answers whether a source has a node.
func has(src Source, h api.Hash) bool {
	_, e := ask(src, h)
	return e == api.OK
}
