package cluster

import (
	"caisson/api"
	"caisson/disk"
	"caisson/node"
)

const nobody = -1

// machines are all of a cluster, each on a disk of its own.
type machines struct {
	conf  node.Conf
	disks []*disk.Disk
	nodes []*node.Node // nil: it could not start
}

// start lets the machine i start with what its disk has.
func (m *machines) start(i int) {
	m.nodes[i], _ = node.New(i, m.conf, m.disks[i]) // with an error there is none
}

// crash lets the machine i stop, and start again with what its disk has kept.
func (m *machines) crash(i int, kept []int) {
	m.disks[i].Crash(kept)
	m.start(i)
}

func (m *machines) has(i int) bool { return i >= 0 && i < len(m.disks) }

// node is the machine i; nil, if it does not work, or there is none.
func (m *machines) node(i int) *node.Node {
	if !m.has(i) || m.nodes[i].Dead() {
		return nil
	}
	return m.nodes[i]
}

// leader is the one of those that lead whose term is the greatest.
func (m *machines) leader() int {
	best, term := nobody, int64(0)
	for i := range m.nodes {
		info := m.node(i).Info()
		if info.Role == api.Leader && info.Term > term {
			best, term = i, info.Term
		}
	}
	return best
}

// calm does not ask what a machine has applied beyond what is agreed on: its log has nothing there.
func (m *machines) calm() bool {
	first := m.leader()
	if first == nobody {
		return false
	}
	commit := m.node(first).Info().Commit
	for i := range m.nodes {
		x := m.node(i)
		if x != nil && (x.Waits() > 0 || x.Applied() < commit || x.Top() > commit) {
			return false
		}
	}
	return true
}

func (m *machines) images() [][]byte {
	var l [][]byte
	for _, d := range m.disks {
		l = append(l, d.Image())
	}
	return l
}
