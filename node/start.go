package node

import (
	"caisson/api"
	"caisson/blocks"
	"caisson/disk"
	"caisson/lease"
	"caisson/raft"
	"caisson/wal"
)

// start is the machine me on a disk that is great enough.
func start(me int, c Conf, d *disk.Disk) (*machine, api.Errno) {
	m := &machine{Disk: d, me: me, conf: c, plan: planOf(c), reads: lease.NewReads()}
	m.lease, _ = lease.New(raft.Least, c.Rho) // no error: a conf's Rho can be
	log, records, meta, e := wal.Open(d, m.plan.journal, segments, perSegment)
	if e != api.OK {
		return nil, e
	}
	if e := m.loadImage(); e != api.OK {
		return nil, e
	}
	m.journal = &journal{Log: log}
	if !m.journal.restore(m.image, meta.Base+1, records) {
		return nil, api.ErrForm
	}
	if e := m.openStores(); e != api.OK {
		return nil, e
	}
	m.Raft, e = raft.New(me, meta.Term, meta.Vote, m.journal.kept, m.agreed())
	if e != api.OK {
		return nil, api.ErrForm
	}
	if e := m.catchUp(); e != api.OK {
		return nil, e
	}
	// A machine that always stops ahead of its next entry would never be tidy.
	if e := m.journal.tidy(); e != api.OK {
		return nil, e
	}
	return m, api.OK
}

func (m *machine) openStores() api.Errno {
	for lun := range m.conf.Units {
		s, e := blocks.Open(m.Disk, m.plan.stores+lun*m.plan.store, m.conf.Blocks)
		if e != api.OK {
			return e
		}
		m.stores = append(m.stores, s)
	}
	return api.OK
}

// agreed is up to where the log is known to be agreed on: only such entries have become an image, or blocks.
func (m *machine) agreed() int64 {
	n := m.image.at
	for _, s := range m.stores {
		n = max(n, s.Applied())
	}
	return n
}

// catchUp does the entries that were done already, and holds the blocks that were kept against what they make.
func (m *machine) catchUp() api.Errno {
	for m.applied < m.agreed() {
		m.perform()
	}
	for lun, s := range m.stores {
		if e := m.mend(lun, s); e != api.OK {
			return e
		}
	}
	return api.OK
}

// mend gives a store the blocks that it should have, where an image came and the machine stopped ahead of that.
func (m *machine) mend(lun int, s *blocks.Store) api.Errno {
	now := m.state.Image(lun)
	if s.Image().Same(now) {
		return api.OK
	}
	if s.Applied() >= m.image.at {
		return api.ErrForm
	}
	return s.Replace(m.image.at, now)
}
