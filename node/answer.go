package node

import (
	"caisson/api"
	"caisson/cdb"
	"caisson/sense"
)

// What the fields of local commands may say.
const (
	mostListPage = 2  // of a ReportLuns: which units are meant, and all of them are
	portsService = 10 // of a Ports: it asks for the groups of ports
)

// Local is the answer of the machine me, which knows that leader, to a command that it answers by itself; false, if it is the leader's to do.
func Local(c Conf, me, leader int, lun int, b []byte) (api.Reply, bool) {
	if !c.canBe() {
		return api.Reply{}, false
	}
	x, e := cdb.Parse(b)
	switch {
	case e == api.ErrArg:
		return noOperation(), true
	case e != api.OK:
		return wrongField(), true
	case !c.hasUnit(lun) && !isOfTarget(x.Op):
		return noUnit(), true
	}
	if r, ok := c.local(x, leader, lun); ok {
		return r, true
	}
	if leader == me {
		return api.Reply{}, false
	}
	return standsBy(), true
}

// isOfTarget tells whether an operation asks for nothing of a unit.
func isOfTarget(op int) bool {
	return op == cdb.ReportLuns || op == cdb.Ports || op == cdb.RequestSense
}

// local is the answer to a command that needs neither the log nor what it has made.
func (c Conf) local(x cdb.Cdb, leader, lun int) (api.Reply, bool) {
	var b []byte
	e := api.OK
	switch x.Op {
	case cdb.Inquiry:
		b, e = sense.Inquiry(x.Vital, x.Page, lun)
	case cdb.ReadCapacity:
		b, e = sense.Capacity(c.Blocks)
	case cdb.ReportLuns:
		b, e = sense.Luns(c.Units)
		if x.Page > mostListPage {
			e = api.ErrArg
		}
	case cdb.Ports:
		b, e = sense.Ports(c.states(leader))
		if x.Service != portsService {
			e = api.ErrArg
		}
	case cdb.RequestSense:
		b, e = sense.Data(api.Reply{})
	default:
		return api.Reply{}, false
	}
	return cut(x, b, e), true
}

// states are those of all machines' ports.
func (c Conf) states(leader int) []int {
	var l []int
	for i := range c.Nodes {
		if i == leader {
			l = append(l, sense.Active)
		} else {
			l = append(l, sense.Standby)
		}
	}
	return l
}

// cut is the answer with as many of the data b as the command asks for; with an error its fields are wrong.
func cut(x cdb.Cdb, b []byte, e api.Errno) api.Reply {
	if e != api.OK {
		return wrongField()
	}
	return api.Reply{Status: api.Good, Data: sense.Cut(b, cdb.In(x))}
}

func noOperation() api.Reply { return check(5, 0x20, 0) }

func outside() api.Reply { return check(5, 0x21, 0) }

func wrongField() api.Reply { return check(5, 0x24, 0) }

func noUnit() api.Reply { return check(5, 0x25, 0) }

func standsBy() api.Reply { return check(2, 0x04, 0x0b) }

func takesNoMore() api.Reply { return api.Reply{Status: api.TaskFull} }

func check(key, asc, ascq int) api.Reply {
	return api.Reply{Status: api.Check, Key: key, Asc: asc, Ascq: ascq}
}
