package sense

import (
	"bytes"

	"caisson/api"
	"caisson/field"
)

// wordSize is the bytes of the numbers that stand ahead of lists.
const wordSize = 4

// The places of the bytes that a unit has in a list of units.
const (
	_ = iota
	unitAt
	_
	_
	_
	_
	_
	_
	unitSize
)

// The places of the bytes that a machine has in a list of ports: it is a group of one port.
const (
	stateAt = iota
	canAt
	groupAt // two bytes
	_
	_
	_
	_
	countAt
	_
	_
	portAt // two bytes
	_
	portSize
)

// canBe is which kinds of states a port may be in, a bit each.
const canBe = 0x8d

const numberSize = 2

// Capacity is the last block's number, and the size of a block.
func Capacity(blocks int) ([]byte, api.Errno) {
	if !isFrom(1, blocks, api.MaxBlocks) {
		return nil, api.ErrArg
	}
	w := field.NewWriter()
	w.Num(wordSize, int64(blocks-1))
	w.Num(wordSize, api.Block)
	return w.End()
}

// Luns is the list of so many units.
func Luns(units int) ([]byte, api.Errno) {
	if !isFrom(1, units, api.MaxLuns) {
		return nil, api.ErrArg
	}
	w := field.NewWriter()
	w.Num(wordSize, int64(units*unitSize))
	w.Num(wordSize, 0)
	b, _ := w.End() // so few units have few bytes
	for number := range units {
		var u [unitSize]byte
		u[unitAt] = byte(number)
		b = append(b, u[:]...)
	}
	return b, api.OK
}

// Ports is the list of machines, from 0 on, in these states.
func Ports(states []int) ([]byte, api.Errno) {
	if len(states) > api.MaxNodes {
		return nil, api.ErrSize
	}
	w := field.NewWriter()
	w.Num(wordSize, int64(len(states)*portSize))
	b, _ := w.End() // so few machines have few bytes
	for number, state := range states {
		if !isState(state) {
			return nil, api.ErrArg
		}
		b = append(b, port(number, state)...)
	}
	return b, api.OK
}

// States is the states that Ports has written as b.
func States(b []byte) ([]int, api.Errno) {
	follow, e := field.Get(b, 0, wordSize)
	if e != api.OK || follow > uint64(len(b)-wordSize) {
		return nil, api.ErrShort
	}
	var states []int
	for at := wordSize; at < len(b); at += portSize {
		states = append(states, int(b[at+stateAt]))
	}
	again, e := Ports(states)
	if e != api.OK || !bytes.Equal(again, b) {
		return nil, api.ErrForm
	}
	return states, api.OK
}

// port is the bytes of a machine's group, whose one port has the group's number; both are counted from 1 on.
func port(number, state int) []byte {
	b := make([]byte, portSize)
	b[stateAt] = byte(state)
	b[canAt] = canBe
	b[countAt] = 1
	b, _ = field.Put(b, groupAt, numberSize, uint64(number+1)) // a machine's number is small
	b, _ = field.Put(b, portAt, numberSize, uint64(number+1))
	return b
}

func isState(n int) bool {
	switch n {
	case Active, Standby, Offline, Changing:
		return true
	}
	return false
}
