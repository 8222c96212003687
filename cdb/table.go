package cdb

import "caisson/field"

// The fields that a command may have.
const (
	service = iota
	page
	vital
	kind
	lba
	length
	fields // how many there are
)

// place is where a field stands: in as many bytes, from at on, as its bits need, and the lowest ones of these. Without bits it is not there.
type place struct{ at, bits uint8 }

// row is an operation and the places of its fields, no two of which have a byte together.
type row struct {
	op     uint8
	places [fields]place
}

var commands = [...]row{
	{op: TestUnitReady},
	{op: RequestSense, places: [fields]place{length: {4, 8}}},
	{op: Inquiry, places: [fields]place{vital: {1, 1}, page: {2, 8}, length: {3, 16}}},
	{op: ReadCapacity},
	{op: Read10, places: [fields]place{lba: {2, 32}, length: {7, 16}}},
	{op: Write10, places: [fields]place{lba: {2, 32}, length: {7, 16}}},
	{op: Sync10, places: [fields]place{lba: {2, 32}, length: {7, 16}}},
	{op: Unmap, places: [fields]place{length: {7, 16}}},
	{op: PrIn, places: [fields]place{service: {1, 5}, length: {7, 16}}},
	{op: PrOut, places: [fields]place{service: {1, 5}, kind: {2, 4}, length: {5, 32}}},
	{op: Read16, places: [fields]place{lba: {2, 64}, length: {10, 32}}},
	{op: Write16, places: [fields]place{lba: {2, 64}, length: {10, 32}}},
	{op: ReportLuns, places: [fields]place{page: {2, 8}, length: {6, 32}}},
	{op: Ports, places: [fields]place{service: {1, 5}, length: {6, 32}}},
}

// sizes is how many bytes a command has, by the upper three bits of its operation.
var sizes = [...]uint8{0: 6, 1: 10, 2: 10, 4: 16, 5: 12}

// find is the row of an operation, if there is one.
func find(op int) (row, bool) {
	for _, r := range commands {
		if int(r.op) == op {
			return r, true
		}
	}
	return row{}, false
}

// values is what the fields of a command say. One below 0 is above 2^63 here: it goes into no place but one of 64 bits, and only Lba, which is never below 0, has one.
func (c Cdb) values() [fields]uint64 {
	v := [fields]uint64{
		service: uint64(c.Service),
		page:    uint64(c.Page),
		kind:    uint64(c.Type),
		lba:     c.Lba,
		length:  uint64(c.Len),
	}
	if c.Vital {
		v[vital] = 1
	}
	return v
}

// command is the command of that operation whose fields say v.
func (r row) command(v [fields]uint64) Cdb {
	return Cdb{
		Op:      int(r.op),
		Service: int(v[service]),
		Page:    int(v[page]),
		Vital:   v[vital] == 1,
		Type:    int(v[kind]),
		Lba:     v[lba],
		Len:     int(v[length]),
	}
}

// read is what the fields say in a command's sixteen bytes.
func (r row) read(b []byte) [fields]uint64 {
	var v [fields]uint64
	for i, p := range r.places {
		if p.isThere() {
			n, _ := field.Get(b, int(p.at), p.size()) // each place of the table is within the bytes
			v[i] = n & p.ones()
		}
	}
	return v
}

// write is a command's sixteen bytes; each field that is there must go into its place.
func (r row) write(v [fields]uint64) []byte {
	b := make([]byte, whole)
	b[0] = r.op
	for i, p := range r.places {
		if p.isThere() {
			b, _ = field.Put(b, int(p.at), p.size(), v[i]) // no error: see above
		}
	}
	return b
}

func (p place) isThere() bool { return p.bits > 0 }

func (p place) size() int { return (int(p.bits) + 7) / 8 }

// ones has all bits of the place: of 64 bits the 1 is shifted out, and 0 less 1 has them all.
func (p place) ones() uint64 { return 1<<p.bits - 1 }

func (p place) takes(n uint64) bool { return n <= p.ones() }
