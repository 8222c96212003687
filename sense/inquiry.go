package sense

import (
	"slices"
	"strconv"

	"caisson/api"
	"caisson/field"
)

// The places of the bytes that are ahead of what a vital page has.
const (
	_ = iota
	pageAt
	lengthAt // two bytes
	_
	vitalSize
)

const lengthSize = vitalSize - lengthAt

// The vendor, the product and its revision, each with blanks up to its size.
const names = "caisson " + "block unit      " + "0001"

const (
	serialName = "caisson-"
	serialSize = 11 // of that name and three digits
)

// row is a page of an inquiry: what it has, one behind the other.
type row struct {
	vital  bool
	page   int
	head   []byte
	text   string
	serial bool
}

var pages = [...]row{
	{head: []byte{0, 0, 6, 2, 31, 16, 0, 2}, text: names},
	{vital: true, page: 0x00, head: []byte{0x00, 0x80, 0x83}},
	{vital: true, page: 0x80, serial: true},
	{vital: true, page: 0x83, head: []byte{2, 1, 0, serialSize}, serial: true},
}

// Inquiry is a page of a unit.
func Inquiry(vital bool, page, lun int) ([]byte, api.Errno) {
	if !isFrom(0, lun, mostByte) {
		return nil, api.ErrArg
	}
	for _, r := range pages {
		if r.vital == vital && r.page == page {
			return r.bytes(lun), api.OK
		}
	}
	return nil, api.ErrForm
}

func (r row) bytes(lun int) []byte {
	has := append(slices.Clone(r.head), r.text...)
	if r.serial {
		has = append(has, serial(lun)...)
	}
	if !r.vital {
		return has
	}
	b := make([]byte, vitalSize)
	b[pageAt] = byte(r.page)
	b, _ = field.Put(b, lengthAt, lengthSize, uint64(len(has))) // no page of the table is too long
	return append(b, has...)
}

// serial is a unit's serial number. The 1 ahead of the digits makes them three, and is cut off.
func serial(lun int) string { return serialName + strconv.Itoa(1000 + lun)[1:] }
