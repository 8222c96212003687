package blocks

import (
	"bytes"
	"testing"

	"caisson/api"
	"caisson/disk"
	"caisson/extent"
	"caisson/field"
)

// headOf is a head's sector with these fields, whether or not they can be.
func headOf(a area, applied int64, there, turned []byte, behind ...byte) []byte {
	w := field.NewWriter()
	w.Num(8, applied)
	w.Bytes(1, there)
	w.Bytes(1, turned)
	for _, c := range behind {
		w.Num(1, int64(c))
	}
	body, _ := w.End()
	return a.seal(headPlace, body)
}

// P6.1, P7: sectors with the right name and the right digest, of which no store can have written one or all of them.
func TestSealedButNoStore(t *testing.T) {
	a := area{blocks: 5}
	m, _ := extent.New(5)
	m.Write(1, bytes.Repeat([]byte{7}, api.Block))
	group := func(at int) []byte { return a.groupSector(at, 0, m) }
	one, none := []byte{2}, []byte{0}
	for i, c := range []struct {
		sectors map[int][]byte
		want    api.Errno
	}{
		{stroke{0: headOf(a, 1, one, []byte{1}), 2: group(2)}, api.OK},
		{stroke{0: headOf(a, highest, one, none), 1: group(1)}, api.OK},
		{stroke{0: headOf(a, 1, none, none)}, api.OK},
		{stroke{2: group(2)}, api.OK}, // of a stroke that was not done
		{stroke{0: headOf(a, 0, none, none)}, api.ErrForm},
		{stroke{0: headOf(a, -1, none, none)}, api.ErrForm},
		{stroke{0: headOf(a, highest+1, none, none)}, api.ErrForm},
		{stroke{0: headOf(a, 1, one, none), 2: group(2)}, api.ErrForm},             // the block is not where the head says
		{stroke{0: headOf(a, 1, one, none)}, api.ErrForm},                          // nor anywhere
		{stroke{0: headOf(a, 1, none, []byte{1}), 2: group(2)}, api.ErrForm},       // bytes of a block that is not there
		{stroke{0: headOf(a, 1, none, []byte{1})}, api.ErrForm},                    // a place that no stroke has written
		{stroke{1: group(1)}, api.ErrForm},                                         // a place that the first stroke does not write
		{stroke{1: a.seal(1, nil)}, api.ErrForm},                                   // nor with none of its blocks there
		{stroke{0: headOf(a, 1, []byte{32}, none)}, api.ErrForm},                   // a block above the last
		{stroke{0: headOf(a, 1, none, []byte{4})}, api.ErrForm},                    // a group above the last
		{stroke{0: headOf(a, 1, []byte{0, 0}, none)}, api.ErrForm},                 // too many bits
		{stroke{0: headOf(a, 1, nil, none)}, api.ErrForm},                          // too few
		{stroke{0: headOf(a, 1, none, none, 1)}, api.ErrForm},                      // something behind it
		{stroke{0: area{blocks: 6}.seal(0, nil)}, api.ErrForm},                     // another store's
		{stroke{4: a.seal(4, bytes.Repeat([]byte{1}, 129))}, api.ErrForm},          // a block more than the last group has
		{stroke{2: a.seal(2, bytes.Repeat([]byte{1}, 193))}, api.ErrForm},          // a byte behind a group
		{stroke{2: group(1)}, api.ErrForm},                                         // of another place
		{stroke{2: area{blocks: 6}.groupSector(2, 0, m)}, api.ErrForm},             // of another store
		{stroke{4: a.seal(4, bytes.Repeat([]byte{1}, 128))}, api.OK},               // just the last group's
		{stroke{0: headOf(a, 1, []byte{31}, []byte{3}), 2: group(2)}, api.ErrForm}, // one group, and not the other
	} {
		d, _ := disk.New(Need(5))
		for at, b := range c.sectors {
			d.Write(at, b)
		}
		if s, e := Open(d, 0, 5); e != c.want || (s != nil) != (e == api.OK) {
			t.Errorf("case %d: %v, not %v", i, e, c.want)
		}
	}
}
