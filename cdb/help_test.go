package cdb_test

import (
	"math"
	"math/rand"
	"slices"
	"testing"

	"caisson/api"
	"caisson/cdb"
)

// pictures has the table of the document: sixteen bytes of each operation. O is the operation, 0 is 0, v the lowest bit (Vital), s the lowest five bits (Service), t the lowest four (Type), P Page, A Lba, L Len.
var pictures = map[int]string{
	0x00: "O000000000000000",
	0x03: "O000L00000000000",
	0x12: "OvPLL00000000000",
	0x25: "O000000000000000",
	0x28: "O0AAAA0LL0000000",
	0x2a: "O0AAAA0LL0000000",
	0x35: "O0AAAA0LL0000000",
	0x42: "O000000LL0000000",
	0x5e: "Os00000LL0000000",
	0x5f: "Ost00LLLL0000000",
	0x88: "O0AAAAAAAALLLL00",
	0x8a: "O0AAAAAAAALLLL00",
	0xa0: "O0P000LLLL000000",
	0xa3: "Os0000LLLL000000",
}

// letters are those of a picture's fields.
const letters = "svtPAL"

// masks is which bits of a byte a letter names.
var masks = map[byte]byte{'0': 0, 'O': 0xff, 'v': 1, 's': 0x1f, 't': 0x0f, 'P': 0xff, 'A': 0xff, 'L': 0xff}

// operations are those of the table, rising.
func operations() []int {
	var l []int
	for op := range 256 {
		if pictures[op] != "" {
			l = append(l, op)
		}
	}
	return l
}

// bits is how many bits an operation has of a field.
func bits(op int, letter byte) int {
	n := 0
	for i := range len(pictures[op]) {
		for m := masks[letter]; pictures[op][i] == letter && m > 0; m >>= 1 {
			n++
		}
	}
	return n
}

// set is c with a field that says n.
func set(c cdb.Cdb, letter byte, n uint64) cdb.Cdb {
	switch letter {
	case 's':
		c.Service = int(n)
	case 'v':
		c.Vital = n != 0
	case 't':
		c.Type = int(n)
	case 'P':
		c.Page = int(n)
	case 'A':
		c.Lba = n
	case 'L':
		c.Len = int(n)
	}
	return c
}

// get is what a field of c says, and whether that is below 0.
func get(c cdb.Cdb, letter byte) (uint64, bool) {
	switch letter {
	case 's':
		return uint64(c.Service), c.Service < 0
	case 't':
		return uint64(c.Type), c.Type < 0
	case 'P':
		return uint64(c.Page), c.Page < 0
	case 'A':
		return c.Lba, false
	case 'L':
		return uint64(c.Len), c.Len < 0
	}
	if c.Vital {
		return 1, false
	}
	return 0, false
}

// parse is Parse by the pictures.
func parse(b []byte) (cdb.Cdb, api.Errno) {
	if len(b) != 16 {
		return cdb.Cdb{}, api.ErrSize
	}
	picture := pictures[int(b[0])]
	if picture == "" {
		return cdb.Cdb{}, api.ErrArg
	}
	says := map[byte]uint64{}
	for i := range 16 {
		if b[i]&^masks[picture[i]] != 0 {
			return cdb.Cdb{}, api.ErrForm
		}
		says[picture[i]] = says[picture[i]]<<8 | uint64(b[i])
	}
	c := cdb.Cdb{Op: int(b[0])}
	for i := range len(letters) {
		c = set(c, letters[i], says[letters[i]])
	}
	return c, api.OK
}

// build is Build by the pictures.
func build(c cdb.Cdb) ([]byte, api.Errno) {
	picture := pictures[c.Op]
	if picture == "" {
		return nil, api.ErrArg
	}
	size, form := false, false
	left := map[byte]uint64{}
	for i := range len(letters) {
		n, below := get(c, letters[i])
		left[letters[i]] = n
		if has := bits(c.Op, letters[i]); has == 0 {
			form = form || n != 0
		} else if below || has < 64 && n >= 1<<has {
			size = true
		}
	}
	switch {
	case size:
		return nil, api.ErrSize
	case form:
		return nil, api.ErrForm
	}
	b := make([]byte, 16)
	for i := 15; i > 0; i-- {
		if letter := picture[i]; letter != '0' {
			b[i] = byte(left[letter])
			left[letter] >>= 8
		}
	}
	b[0] = byte(c.Op)
	return b, api.OK
}

// anyCdb is a command of that operation that can be.
func anyCdb(rnd *rand.Rand, op int) cdb.Cdb {
	c := cdb.Cdb{Op: op}
	for i := range len(letters) {
		n := rnd.Uint64()
		if has := bits(op, letters[i]); has < 64 {
			n &= 1<<has - 1
		}
		c = set(c, letters[i], n)
	}
	return c
}

// sameParse holds Parse of b against the pictures.
func sameParse(t *testing.T, b []byte) (cdb.Cdb, api.Errno) {
	t.Helper()
	was := slices.Clone(b)
	got, e := cdb.Parse(b)
	want, wantE := parse(b)
	if e != wantE || got != want {
		t.Fatalf("Parse of % x: %+v %v, not %+v %v", b, got, e, want, wantE)
	}
	if !slices.Equal(b, was) {
		t.Fatalf("Parse has changed % x", was)
	}
	return got, e
}

// sameBuild holds Build of c against the pictures.
func sameBuild(t *testing.T, c cdb.Cdb) ([]byte, api.Errno) {
	t.Helper()
	got, e := cdb.Build(c)
	want, wantE := build(c)
	if e != wantE || !slices.Equal(got, want) || e != api.OK && got != nil {
		t.Fatalf("Build of %+v: % x %v, not % x %v", c, got, e, want, wantE)
	}
	return got, e
}

// wrongOps are numbers of no operation, those among them whose lowest byte is one.
func wrongOps() []int {
	l := []int{math.MinInt, math.MinInt + 0x28, math.MaxInt, 1 << 32, 1<<32 + 0x28, 1<<40 + 0x88, -1<<32 + 0x2a}
	for op := -1024; op < 2048; op++ {
		if pictures[op] == "" {
			l = append(l, op)
		}
	}
	return l
}
