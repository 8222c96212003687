package node

import (
	"slices"

	"caisson/api"
	"caisson/entries"
	"caisson/field"
	"caisson/wal"
)

// The journal's size. A segment has room for seven entries of the greatest command, and a log has some forty entries at most: those since the last image, and those that are not agreed on. So six segments hold it, and from crowded on there are some that hold little.
const (
	segments       = 14
	perSegment     = 64
	journalSectors = 2 + segments*perSegment
	crowded        = 8
	portion        = 7 // entries that are moved at once
)

// The place of a record's entry. With more bytes the greatest entry would not go into a record; the bit says that the entry was moved.
const (
	placeSize = 6
	movedBit  = 1 << (8*placeSize - 1)
)

// journal is the log of a replica as records of a wal, which have an entry and its place each. A record stands in the place of all that stood there and above, so that nothing is ever cut away. But one that was moved only says again what stands at its place: those ahead of it may be dropped.
type journal struct {
	*wal.Log
	kept    *entries.Log
	numbers []int64 // of the records of the kept log's entries, place by place
}

// keep makes a log safe.
func (j *journal) keep(log *entries.Log) api.Errno {
	if log == j.kept {
		return api.OK
	}
	if e := j.tidy(); e != api.OK {
		return e
	}
	from := j.firstOther(log)
	j.numbers = j.numbersOf(log, from)
	j.kept = log
	for i, x := range log.Slice(from, api.MaxLog) {
		n, e := j.Append(recordOf(from+int64(i), x))
		if e != api.OK {
			return e
		}
		j.numbers = append(j.numbers, n)
	}
	if top, _ := log.Top(); from <= top {
		if e := j.Flush(); e != api.OK {
			return e
		}
	}
	return j.drop()
}

// firstOther is the first place at which the kept log does not have the entries of log. (Two entries of one term at one place are the same.)
func (j *journal) firstOther(log *entries.Log) int64 {
	low, _, _ := log.Floor()
	top, _ := log.Top()
	n := low + 1
	for n <= top && log.Term(n) == j.kept.Term(n) {
		n++
	}
	return n
}

// numbersOf is the numbers of the entries of log ahead of the place from, which are kept.
func (j *journal) numbersOf(log *entries.Log, from int64) []int64 {
	low, _, _ := log.Floor()
	first, _, _ := j.kept.Floor()
	if from-1 <= low {
		return nil
	}
	return slices.Clone(j.numbers[low-first : from-1-first])
}

// unneeded is up to which number no record is needed.
func (j *journal) unneeded() int64 {
	if len(j.numbers) == 0 {
		return j.Next() - 1
	}
	return slices.Min(j.numbers) - 1
}

// drop lets go of the records that are not needed.
func (j *journal) drop() api.Errno {
	if j.unneeded() <= j.Meta().Base {
		return api.OK
	}
	return j.Drop(j.unneeded())
}

// tidy moves entries behind the others, if too many segments are in use: a machine that stops again and again begins one each time, and where a flush has failed nothing may be in it.
func (j *journal) tidy() api.Errno {
	if j.Segments() < crowded {
		return api.OK
	}
	e := j.drop()
	for left := len(j.numbers); left > 0 && e == api.OK && j.Segments() >= crowded; left -= portion {
		e = j.move(min(left, portion))
	}
	return e
}

// move writes the n eldest entries anew. Those that there is no room for stay where they are.
func (j *journal) move(n int) api.Errno {
	low, _, _ := j.kept.Floor()
	for range n {
		i := slices.Index(j.numbers, slices.Min(j.numbers))
		place := low + 1 + int64(i)
		x, _ := j.kept.At(place)
		number, e := j.Append(recordOf(place|movedBit, x))
		if e == api.ErrFull {
			break
		}
		if e != api.OK {
			return e
		}
		j.numbers[i] = number
	}
	// Not till these are safe can those ahead of them be dropped.
	if e := j.Flush(); e != api.OK {
		return e
	}
	return j.drop()
}

// recordOf is the record of an entry at a place.
func recordOf(place int64, x api.Entry) []byte {
	w := field.NewWriter()
	w.Num(placeSize, place)
	b, _ := w.End()         // no place is too great
	p, _ := entries.Pack(x) // no error: it is of a log
	return append(b, p...)
}

// line is a record that was read: its number, and the entry with its place.
type line struct {
	number int64
	place  int64
	moved  bool
	entry  api.Entry
}

func readLine(number int64, b []byte) (line, bool) {
	n, e := field.Get(b, 0, placeSize)
	if e != api.OK {
		return line{}, false
	}
	place := int64(n)
	x, e := entries.Unpack(b[placeSize:])
	return line{number: number, place: place &^ movedBit, moved: place&movedBit != 0, entry: x}, e == api.OK
}

// page is the lines of a log, by their places. Where records were moved, those of lower places may come behind.
type page map[int64]line

// lay puts a line into its place; false, if it was moved, and another entry stands there.
func (p page) lay(x line) bool {
	if x.moved {
		old, there := p[x.place]
		p[x.place] = x
		return !there || old.entry.Term == x.entry.Term
	}
	for place := range p {
		if place >= x.place {
			delete(p, place)
		}
	}
	p[x.place] = x
	return true
}

// restore makes the log of an image and the records, the first of which has that number; false, if they are no machine's.
func (j *journal) restore(im image, first int64, records [][]byte) bool {
	p := page{}
	for i, b := range records {
		number := first + int64(i)
		if number <= im.behind {
			continue
		}
		if x, ok := readLine(number, b); !ok || !p.lay(x) {
			return false
		}
	}
	log, e := entries.New(im.at, im.term, im.members)
	above := 0
	for place := range p {
		if place > im.at {
			above++
		}
	}
	for place := im.at + 1; e == api.OK && place <= im.at+int64(above); place++ {
		log, e = log.With(p[place].entry) // of a gap there is none that can be
		j.numbers = append(j.numbers, p[place].number)
	}
	j.kept = log
	return e == api.OK
}
