package chunk_test

import (
	"bytes"
	"math"
	"slices"
	"sync"
	"sync/atomic"
	"testing"

	"caisson/api"
	"caisson/chunk"
)

func missing(r *chunk.Reader) []int { return slices.Collect(r.Missing()) }

// view is all that a Reader tells.
type view struct {
	id, added int64
	count     int
	missing   []int
	whole     string
	ok        bool
}

func viewOf(r *chunk.Reader) view {
	b, ok := r.Whole()
	return view{r.Id(), r.Added(), r.Count(), missing(r), string(b), ok}
}

func (a view) same(b view) bool {
	return a.id == b.id && a.added == b.added && a.count == b.count && slices.Equal(a.missing, b.missing) && a.whole == b.whole && a.ok == b.ok
}

func shows(t *testing.T, r *chunk.Reader, want view) {
	t.Helper()
	if v := viewOf(r); !v.same(want) {
		t.Fatalf("%#v, not %#v", v, want)
	}
}

// refuses adds p, which is refused and changes nothing.
func refuses(t *testing.T, r *chunk.Reader, p []byte, want api.Errno) {
	t.Helper()
	before := viewOf(r)
	if e := r.Add(p); e != want {
		t.Errorf("Add of % x..: %v, not %v", p[:min(18, len(p))], e, want)
	}
	shows(t, r, before)
}

// P7.2: the chapter's example, and what a Reader tells as pieces come.
func TestReader(t *testing.T) {
	l := split(t, 1, []byte("abcde"), 2)
	r := chunk.New()
	shows(t, r, view{})
	ok(t, r.Add(l[2]))
	shows(t, r, view{id: 1, added: 1, count: 3, missing: []int{0, 1}})
	ok(t, r.Add(l[0]))
	shows(t, r, view{id: 1, added: 2, count: 3, missing: []int{1}})
	ok(t, r.Add(l[0])) // it was there already
	shows(t, r, view{id: 1, added: 3, count: 3, missing: []int{1}})
	ok(t, r.Add(l[1]))
	shows(t, r, view{id: 1, added: 4, count: 3, whole: "abcde", ok: true})
	ok(t, r.Add(l[1]))
	shows(t, r, view{id: 1, added: 5, count: 3, whole: "abcde", ok: true})
}

// P7.2: an image of no bytes is there, and one of which nothing is there is not it.
func TestImageOfNothing(t *testing.T) {
	r := chunk.New()
	ok(t, r.Add(split(t, 9, nil, 1)[0]))
	shows(t, r, view{id: 9, added: 1, count: 1, ok: true})
}

// second is a Reader that has the second piece of "abcd", whose id is 5.
func second(t *testing.T) *chunk.Reader {
	t.Helper()
	r := chunk.New()
	ok(t, r.Add(made(5, 1, 2, sum([]byte("abcd")), []byte("d"))))
	return r
}

// P7.2: what can not be a piece of any image, and which error comes first.
func TestAddOfNoPiece(t *testing.T) {
	three, long := []byte("abc"), noise(1, 4097)
	turned := func(p []byte) []byte {
		p[len(p)-1] ^= 1
		return p
	}
	for _, c := range []struct {
		p    []byte
		want api.Errno
	}{
		{nil, api.ErrShort}, {[]byte{}, api.ErrShort}, {make([]byte, 21), api.ErrShort},
		{made(0, 0, 0, 0, three)[:24], api.ErrShort}, // ahead of an id that can not be
		{bytes.Repeat([]byte{255}, 70000), api.ErrForm},
		{append(turned(made(0, 0, 0, 0, three)), 0), api.ErrForm},
		{sealed(append(made(1, 0, 1, 0, three), 0)), api.ErrForm},
		{make([]byte, 22), api.ErrSum},
		// ahead of an id, a number, a count and a length that can not be, and of an id below
		{turned(made(0, 0, 0, 0, three)), api.ErrSum}, {turned(made(1, 1, 1, 0, three)), api.ErrSum}, {turned(made(1, 0, 257, 0, three)), api.ErrSum},
		{turned(made(1, 0, 1, 0, long)), api.ErrSum}, {turned(made(4, 0, 2, 0, three)), api.ErrSum},
		// the id
		{made(0, 0, 1, sum(three), three), api.ErrArg}, {made(-1, 0, 1, sum(three), three), api.ErrArg}, {made(math.MinInt64, 0, 1, sum(three), three), api.ErrArg},
		{made(highestId+1, 0, 1, sum(three), three), api.ErrArg}, {made(math.MaxInt64, 0, 1, sum(three), three), api.ErrArg},
		// the number
		{made(6, 1, 1, sum(three), three), api.ErrArg}, {made(6, 3, 2, sum(three), three), api.ErrArg},
		{made(6, 256, 256, sum(three), three), api.ErrArg}, {made(6, 65535, 256, sum(three), three), api.ErrArg},
		// the count
		{made(6, 0, 0, sum(three), three), api.ErrArg}, {made(6, 0, 257, sum(three), three), api.ErrArg},
		{made(6, 256, 257, sum(three), three), api.ErrArg}, {made(6, 0, 65535, sum(three), three), api.ErrArg},
		// the length
		{made(6, 0, 1, sum(long), long), api.ErrArg}, {made(6, 0, 1, 0, noise(1, 65535)), api.ErrArg},
		// ahead of an id below, and of another sum
		{made(4, 2, 2, 0, three), api.ErrArg}, {made(5, 2, 2, 0, three), api.ErrArg}, {made(5, 0, 2, 0, long), api.ErrArg},
	} {
		refuses(t, chunk.New(), c.p, c.want)
		refuses(t, second(t), c.p, c.want)
	}
}

// P7.2: what is a piece, but not of the image that is gathered.
func TestAddOfAnotherImage(t *testing.T) {
	three, whole := []byte("abc"), sum([]byte("abcd"))
	for _, c := range []struct {
		p    []byte
		want api.Errno
	}{
		{made(4, 0, 2, whole, three), api.ErrState}, {made(1, 0, 2, whole, three), api.ErrState},
		{made(4, 0, 3, 0, three), api.ErrState}, // ahead of another count and another sum
		{made(5, 0, 3, whole, three), api.ErrForm}, {made(5, 0, 1, whole, three), api.ErrForm}, {made(5, 2, 3, whole, three), api.ErrForm}, {made(5, 255, 256, whole, three), api.ErrForm},
		{made(5, 0, 2, whole^1, three), api.ErrForm}, {made(5, 0, 2, 0, three), api.ErrForm},
		{made(5, 1, 3, whole, []byte("d")), api.ErrForm}, {made(5, 1, 2, 0, []byte("d")), api.ErrForm}, // though the piece is there
	} {
		r := second(t)
		refuses(t, r, c.p, c.want)
		ok(t, r.Add(made(5, 0, 2, whole, three)))
		refuses(t, r, c.p, c.want)
		shows(t, r, view{id: 5, added: 2, count: 2, whole: "abcd", ok: true})
	}
}

// P7.2: the greatest and the least that a piece can be.
func TestAddAtTheEdges(t *testing.T) {
	long := noise(1, 4096)
	for _, p := range [][]byte{
		made(1, 0, 1, sum(nil), nil), made(highestId, 0, 1, sum(nil), nil),
		made(1, 255, 256, 0, nil), made(1, 0, 256, math.MaxUint32, long), made(1, 255, 256, 0, long),
	} {
		r := chunk.New()
		if e := r.Add(p); e != api.OK || r.Added() != 1 {
			t.Errorf("% x..: %v", p[:18], e)
		}
	}
}

// P7.2: of a newer image it has no piece yet, and those of the elder one come too late.
func TestNewerImage(t *testing.T) {
	old, next, last := split(t, 4, []byte("abcde"), 2), split(t, 6, []byte("vwxyz"), 1), split(t, highestId, []byte("q"), 1)
	r := chunk.New()
	for _, p := range old {
		ok(t, r.Add(p))
	}
	ok(t, r.Add(next[3]))
	shows(t, r, view{id: 6, added: 4, count: 5, missing: []int{0, 1, 2, 4}})
	for _, p := range old {
		refuses(t, r, p, api.ErrState)
	}
	for _, p := range next {
		ok(t, r.Add(p))
	}
	shows(t, r, view{id: 6, added: 9, count: 5, whole: "vwxyz", ok: true})
	ok(t, r.Add(last[0]))
	shows(t, r, view{id: highestId, added: 10, count: 1, whole: "q", ok: true})
	refuses(t, r, next[0], api.ErrState)
}

// P7.2: what the first piece of an id said is what counts, not what a refused one did, and not what one of an elder image did.
func TestFirstPieceSaysIt(t *testing.T) {
	image := []byte("abcd")
	r := chunk.New()
	ok(t, r.Add(made(3, 0, 4, 1, nil)))
	ok(t, r.Add(made(5, 0, 2, sum(image), image[:3])))
	refuses(t, r, made(5, 1, 4, 1, image[3:]), api.ErrForm)
	refuses(t, r, made(5, 1, 4, 1, image[3:]), api.ErrForm)
	ok(t, r.Add(made(5, 1, 2, sum(image), image[3:])))
	shows(t, r, view{id: 5, added: 3, count: 2, whole: "abcd", ok: true})
}

// P7.2: a piece that was there already stays as it was, though another one has its number and other bytes.
func TestPieceStays(t *testing.T) {
	image := []byte("abcd")
	r := chunk.New()
	for _, data := range []string{"ab", "AB", "", "abcdefgh"} {
		ok(t, r.Add(made(5, 0, 2, sum(image), []byte(data))))
	}
	ok(t, r.Add(made(5, 1, 2, sum(image), []byte("cd"))))
	shows(t, r, view{id: 5, added: 5, count: 2, whole: "abcd", ok: true})

	r = chunk.New() // and one of no bytes is there, too
	ok(t, r.Add(made(5, 0, 2, sum(image), nil)))
	ok(t, r.Add(made(5, 0, 2, sum(image), image)))
	shows(t, r, view{id: 5, added: 2, count: 2, missing: []int{1}})
	ok(t, r.Add(made(5, 1, 2, sum(image), image)))
	shows(t, r, view{id: 5, added: 3, count: 2, whole: "abcd", ok: true})
}

// P7.2: pieces that make another image than was told.
func TestNotItsSum(t *testing.T) {
	r := chunk.New()
	ok(t, r.Add(made(5, 0, 2, sum([]byte("abcd")), []byte("ab"))))
	ok(t, r.Add(made(5, 1, 2, sum([]byte("abcd")), []byte("ce"))))
	shows(t, r, view{id: 5, added: 2, count: 2})
	r = chunk.New()
	ok(t, r.Add(made(5, 0, 1, 1, nil)))
	shows(t, r, view{id: 5, added: 1, count: 1})
}

// add adds an image in pieces of these lengths, in the order of their numbers.
func add(t *testing.T, r *chunk.Reader, id int64, image []byte, lengths []int) {
	t.Helper()
	from := 0
	for i, n := range lengths {
		ok(t, r.Add(made(id, i, len(lengths), sum(image), image[from:from+n])))
		from += n
	}
}

// P7.2: pieces that together have as many bytes as an image may, or more; they need not be of one size.
func TestTooManyBytes(t *testing.T) {
	image := noise(1, 65537)
	lengths := slices.Repeat([]int{4096}, 16)
	r := chunk.New()
	add(t, r, 1, image[:65536], lengths)
	if b, ok := r.Whole(); !ok || !bytes.Equal(b, image[:65536]) {
		t.Error("65536 bytes", len(b), ok)
	}
	add(t, r, 2, image, append(slices.Clone(lengths), 1))
	shows(t, r, view{id: 2, added: 33, count: 17})
	add(t, r, 3, image, append([]int{1}, lengths...))
	shows(t, r, view{id: 3, added: 50, count: 17})
	add(t, r, 4, noise(2, 1<<20), slices.Repeat([]int{4096}, 256))
	shows(t, r, view{id: 4, added: 306, count: 256})
	ok(t, r.Add(made(4, 9, 256, sum(noise(2, 1<<20)), nil)))
	shows(t, r, view{id: 4, added: 307, count: 256})
	add(t, r, 5, image[:4100], []int{0, 3, 4096, 0, 1}) // the elder ones' bytes do not count
	shows(t, r, view{id: 5, added: 312, count: 5, whole: string(image[:4100]), ok: true})
}

// P7.2: too many bytes are no image, also if they are told to have the sum of none.
func TestTooManyBytesWithoutASum(t *testing.T) {
	r := chunk.New()
	for i := range 17 {
		ok(t, r.Add(made(1, i, 17, 0, noise(1, 4096))))
	}
	shows(t, r, view{id: 1, added: 17, count: 17})
	if b, e := chunk.Join([][]byte{made(1, 0, 1, 0, []byte("a"))}); len(b) != 0 || e != api.ErrShort {
		t.Error("Join", b, e)
	}
}

// P7.2: which pieces are missing is told also while there are too many bytes.
func TestMissingOfTooMany(t *testing.T) {
	r := chunk.New()
	data := noise(1, 4096)
	for i := range 30 {
		ok(t, r.Add(made(1, 2*i, 60, 0, data)))
		if l := missing(r); len(l) != 59-i || slices.Contains(l, 2*i) {
			t.Fatal("Missing", l)
		}
	}
}

// P7.2: a piece that comes again and again does not add to the bytes.
func TestTwiceIsNotLonger(t *testing.T) {
	image := noise(1, 8192)
	l := split(t, 1, image, 4096)
	r := chunk.New()
	for range 40 {
		ok(t, r.Add(l[0]))
	}
	ok(t, r.Add(l[1]))
	shows(t, r, view{id: 1, added: 41, count: 2, whole: string(image), ok: true})
}

// P7.2: Missing is as it was when it was called, also if it is gone through twice, or left.
func TestMissingIsOfItsCall(t *testing.T) {
	l := split(t, 1, []byte("abcdefg"), 2)
	r := chunk.New()
	none := r.Missing()
	ok(t, r.Add(l[1]))
	three := r.Missing()
	var seen []int
	for k := range three {
		seen = append(seen, k)
		ok(t, r.Add(l[3])) // what comes meanwhile is not seen
	}
	if !slices.Equal(seen, []int{0, 2, 3}) {
		t.Error("Missing", seen)
	}
	ok(t, r.Add(split(t, 2, nil, 1)[0]))
	for range 2 {
		if got := slices.Collect(three); !slices.Equal(got, []int{0, 2, 3}) || len(slices.Collect(none)) != 0 {
			t.Error("Missing, again", got)
		}
	}
	for k := range three {
		if k != 0 {
			t.Error("behind a break", k)
		}
		break
	}
}

// P7.2: what is handed in is not kept, and what is answered is new memory.
func TestReaderSharesNothing(t *testing.T) {
	l := split(t, 1, []byte("abcde"), 3)
	r := chunk.New()
	for _, p := range l {
		before := slices.Clone(p)
		ok(t, r.Add(p))
		if !bytes.Equal(p, before) {
			t.Error("a piece has changed")
		}
		clear(p)
	}
	for range 3 {
		b, ok := r.Whole()
		if !ok || string(b) != "abcde" {
			t.Fatal("Whole", string(b), ok)
		}
		clear(b)
		_ = append(b, 'x')
	}
}

// P7.2: once it is closed it takes no piece, whatever it is, and tells what it has.
func TestClose(t *testing.T) {
	l := split(t, 5, []byte("abc"), 2)
	r := chunk.New()
	ok(t, r.Add(l[0]))
	if !r.Close() {
		t.Error("the first Close")
	}
	for _, p := range [][]byte{l[0], l[1], nil, {1}, made(0, 0, 0, 0, nil), made(6, 0, 1, 0, nil), append(slices.Clone(l[1]), 0)} {
		refuses(t, r, p, api.ErrState)
		if r.Close() {
			t.Error("a later Close")
		}
	}
	shows(t, r, view{id: 5, added: 1, count: 2, missing: []int{1}})
	r = chunk.New()
	ok(t, r.Add(l[0]))
	ok(t, r.Add(l[1]))
	r.Close()
	shows(t, r, view{id: 5, added: 2, count: 2, whole: "abc", ok: true})
	if r := chunk.New(); !r.Close() || r.Close() || r.Add(l[0]) != api.ErrState {
		t.Error("Close of one that gathers nothing")
	}
}

// P7.2, P1: of nil.
func TestNilReader(t *testing.T) {
	var r *chunk.Reader
	for _, p := range [][]byte{nil, {1}, split(t, 1, nil, 1)[0]} {
		if e := r.Add(p); e != api.ErrNil {
			t.Error("Add", e)
		}
	}
	shows(t, r, view{})
	if r.Close() || r.Close() {
		t.Error("Close")
	}
}

// P7.2: others may ask how many were added, at any time.
func TestAddedByOthers(t *testing.T) {
	l := split(t, 1, noise(1, 256), 1)
	r := chunk.New()
	var others sync.WaitGroup
	var done atomic.Bool
	for range 4 {
		others.Go(func() {
			for last := int64(0); !done.Load(); {
				n := r.Added()
				if n < last || n > 512 {
					t.Error("Added", n, "behind", last)
					return
				}
				last = n
			}
		})
	}
	for i := range 512 {
		if e := r.Add(l[i%256]); e != api.OK || r.Added() != int64(i+1) {
			t.Error("Add", e, r.Added())
		}
	}
	done.Store(true)
	others.Wait()
}
