package world

import (
	"slices"

	"caisson/api"
)

// Letter is bytes on their way.
type Letter struct {
	From int
	To   int
	Data []byte
}

// Send lets a letter of the bytes b be on its way, the last one.
func (w *World) Send(from, to int, b []byte) api.Errno {
	if w == nil {
		return api.ErrNil
	}
	if w.closed {
		return api.ErrState
	}
	if !w.has(from) || !w.has(to) {
		return api.ErrArg
	}
	if len(b) > api.MaxBytes {
		return api.ErrSize
	}
	return w.post(Letter{From: from, To: to, Data: slices.Clone(b)})
}

// Len is how many letters are on their way.
func (w *World) Len() int {
	if w == nil {
		return 0
	}
	return len(w.flight)
}

// Look is the letter number k.
func (w *World) Look(k int) (Letter, api.Errno) {
	if e := w.letterError(k); e != api.OK {
		return Letter{}, e
	}
	return w.flight[k].clone(), api.OK
}

// Take lets the letter number k come, if its machines are not cut off from each other; it is on its way no more.
func (w *World) Take(k int) (Letter, api.Errno) {
	l, e := w.Look(k)
	if e != api.OK {
		return Letter{}, e
	}
	if w.Apart(l.From, l.To) {
		w.lose(k)
		return Letter{}, api.ErrState
	}
	w.remove(k)
	w.taken.Add(1)
	return l, api.OK
}

// Drop loses the letter number k.
func (w *World) Drop(k int) api.Errno {
	if e := w.letterError(k); e != api.OK {
		return e
	}
	w.lose(k)
	return api.OK
}

// Double lets the letter number k be on its way once more, as the last one.
func (w *World) Double(k int) api.Errno {
	if e := w.letterError(k); e != api.OK {
		return e
	}
	return w.post(w.flight[k])
}

func (w *World) letterError(k int) api.Errno {
	if w == nil {
		return api.ErrNil
	}
	if k < 0 || k >= len(w.flight) {
		return api.ErrArg
	}
	return api.OK
}

func (w *World) post(l Letter) api.Errno {
	if len(w.flight) >= api.MaxFlight {
		return api.ErrFull
	}
	w.flight = append(w.flight, l)
	return api.OK
}

func (w *World) lose(k int) {
	w.remove(k)
	w.lost.Add(1)
}

func (w *World) remove(k int) { w.flight = slices.Delete(w.flight, k, k+1) }

func (l Letter) clone() Letter {
	l.Data = slices.Clone(l.Data)
	return l
}
