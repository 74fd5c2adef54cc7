// Package queue is layer 1: see shared/doc/01-queue.md.
package queue

import "tollhouse/api"

// Queue is bytes, in order.
type Queue struct {
	made  bool   // the ring cannot tell: that of a queue whose most is 0 is empty, too
	ring  []byte // as long as the most, from the beginning on: room that is promised is there
	first int    // where in the ring the first byte stands
	count int
}

// New: P1.1.
func New(most int) (*Queue, api.Errno) {
	if most < 0 || most > api.MaxQueue {
		return nil, api.ErrArg
	}
	return &Queue{made: true, ring: make([]byte, most)}, api.OK
}

// Push: P1.2.
func (q *Queue) Push(b []byte) api.Errno {
	if q.none() {
		return api.ErrNil
	}
	if len(b) > q.Room() {
		return api.ErrFull
	}
	near, far := q.places(q.after(q.count), len(b))
	copy(far, b[copy(near, b):])
	q.count += len(b)
	return api.OK
}

// Take: P1.3.
func (q *Queue) Take(n int) ([]byte, api.Errno) {
	if q.none() {
		return nil, api.ErrNil
	}
	if n < 0 {
		return nil, api.ErrArg
	}
	if n > q.count {
		return nil, api.ErrShort
	}
	b := q.front(n)
	q.first = q.after(n)
	q.count -= n
	return b, api.OK
}

// Bytes: P1.1.
func (q *Queue) Bytes() []byte {
	if q.none() {
		return nil
	}
	return q.front(q.count)
}

// Len: P1.1.
func (q *Queue) Len() int {
	if q.none() {
		return 0
	}
	return q.count
}

// Room: P1.1.
func (q *Queue) Room() int {
	if q.none() {
		return 0
	}
	return len(q.ring) - q.count
}

// Copy: P1.1.
func (q *Queue) Copy() *Queue {
	if q.none() {
		return nil
	}
	c := &Queue{made: true, ring: make([]byte, len(q.ring)), count: q.count}
	q.lay(c.ring[:q.count:q.count])
	return c
}

func (q *Queue) none() bool { return q == nil || !q.made }

// after is the place n bytes behind the first; n is at most the ring's length, so one turn back is enough.
func (q *Queue) after(n int) int {
	at := q.first + n
	if at >= len(q.ring) {
		at -= len(q.ring)
	}
	return at
}

// places are the ring's n places from at on, in two pieces: up to the ring's end, and round from its beginning.
// Each ends where its room does, so that nothing laid down there runs on into bytes that wait.
func (q *Queue) places(at, n int) (near, far []byte) {
	end := min(at+n, len(q.ring))
	rest := n - (end - at)
	return q.ring[at:end:end], q.ring[:rest:rest]
}

// front is the first n bytes, in memory of their own.
func (q *Queue) front(n int) []byte {
	b := make([]byte, n)
	q.lay(b)
	return b
}

// lay copies to b as many of the first bytes as it is long.
func (q *Queue) lay(b []byte) {
	near, far := q.places(q.first, len(b))
	copy(b[copy(b, near):], far)
}
