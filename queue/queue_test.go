package queue

import (
	"bytes"
	"math"
	"testing"

	"tollhouse/api"
)

func made(t *testing.T, most int) *Queue {
	t.Helper()
	q, e := New(most)
	if e != api.OK || q == nil {
		t.Fatalf("New(%d): %v, %v", most, q, e)
	}
	return q
}

func pushed(t *testing.T, most int, s string) *Queue {
	t.Helper()
	q := made(t, most)
	if e := q.Push([]byte(s)); e != api.OK {
		t.Fatalf("Push(%q) with most %d: %v", s, most, e)
	}
	return q
}

// turned is a queue that has s, whose first byte stands at the ring's place by.
func turned(t *testing.T, most, by int, s string) *Queue {
	t.Helper()
	q := made(t, most)
	if e := q.Push(make([]byte, by)); e != api.OK {
		t.Fatal(e)
	}
	if _, e := q.Take(by); e != api.OK {
		t.Fatal(e)
	}
	if e := q.Push([]byte(s)); e != api.OK {
		t.Fatal(e)
	}
	return q
}

// holds checks all that a queue tells of itself, and that telling it changes nothing.
func holds(t *testing.T, q *Queue, most int, want string) {
	t.Helper()
	for range 2 {
		if got := string(q.Bytes()); got != want {
			t.Fatalf("Bytes: %q, want %q", got, want)
		}
		if q.Len() != len(want) || q.Room() != most-len(want) {
			t.Fatalf("Len %d, Room %d; want %d, %d", q.Len(), q.Room(), len(want), most-len(want))
		}
	}
}

func takes(t *testing.T, q *Queue, n int, want string) {
	t.Helper()
	if b, e := q.Take(n); e != api.OK || string(b) != want {
		t.Fatalf("Take(%d): %q, %v; want %q", n, b, e, want)
	}
}

// TestExamples: the rows of the chapter's section Examples.
func TestExamples(t *testing.T) {
	q := made(t, 4)
	for _, x := range []struct {
		b    string
		want api.Errno
	}{{"abc", api.OK}, {"de", api.ErrFull}, {"d", api.OK}} {
		if e := q.Push([]byte(x.b)); e != x.want {
			t.Errorf("Push(%q): %v, want %v", x.b, e, x.want)
		}
	}
	holds(t, q, 4, "abcd")
	takes(t, q, 2, "ab")
	if e := q.Push([]byte("ef")); e != api.OK {
		t.Error(e)
	}
	holds(t, q, 4, "cdef")
	if b, e := q.Take(5); e != api.ErrShort || len(b) != 0 {
		t.Error(b, e)
	}
	if b, e := q.Take(-1); e != api.ErrArg || len(b) != 0 {
		t.Error(b, e)
	}
	if q, e := New(16385); e != api.ErrArg || q != nil {
		t.Error(q, e)
	}
}

// TestNew: P1.1, how many there may be.
func TestNew(t *testing.T) {
	for _, most := range []int{0, 1, 2, 100, 16383, 16384} {
		holds(t, made(t, most), most, "")
	}
	for _, most := range []int{-1, -16384, math.MinInt, 16385, 1 << 20, math.MaxInt} {
		if q, e := New(most); e != api.ErrArg || q != nil {
			t.Errorf("New(%d): %v, %v; want nil, ErrArg", most, q, e)
		}
	}
}

// TestMostNone: P1.1 to P1.3, a queue that may have nothing is a queue all the same.
func TestMostNone(t *testing.T) {
	q := made(t, 0)
	for _, q := range []*Queue{q, q.Copy()} {
		if q == nil {
			t.Fatal("Copy: nil")
		}
		if a, b := q.Push(nil), q.Push([]byte{}); a != api.OK || b != api.OK {
			t.Error(a, b)
		}
		if e := q.Push([]byte("a")); e != api.ErrFull {
			t.Error(e)
		}
		takes(t, q, 0, "")
		if b, e := q.Take(1); e != api.ErrShort || len(b) != 0 {
			t.Error(b, e)
		}
		if b, e := q.Take(-1); e != api.ErrArg || len(b) != 0 {
			t.Error(b, e)
		}
		holds(t, q, 0, "")
	}
}

// TestMostAll: P1.1 to P1.4 at MaxQueue, with every byte that there is, round the ring's end.
func TestMostAll(t *testing.T) {
	all := make([]byte, api.MaxQueue)
	for i := range all {
		all[i] = byte(i*7 + i>>8)
	}
	q := made(t, api.MaxQueue)
	if e := q.Push(append(bytes.Clone(all), 1)); e != api.ErrFull {
		t.Fatal(e)
	}
	holds(t, q, api.MaxQueue, "")
	if e := q.Push(all); e != api.OK {
		t.Fatal(e)
	}
	holds(t, q, api.MaxQueue, string(all))
	takes(t, q, 10001, string(all[:10001]))
	if e := q.Push(all[:10001]); e != api.OK {
		t.Fatal(e)
	}
	if e := q.Push([]byte{1}); e != api.ErrFull {
		t.Fatal(e)
	}
	want := string(all[10001:]) + string(all[:10001])
	holds(t, q, api.MaxQueue, want)
	takes(t, q, api.MaxQueue, want)
	holds(t, q, api.MaxQueue, "")
}

// TestNone: P1.1 to P1.3, every call on no queue and on one that New did not make.
func TestNone(t *testing.T) {
	var zero Queue
	for name, q := range map[string]*Queue{"nil": nil, "zero": &zero, "new": new(Queue), "literal": {}} {
		for _, b := range [][]byte{nil, {}, []byte("a"), make([]byte, api.MaxQueue+1)} {
			if e := q.Push(b); e != api.ErrNil {
				t.Errorf("%s: Push of %d bytes: %v", name, len(b), e)
			}
		}
		for _, n := range []int{math.MinInt, -1, 0, 1, math.MaxInt} {
			if b, e := q.Take(n); e != api.ErrNil || len(b) != 0 {
				t.Errorf("%s: Take(%d): %q, %v", name, n, b, e)
			}
		}
		if b, l, r, c := q.Bytes(), q.Len(), q.Room(), q.Copy(); len(b) != 0 || l != 0 || r != 0 || c != nil {
			t.Errorf("%s: %q, %d, %d, %v", name, b, l, r, c)
		}
	}
}

// TestPush: P1.2 at each place of the ring: just as many bytes as there is room for, one more, one less, none.
func TestPush(t *testing.T) {
	for most := 1; most <= 5; most++ {
		for by := range most {
			for had := 0; had <= most; had++ {
				s, more := "abcde"[:had], "uvwxyz"
				room := most - had
				for n := 0; n <= room; n++ {
					q := turned(t, most, by, s)
					if e := q.Push([]byte(more[:n])); e != api.OK {
						t.Fatalf("most %d, at %d, has %d: Push of %d: %v", most, by, had, n, e)
					}
					holds(t, q, most, s+more[:n])
				}
				q := turned(t, most, by, s)
				if e := q.Push([]byte(more[:room+1])); e != api.ErrFull {
					t.Fatalf("most %d, at %d, has %d: Push of %d: %v", most, by, had, room+1, e)
				}
				holds(t, q, most, s)
			}
		}
	}
}

// TestTake: P1.3 at each place of the ring: none, some, all, one more, fewer than none.
func TestTake(t *testing.T) {
	for most := 1; most <= 5; most++ {
		for by := range most {
			for had := 0; had <= most; had++ {
				s := "abcde"[:had]
				for n := 0; n <= had; n++ {
					q := turned(t, most, by, s)
					takes(t, q, n, s[:n])
					holds(t, q, most, s[n:])
				}
				q := turned(t, most, by, s)
				for n, want := range map[int]api.Errno{
					-1: api.ErrArg, math.MinInt: api.ErrArg, had + 1: api.ErrShort, most + 1: api.ErrShort, math.MaxInt: api.ErrShort,
				} {
					if b, e := q.Take(n); e != want || len(b) != 0 {
						t.Fatalf("most %d, has %d: Take(%d): %q, %v; want %v", most, had, n, b, e, want)
					}
					holds(t, q, most, s)
				}
			}
		}
	}
}

// TestCopy: P1.1, a copy has the same, with the same room, and lives apart, at each place of the ring.
func TestCopy(t *testing.T) {
	for by := range 4 {
		q := turned(t, 4, by, "abc")
		c := q.Copy()
		if c == nil || c == q {
			t.Fatal("Copy:", c)
		}
		holds(t, c, 4, "abc")
		takes(t, q, 2, "ab")
		if e := q.Push([]byte("xyz")); e != api.OK {
			t.Fatal(e)
		}
		holds(t, c, 4, "abc")
		if e := c.Push([]byte("de")); e != api.ErrFull {
			t.Fatal(e)
		}
		takes(t, c, 1, "a")
		if e := c.Push([]byte("de")); e != api.OK {
			t.Fatal(e)
		}
		holds(t, c, 4, "bcde")
		holds(t, q, 4, "cxyz")
	}
}

// TestMemory: R3, what is handed in is not kept nor changed, and what is answered is new.
func TestMemory(t *testing.T) {
	in := []byte("abcdef")
	q := made(t, 6)
	if e := q.Push(in); e != api.OK {
		t.Fatal(e)
	}
	if string(in) != "abcdef" {
		t.Errorf("Push changed its bytes: %q", in)
	}
	clear(in)
	holds(t, q, 6, "abcdef")

	told := q.Bytes()
	clear(told)
	_ = append(told[:1], "!!!"...)
	holds(t, q, 6, "abcdef")

	taken, _ := q.Take(2)
	clear(taken)
	_ = append(taken, "!!!"...)
	holds(t, q, 6, "cdef")

	taken, _ = q.Take(2)
	if e := q.Push([]byte("ghij")); e != api.OK {
		t.Fatal(e)
	}
	if string(taken) != "cd" {
		t.Errorf("what was taken changed: %q", taken)
	}
	holds(t, q, 6, "efghij")
}

// TestBeyond: R3, of what is handed in just its length is read, and what lies behind it is let be.
func TestBeyond(t *testing.T) {
	in := []byte("abcdef")
	q := pushed(t, 4, "")
	if e := q.Push(in[:2]); e != api.OK {
		t.Fatal(e)
	}
	holds(t, q, 4, "ab")
	if string(in) != "abcdef" {
		t.Errorf("%q", in)
	}
}

// rowStep checks one step of a row against a plain list, and answers the list behind it.
func rowStep(t *testing.T, q *Queue, list []byte, most, step int, next *byte) []byte {
	t.Helper()
	n := step / 2
	if step%2 == 0 {
		b := make([]byte, n)
		for i := range b {
			b[i] = *next + byte(i)
		}
		e := q.Push(b)
		if len(list)+n > most {
			if e != api.ErrFull {
				t.Fatalf("Push of %d to %d of %d: %v", n, len(list), most, e)
			}
			return list
		}
		if e != api.OK {
			t.Fatalf("Push of %d to %d of %d: %v", n, len(list), most, e)
		}
		*next += byte(n)
		return append(list, b...)
	}
	b, e := q.Take(n)
	if n > len(list) {
		if e != api.ErrShort || len(b) != 0 {
			t.Fatalf("Take(%d) of %d: %q, %v", n, len(list), b, e)
		}
		return list
	}
	if e != api.OK || !bytes.Equal(b, list[:n]) {
		t.Fatalf("Take(%d): %q, %v; want %q", n, b, e, list[:n])
	}
	return list[n:]
}

// TestRowsShort: P1.4, all rows of five pushes and takes, refused ones among them, on small rings.
func TestRowsShort(t *testing.T) {
	const length = 5
	for most := 0; most <= 3; most++ {
		kinds := 2 * (most + 2)
		rows := 1
		for range length {
			rows *= kinds
		}
		for row := range rows {
			q, list, next := made(t, most), []byte{}, byte(1)
			for r, i := row, 0; i < length; r, i = r/kinds, i+1 {
				list = rowStep(t, q, list, most, r%kinds, &next)
				if q.Len() != len(list) || q.Room() != most-len(list) || !bytes.Equal(q.Bytes(), list) {
					t.Fatalf("most %d, row %d, step %d: %q, want %q", most, row, i, q.Bytes(), list)
				}
			}
		}
	}
}

// TestRowsLong: P1.4, long rows that go round the ring many times; what came out is what went in.
func TestRowsLong(t *testing.T) {
	for _, most := range []int{1, 2, 3, 7, 8, 255, 256, 1000, api.MaxQueue} {
		q, list, next := made(t, most), []byte{}, byte(1)
		seed := uint32(most)
		for i := range 2000 {
			seed = seed*1664525 + 1013904223
			step := int(seed>>8) % (most + 2)
			list = rowStep(t, q, list, most, step*2+int(seed>>31), &next)
			if q.Len() > most || q.Len() != len(list) || !bytes.Equal(q.Bytes(), list) {
				t.Fatalf("most %d, step %d: it has %d, want %d", most, i, q.Len(), len(list))
			}
		}
	}
}

// TestSteady: P1.4, a full ring that goes on byte by byte tells each byte once, in order.
func TestSteady(t *testing.T) {
	q := pushed(t, 3, "\x00\x01\x02")
	for i := range 1000 {
		if e := q.Push([]byte{0}); e != api.ErrFull {
			t.Fatal(i, e)
		}
		takes(t, q, 1, string([]byte{byte(i)}))
		if e := q.Push([]byte{byte(i + 3)}); e != api.OK {
			t.Fatal(i, e)
		}
	}
}
