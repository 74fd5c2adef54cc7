package bucket

import (
	"math"
	"math/big"
	"math/rand"
	"slices"
	"testing"

	"tollhouse/api"
	"tollhouse/sample"
)

// end is the last time that may be.
const end = uint64(4503599627370496)

// beyond are times that may not be; above 2^53 some of them are, as floats, the same as others.
var beyond = []uint64{end + 1, end + 2, end + 1000, 2*end - 1, 2 * end, 2*end + 1, 1 << 62, math.MaxInt64, 1 << 63, math.MaxUint64 - end, math.MaxUint64 - 1, math.MaxUint64}

// numbers are rates, and bursts, that divide 1000, and that do not.
var numbers = []int{1, 2, 3, 7, 10, 250, 333, 334, 499, 500, 501, 667, 997, 999, 1000}

// model is a bucket by the chapter's words, with unbounded numbers. It has no pointers: a copy of it lives apart.
type model struct {
	rate, burst int
	level       int64
	time        uint64
}

// look is the bucket looked at, at now.
func (m model) look(now uint64) model {
	if now <= m.time {
		return m
	}
	full := big.NewInt(1000 * int64(m.burst))
	grown := new(big.Int).Sub(new(big.Int).SetUint64(now), new(big.Int).SetUint64(m.time))
	grown.Mul(grown, big.NewInt(int64(m.rate)))
	grown.Add(grown, big.NewInt(m.level))
	if grown.Cmp(full) > 0 {
		grown = full
	}
	m.level, m.time = grown.Int64(), now
	return m
}

func (m *model) take(now uint64) (bool, api.Errno) {
	if now > end {
		return false, api.ErrArg
	}
	*m = m.look(now)
	if m.level < 1000 {
		return false, api.OK
	}
	m.level -= 1000
	return true, api.OK
}

// left counts Takes, of a model that is thrown away.
func (m model) left(now uint64) int {
	for n := 0; ; n++ {
		if ok, _ := m.take(now); !ok {
			return n
		}
	}
}

// pair is a bucket with its model.
type pair struct {
	b *Bucket
	m model
}

func made(t *testing.T, rate, burst int, now uint64) *pair {
	t.Helper()
	b, e := New(rate, burst, now)
	if e != api.OK || b == nil {
		t.Fatalf("New(%d, %d, %d): %v, %v", rate, burst, now, b, e)
	}
	return &pair{b, model{rate, burst, 1000 * int64(burst), now}}
}

// takes checks that Take tells what the model tells, which it answers.
func (p *pair) takes(t *testing.T, now uint64) bool {
	t.Helper()
	ahead := p.m
	want, wrong := p.m.take(now)
	if ok, e := p.b.Take(now); ok != want || e != wrong {
		t.Fatalf("%+v, Take(%d): %v, %v; want %v, %v", ahead, now, ok, e, want, wrong)
	}
	return want
}

// leaves checks that Left tells what the model tells, and changes nothing.
func (p *pair) leaves(t *testing.T, now uint64) {
	t.Helper()
	ahead, want := *p.b, p.m.left(now)
	for range 2 {
		if n := p.b.Left(now); n != want {
			t.Fatalf("%+v, Left(%d): %d; want %d", p.m, now, n, want)
		}
	}
	if *p.b != ahead {
		t.Fatalf("%+v, Left(%d): it was %v, and is %v", p.m, now, ahead, *p.b)
	}
}

// copied is a copy, which must be the same and another one.
func (p *pair) copied(t *testing.T) *pair {
	t.Helper()
	c := p.b.Copy()
	if c == nil || c == p.b || *c != *p.b {
		t.Fatalf("%+v, Copy: %p, %v, of %p, %v", p.m, c, c, p.b, p.b)
	}
	return &pair{c, p.m}
}

// emptied is a bucket of which, at now, all tokens were taken: its level is 0.
func emptied(t *testing.T, rate, burst int, now uint64) *pair {
	t.Helper()
	p := made(t, rate, burst, now)
	for range burst {
		told(t, p, now, true)
	}
	return p
}

// told checks what Take tells, by the test's own words beside the model's.
func told(t *testing.T, p *pair, now uint64, want bool) {
	t.Helper()
	ahead := p.m
	if p.takes(t, now) != want {
		t.Fatalf("%+v, Take(%d): %v", ahead, now, !want)
	}
}

// left checks what Left tells, likewise.
func left(t *testing.T, p *pair, now uint64, want int) {
	t.Helper()
	p.leaves(t, now)
	if n := p.b.Left(now); n != want {
		t.Fatalf("%+v, Left(%d): %d; want %d", p.m, now, n, want)
	}
}

// waits is how many milliseconds it takes, from the level 0 on, to the level n.
func waits(rate, n int) uint64 { return uint64((n + rate - 1) / rate) }

// P13.1 to P13.3: the chapter's examples.
func TestExamples(t *testing.T) {
	p := made(t, 2, 3, 0)
	for _, want := range []bool{true, true, true, false} {
		told(t, p, 0, want)
	}
	told(t, p, 499, false)
	told(t, p, 500, true)
	left(t, p, 1500, 2)
	for _, row := range [][2]int{{0, 1}, {1, 1001}} {
		if b, e := New(row[0], row[1], 0); b != nil || e != api.ErrArg {
			t.Error(row, b, e)
		}
	}
	if ok, e := p.b.Take(1<<52 + 1); ok || e != api.ErrArg {
		t.Error(ok, e)
	}
}

// P13.1: which rates, bursts and times may be; what is made is full, and of its time.
func TestNew(t *testing.T) {
	all := []int{math.MinInt, math.MinInt32, -1001, -1000, -2, -1, 0, 1, 2, 3, 500, 999, 1000, 1001, 1002, 2000, 1 << 20, math.MaxInt32, 1 << 32, 1<<32 + 1, math.MaxInt}
	for _, rate := range all {
		for _, burst := range all {
			for _, now := range append([]uint64{0, 1, 999, 1 << 32, 1 << 40, end - 1, end}, beyond...) {
				if rate >= 1 && rate <= 1000 && burst >= 1 && burst <= 1000 && now <= end {
					p := made(t, rate, burst, now)
					left(t, p, now, burst)
					left(t, p, 0, burst)
					left(t, p, end, burst)
					continue
				}
				if b, e := New(rate, burst, now); b != nil || e != api.ErrArg {
					t.Errorf("New(%d, %d, %d): %v, %v", rate, burst, now, b, e)
				}
			}
		}
	}
	if api.MaxRate != 1000 {
		t.Error(api.MaxRate)
	}
	for n := 1; n <= 1000; n++ { // each rate, and each burst
		left(t, made(t, n, 1, end), end, 1)
		left(t, made(t, 1, n, 0), 0, n)
		left(t, made(t, n, n, 1<<40), 1<<40, n)
	}
}

// P13.1: its time is that at which it was made: nothing grows for the time ahead of that.
func TestBegin(t *testing.T) {
	for _, begin := range []uint64{0, 1, 250, 12345, 1 << 40, end - 2000, end - 1000} {
		p := emptied(t, 1, 2, begin)
		for _, now := range []uint64{0, begin / 2, begin, begin + 1, begin + 998, begin + 999} {
			left(t, p, now, 0)
			told(t, p, now, false)
		}
		told(t, p, begin+1000, true)
		told(t, p, begin+1000, false)
	}
}

// P13.2, P13.3: a bucket that New did not make, or none; it stays one.
func TestNone(t *testing.T) {
	for _, b := range []*Bucket{nil, {}, new(Bucket), (*Bucket)(nil).Copy(), new(Bucket).Copy()} {
		for _, now := range append([]uint64{0, 1, 1000, end - 1, end}, beyond...) {
			for range 2 {
				if ok, e := b.Take(now); ok || e != api.ErrNil { // named ahead of ErrArg
					t.Errorf("%v, Take(%d): %v, %v", b, now, ok, e)
				}
				if n := b.Left(now); n != 0 {
					t.Errorf("%v, Left(%d): %d", b, now, n)
				}
				if c := b.Copy(); c != nil {
					t.Errorf("%v, Copy: %v", b, c)
				}
			}
		}
		if b != nil && *b != (Bucket{}) {
			t.Error(*b)
		}
	}
}

// P13.2, P13.3: a time that may not be changes nothing, whether the bucket is full, empty, or between.
func TestBeyond(t *testing.T) {
	for _, begin := range []uint64{0, 1000, end - 1, end} {
		for _, taken := range []int{0, 1, 2, 3} {
			p := made(t, 7, 3, begin)
			for range taken {
				told(t, p, begin, true)
			}
			told(t, p, begin, taken < 3)
			ahead := *p.b
			for _, now := range beyond {
				told(t, p, now, false) // with ErrArg: the model tells that
				if n := p.b.Left(now); n != 0 {
					t.Errorf("Left(%d): %d", now, n)
				}
				if *p.b != ahead {
					t.Errorf("%d: it was %v, and is %v", now, ahead, *p.b)
				}
			}
			for _, now := range []uint64{0, begin, begin + 142, begin + 143, end} {
				p.leaves(t, now)
			}
			p.takes(t, begin)
		}
	}
}

// P13.2, P13.5: from the level 0 on, each token is there to the millisecond, and not one millisecond ahead, at each rate.
func TestGrows(t *testing.T) {
	for rate := 1; rate <= 1000; rate++ {
		for _, burst := range []int{1, 2, 3, 1000} {
			for _, begin := range []uint64{0, end - 1000001} {
				p := emptied(t, rate, burst, begin)
				told(t, p, begin, false)
				for _, n := range []int{1, 2, 3, burst/2 + 1, burst} {
					if n > burst {
						continue
					}
					at := begin + waits(rate, 1000*n)
					early, there := p.copied(t), p.copied(t)
					left(t, early, at-1, n-1)
					for range n - 1 {
						told(t, early, at-1, true)
					}
					told(t, early, at-1, false)
					told(t, early, at, true) // only this millisecond was missing
					for range n {
						told(t, there, at, true)
					}
					told(t, there, at, false)
				}
			}
		}
	}
}

// P13.2: one thousandth short of a token is no token; one thousandth more of it makes it one.
func TestThousandth(t *testing.T) {
	for _, begin := range []uint64{0, 77, end - 5000} {
		p := emptied(t, 1, 3, begin)
		told(t, p, begin+999, false) // 999
		left(t, p, begin+999, 0)
		told(t, p, begin+1000, true)
		told(t, p, begin+1999, false)
		left(t, p, begin+2999, 1) // 1999
		left(t, p, begin+3000, 2)
		told(t, p, begin+2999, true)
		told(t, p, begin+2999, false) // 999
		told(t, p, begin+3000, true)
		told(t, p, begin+3000, false)
	}
	p := emptied(t, 999, 2, 0) // 999 in a millisecond: one thousandth is missing
	told(t, p, 1, false)
	told(t, p, 2, true) // 1998: 998 stay
	told(t, p, 2, false)
	told(t, p, 3, true) // 1997
	told(t, p, 1001, true)
	told(t, p, 1001, true)
	told(t, p, 1001, false) // it was full, and has nothing beside
	told(t, p, 1002, false)
}

// P13.2: full is full, to the thousandth: what would be above it is lost, and what is below it is kept.
func TestFull(t *testing.T) {
	p := emptied(t, 3, 1, 0)
	told(t, p, 333, false) // 999
	told(t, p, 334, true)  // 1002 is 1000
	told(t, p, 667, false) // 999: nothing was kept beside
	told(t, p, 668, true)
	p = emptied(t, 3, 2, 0)
	told(t, p, 334, true) // 1002: 2 stay
	told(t, p, 666, false)
	told(t, p, 667, true) // 2 and 999
	told(t, p, 1000, true)
	told(t, p, 1000, false)
	for _, rate := range numbers {
		for _, burst := range numbers {
			p := emptied(t, rate, burst, 0)
			at := waits(rate, 1000*burst) // just full, or just above it
			p.leaves(t, at-1)
			if p.b.Left(at-1) >= burst {
				t.Fatalf("%+v: full already at %d", p.m, at-1)
			}
			for _, now := range []uint64{at, at + 1, at + 1000, at + 1<<20, 1 << 40, 1 << 51, end - 1, end} {
				left(t, p, now, burst)
				c := p.copied(t)
				for range burst {
					told(t, c, now, true)
				}
				told(t, c, now, false)
				if now+waits(rate, 1000) <= end { // all of it was taken: it has the level 0
					told(t, c, now+waits(rate, 1000)-1, false)
					told(t, c, now+waits(rate, 1000), true)
				}
			}
		}
	}
}

// P13.2: looked at in each millisecond, or once, it grows the same: what is short of a token is not lost.
func TestOften(t *testing.T) {
	for _, rate := range numbers {
		often, once := emptied(t, rate, 3, 5), emptied(t, rate, 3, 5)
		at := 5 + waits(rate, 1000)
		for now := uint64(5); now < at; now++ {
			told(t, often, now, false)
		}
		told(t, often, at, true)
		told(t, once, at, true)
		for now := at; now < at+2100; now++ {
			if n := often.b.Left(now); n != once.b.Left(now) {
				t.Fatalf("%+v, Left(%d): %d; and %d, looked at once", often.m, now, n, once.b.Left(now))
			}
		}
	}
}

// P13.2, P13.3: a time that goes back changes nothing, and tells by the time that was.
func TestBack(t *testing.T) {
	for _, begin := range []uint64{600, 1 << 40, end - 1000} {
		p := made(t, 2, 3, begin)
		for i, now := range []uint64{begin, 0, begin - 600} { // all three are there, at any time ahead, too
			left(t, p, now, 3-i)
			told(t, p, now, true)
		}
		for _, now := range []uint64{0, begin - 1, begin - 500, begin} {
			ahead := *p.b
			told(t, p, now, false)
			if *p.b != ahead {
				t.Errorf("Take(%d): it was %v, and is %v", now, ahead, *p.b)
			}
		}
		told(t, p, begin+499, false) // its time was begin all along
		told(t, p, begin+100, false)
		told(t, p, begin+500, true)
		told(t, p, 0, false)
		told(t, p, begin+999, false)
		told(t, p, begin+1000, true)
	}
}

// P13.2: the first and the last time, and all of it between.
func TestFar(t *testing.T) {
	for _, rate := range numbers {
		for _, burst := range numbers {
			p := emptied(t, rate, burst, 0)
			left(t, p, end, burst)
			for range burst {
				told(t, p, end, true)
			}
			told(t, p, end, false)
			told(t, p, end+1, false)
			told(t, p, 0, false)
			told(t, p, end, false)

			p = emptied(t, rate, burst, end-1) // a last millisecond
			told(t, p, end-1, false)
			told(t, p, end, rate == 1000)
			told(t, p, end, false)
		}
	}
}

// P13.3: Left is the number of Takes that tell true, and asks without a trace.
func TestLeft(t *testing.T) {
	for _, rate := range numbers {
		for _, burst := range numbers {
			p := made(t, rate, burst, 100)
			for _, step := range []uint64{0, 0, 0, 1, 7, 142, 499, 501, 1, 3, 2000} {
				now := p.m.time + step
				p.leaves(t, now)
				p.leaves(t, now+1000)
				p.leaves(t, end)
				p.leaves(t, 0)
				c := p.copied(t)
				for range p.b.Left(now) {
					told(t, c, now, true)
				}
				told(t, c, now, false)
				p.takes(t, now)
			}
		}
	}
}

// P13.3: a copy lives apart, both ways, and a copy's copy, too.
func TestCopy(t *testing.T) {
	p := made(t, 2, 3, 0)
	told(t, p, 10, true)
	c := p.copied(t)
	d := c.copied(t)
	told(t, p, 10, true)
	told(t, p, 10, true)
	told(t, p, 10, false)
	left(t, c, 10, 2)
	left(t, d, 10, 2)
	told(t, c, 5000, true) // the copy's time is its own
	left(t, p, 509, 0)
	left(t, p, 510, 1)
	left(t, d, 10, 2)
	told(t, d, 0, true)
	left(t, c, 5000, 2)
	told(t, p, 509, false)
	told(t, p, 510, true)
	left(t, d, 510, 2)
	left(t, c, 510, 2)
	c.copied(t).takes(t, end)
	left(t, c, 0, 2)
}

// P13.2, P13.3: all short rows of calls, at several rates and bursts, from several times on.
func TestShort(t *testing.T) {
	steps := []uint64{0, 1, 333, 334, 1000, 1 << 40, end}
	type call struct {
		of   string
		step uint64
	}
	calls := []call{{"back", 1}, {"back", 700}, {"left", 334}, {"copy", 0}, {"copied", 0}}
	for _, step := range steps {
		calls = append(calls, call{"take", step})
	}
	for _, row := range [][2]int{{1, 1}, {1, 2}, {3, 1}, {3, 2}, {999, 2}, {1000, 1}, {1000, 3}} {
		for _, begin := range []uint64{0, 1000, end - 1334} {
			sample.Rows(calls, 3, func(l []call) {
				p := emptied(t, row[0], row[1], begin)
				p.takes(t, begin+334)
				for _, c := range l {
					switch c.of {
					case "take":
						p.takes(t, p.m.time+c.step)
					case "back":
						p.takes(t, p.m.time-min(p.m.time, c.step))
					case "left":
						p.leaves(t, p.m.time+c.step)
					case "copy": // which is thrown away
						p.copied(t).takes(t, p.m.time)
					case "copied": // with which it goes on
						c := p.copied(t)
						p.takes(t, p.m.time)
						p = c
					}
				}
				p.leaves(t, p.m.time)
				p.takes(t, p.m.time)
			})
		}
	}
}

// P13.1 to P13.3: by lot, though the same ones in each run: several buckets and copies of them, with calls in any order.
func TestMany(t *testing.T) {
	lot := rand.New(rand.NewSource(13))
	for range 3000 {
		begin := []uint64{0, uint64(lot.Intn(5000)), uint64(lot.Int63n(1 << 40)), end - uint64(lot.Intn(20000))}[lot.Intn(4)]
		all := []*pair{made(t, 1+lot.Intn(1000), 1+lot.Intn(1000), begin), made(t, numbers[lot.Intn(len(numbers))], 1+lot.Intn(4), begin)}
		for range 60 {
			p := all[lot.Intn(len(all))]
			now := p.m.time
			switch lot.Intn(8) {
			case 0:
				now -= min(now, uint64(lot.Intn(3000)))
			case 1, 2, 3:
				now += uint64(lot.Intn(5))
			case 4, 5:
				now += uint64(lot.Intn(int(waits(p.m.rate, 1000))*2 + 1))
			case 6:
				now += uint64(lot.Intn(100)) * waits(p.m.rate, 1000)
			}
			if lot.Intn(200) == 0 {
				now = beyond[lot.Intn(len(beyond))]
			}
			switch lot.Intn(10) {
			case 0:
				p.leaves(t, now)
			case 1:
				all = append(all, p.copied(t))
			case 2: // all that there are at once
				for p.takes(t, now) {
				}
			default:
				p.takes(t, now)
			}
		}
		for _, p := range all {
			p.leaves(t, p.m.time)
			p.leaves(t, end)
		}
	}
}

// P13.4: between any two moments, by lot: none of the buckets tells true too often.
func TestNeverMore(t *testing.T) {
	lot := rand.New(rand.NewSource(134))
	for range 600 {
		rate, burst := 1+lot.Intn(1000), 1+lot.Intn(1000)
		if lot.Intn(2) == 0 {
			rate, burst = numbers[lot.Intn(len(numbers))], 1+lot.Intn(5)
		}
		b, _ := New(rate, burst, 0)
		var times []uint64 // of Takes that told true
		now, most := uint64(lot.Intn(100)), lot.Intn(3000/rate+3)
		for range 400 {
			if ok, _ := b.Take(now); ok {
				times = append(times, now)
			}
			if lot.Intn(3) == 0 {
				now += uint64(lot.Intn(most + 1))
			}
		}
		for i := range times {
			for j := i; j < len(times); j++ {
				if bound := burst + int(times[j]-times[i])*rate/1000; j-i+1 > bound {
					t.Fatalf("New(%d, %d, 0): %d, from %d to %d; at most %d", rate, burst, j-i+1, times[i], times[j], bound)
				}
			}
		}
	}
}

// P13.4: who asks in each millisecond, as often as there is one left, is told true just as often as that; with a burst of 1 some may be lost.
func TestJustSoMany(t *testing.T) {
	for rate := 1; rate <= 1000; rate++ {
		for _, burst := range []int{1, 2, 5} {
			b, _ := New(rate, burst, 9)
			count := 0
			for passed := range 2100 {
				for ok := true; ok; {
					if ok, _ = b.Take(9 + uint64(passed)); ok {
						count++
					}
				}
				want := burst + passed*rate/1000
				if count > want || burst > 1 && count != want {
					t.Fatalf("New(%d, %d, 9), %d later: %d; want %d", rate, burst, passed, count, want)
				}
			}
		}
	}
}

// P13.5: behind each Take that tells false, wherever the bucket stands; and where it has nothing, not a millisecond ahead.
func TestAlwaysSoMany(t *testing.T) {
	for rate := 1; rate <= 1000; rate++ {
		wait := waits(rate, 1000)
		for _, burst := range []int{1, 2, 1000} {
			p := emptied(t, rate, burst, 50)
			told(t, p, 50, false)
			told(t, p.copied(t), 50+wait-1, false)
			told(t, p.copied(t), 50+wait, true)
			p = emptied(t, rate, burst, end-wait)
			told(t, p, end-wait, false)
			told(t, p.copied(t), end-1, false)
			told(t, p.copied(t), end, true) // the last time is soon enough
		}
	}
	lot := rand.New(rand.NewSource(135))
	for range 400 {
		rate, burst := 1+lot.Intn(1000), 1+lot.Intn(3)
		wait := waits(rate, 1000)
		b, _ := New(rate, burst, 0)
		now := uint64(0)
		for range 300 {
			if ok, _ := b.Take(now); !ok {
				if ok, e := b.Copy().Take(now + wait); !ok || e != api.OK {
					t.Fatalf("New(%d, %d, 0): false at %d, and %v, %v at %d", rate, burst, now, ok, e, now+wait)
				}
			}
			now += uint64(lot.Intn(int(wait)+1)) / 2
		}
	}
}

// P13.2: a Take that tells false changes nothing of what is told later, at whatever times, those that go back, too.
func TestRefused(t *testing.T) {
	for _, rate := range numbers {
		p := emptied(t, rate, 2, 1000)
		for step := uint64(0); step < waits(rate, 1000); step += max(waits(rate, 1000)/7, 1) {
			c := p.copied(t)
			told(t, c, 1000+step, false)
			told(t, c, 1000+step/2, false)
			told(t, c, 3, false)
			var l []int
			for _, now := range []uint64{0, 1000, 1000 + step, 1000 + waits(rate, 1000) - 1, 1000 + waits(rate, 1000), 1000 + waits(rate, 2000) - 1, 1000 + waits(rate, 2000), end} {
				l = append(l, p.b.Left(now))
				p.leaves(t, now)
				c.leaves(t, now)
				if n := c.b.Left(now); n != l[len(l)-1] {
					t.Errorf("%+v, Left(%d): %d; want %d", c.m, now, n, l)
				}
			}
			if !slices.IsSorted(l) {
				t.Errorf("%+v: %v", p.m, l)
			}
		}
	}
}
