package fresh

import (
	"math"
	"math/big"
	"math/rand"
	"regexp"
	"slices"
	"strconv"
	"strings"
	"testing"
	"time"

	"tollhouse/api"
	"tollhouse/control"
	"tollhouse/sample"
)

const (
	layout = "Mon, 02 Jan 2006 15:04:05 GMT"
	most   = 2147483648                   // as the chapter has it
	lastly = 253402300799                 // the last moment that has a text
	at     = 784111777                    // a date, in seconds
	today  = "Sun, 06 Nov 1994 08:49:37 " // of that date
	ms     = at * 1000                    // the same in milliseconds
	later  = ms + 10000                   // a moment, ten seconds behind that
)

// lived are the statuses of which a response lives by its change.
var lived = []int{200, 203, 204, 300, 301, 308, 404, 405, 410, 414, 501}

// wrong are texts that are no dates, most of them only like one.
var wrong = []string{
	"", " ", "0", "-1", "x", "784111777", "Thu, 01 Jan 1970", "now",
	"Sunday, 06-Nov-94 08:49:37 GMT", "Sun Nov  6 08:49:37 1994", "1994-11-06T08:49:37Z",
	"Mon, 06 Nov 1994 08:49:37 GMT", "Sun, 6 Nov 1994 08:49:37 GMT", "Sun, 06 Nov 94 08:49:37 GMT", "Sun, 06 nov 1994 08:49:37 GMT", "SUN, 06 NOV 1994 08:49:37 GMT",
	today + "gmt", today + "UTC", today + "+0000", today, today + "GMT ", " " + today + "GMT", today + " GMT", "\"" + today + "GMT\"", today + "GMT, " + today + "GMT", today + "GMT,", today + "GMT\x00",
	"Fri, 31 Feb 1994 08:49:37 GMT", "Sun, 06 Nov 1994 24:00:00 GMT", "Sun, 06 Nov 1994 08:60:37 GMT", "Sun, 06 Nov 1994 08:49:60 GMT", "Wed, 31 Dec 1969 23:59:59 GMT", "Sat, 01 Jan 10000 00:00:00 GMT",
}

// unlike are names that are only like those of fields that matter here.
var unlike = []string{
	"", " ", "x", "dat", "dates", "ate", "date ", " date", "d\u00e1te", "date\x00", "x-date", "expire", "expiress", "xpires", "expires ", "expires\x00", "expire\u017f", "e-xpires", "last_modified", "lastmodified", "last-modifie", "last-modifieds", "la\u017ft-modified", "last modified", "ag", "ages", "ge", "age ", " age", "a-ge", "max-age", "s-maxage", "cache-control ", "cache_control", "surrogate-control",
}

var (
	capitals = regexp.MustCompile(`[A-Z]`)
	digits   = regexp.MustCompile(`^[0-9]+$`)
)

// on is the text of a date.
func on(at uint64) string { return time.Unix(int64(at), 0).UTC().Format(layout) }

// response is one of these fields, of status 200.
func response(lines ...string) api.Response {
	return api.Response{Status: 200, Fields: sample.Fields(lines...)}
}

func entry(asked, came uint64, lines ...string) api.Entry {
	return api.Entry{Asked: asked, Came: came, Response: response(lines...)}
}

// The model below says what the chapter says with the library's calendar and unbounded numbers.

func modelValues(l []api.Field, name string) []string {
	var values []string
	for _, f := range l {
		if capitals.ReplaceAllStringFunc(f.Name, strings.ToLower) == name {
			values = append(values, f.Value)
		}
	}
	return values
}

// modelMoment is nil, where there is no moment.
func modelMoment(l []api.Field, name string) *big.Int {
	values := modelValues(l, name)
	if len(values) != 1 {
		return nil
	}
	at, err := time.Parse(layout, values[0])
	if err != nil || at.Unix() < 0 || at.Unix() > lastly || at.Format(layout) != values[0] {
		return nil
	}
	return big.NewInt(at.Unix())
}

func modelDate(r api.Response) (uint64, bool) {
	if at := modelMoment(r.Fields, "date"); at != nil {
		return at.Uint64(), true
	}
	return 0, false
}

// behind is how far a is behind b; 0, if it is not, or there are not both.
func behind(a, b *big.Int) *big.Int {
	if a == nil || b == nil || a.Cmp(b) <= 0 {
		return new(big.Int)
	}
	return new(big.Int).Sub(a, b)
}

// atMost is n, but at most that much.
func atMost(n *big.Int, much int64) int {
	if n.Cmp(big.NewInt(much)) > 0 {
		return int(much)
	}
	return int(n.Int64())
}

func modelLifetime(r api.Response) (int, bool) {
	c := control.Response(r.Fields)
	if c.Shared != -1 {
		return c.Shared, true
	}
	if c.MaxAge != -1 {
		return c.MaxAge, true
	}
	at := modelMoment(r.Fields, "date")
	if len(modelValues(r.Fields, "expires")) != 0 {
		return atMost(behind(modelMoment(r.Fields, "expires"), at), most), true
	}
	if !slices.Contains(lived, r.Status) {
		return 0, false
	}
	unchanged := behind(at, modelMoment(r.Fields, "last-modified"))
	return atMost(unchanged.Div(unchanged, big.NewInt(10)), 86400), false
}

func modelTold(l []api.Field) *big.Int {
	values := modelValues(l, "age")
	if len(values) != 1 || !digits.MatchString(values[0]) {
		return new(big.Int)
	}
	n, _ := new(big.Int).SetString(values[0], 10)
	return big.NewInt(int64(atMost(n, most)))
}

func modelAge(e api.Entry, now uint64) int {
	number := func(n uint64) *big.Int { return new(big.Int).SetUint64(n) }
	thousand, came := number(1000), number(e.Came)
	age := new(big.Int).Mul(modelTold(e.Response.Fields), thousand)
	age.Add(age, behind(came, number(e.Asked)))
	if at := modelMoment(e.Response.Fields, "date"); at != nil {
		if dated := behind(came, at.Mul(at, thousand)); dated.Cmp(age) > 0 {
			age = dated
		}
	}
	age.Add(age, behind(number(now), came))
	return atMost(age.Div(age, thousand), most)
}

func dated(t *testing.T, r api.Response, want uint64, has bool) {
	t.Helper()
	n, is := Date(r)
	m, model := modelDate(r)
	if n != want || is != has || m != want || model != has {
		t.Errorf("Date(%s): %d, %v, by the model %d, %v; want %d, %v", sample.ShownFields(r.Fields), n, is, m, model, want, has)
	}
}

func lives(t *testing.T, r api.Response, want int, says bool) {
	t.Helper()
	n, is := Lifetime(r)
	m, model := modelLifetime(r)
	if n != want || is != says || m != want || model != says {
		t.Errorf("Lifetime(%d, %s): %d, %v, by the model %d, %v; want %d, %v", r.Status, sample.ShownFields(r.Fields), n, is, m, model, want, says)
	}
}

// ages checks Age, and that Fresh goes by it and by the life.
func ages(t *testing.T, e api.Entry, now uint64, want int) {
	t.Helper()
	life, _ := modelLifetime(e.Response)
	if n, m := Age(e, now), modelAge(e, now); n != want || m != want || Fresh(e, now) != (life > want) {
		t.Errorf("asked %d, came %d, now %d, %s: age %d, by the model %d; want %d; life %d, fresh %v", e.Asked, e.Came, now, sample.ShownFields(e.Response.Fields), n, m, want, life, Fresh(e, now))
	}
}

func fresh(t *testing.T, e api.Entry, now uint64, want bool) {
	t.Helper()
	ages(t, e, now, modelAge(e, now))
	if is := Fresh(e, now); is != want {
		t.Errorf("asked %d, came %d, now %d, %s: fresh %v", e.Asked, e.Came, now, sample.ShownFields(e.Response.Fields), is)
	}
}

func asModel(t *testing.T, r api.Response) {
	t.Helper()
	n, is := modelDate(r)
	dated(t, r, n, is)
	life, says := modelLifetime(r)
	lives(t, r, life, says)
}

// agesAsModel checks the age at each of these moments, with what follows of it.
func agesAsModel(t *testing.T, e api.Entry, moments ...uint64) {
	t.Helper()
	told, least := modelTold(e.Response.Fields), -1
	for i, now := range slices.Sorted(slices.Values(moments)) {
		ages(t, e, now, modelAge(e, now))
		age := Age(e, now)
		if i > 0 && age < least || age < 0 || age > most {
			t.Errorf("%s, at %d: age %d, ahead of that %d", sample.ShownFields(e.Response.Fields), now, age, least)
		}
		least = age
		if told.Cmp(big.NewInt(int64(age))) > 0 {
			t.Errorf("%s, at %d: age %d, as told %d", sample.ShownFields(e.Response.Fields), now, age, told)
		}
		under, here := big.NewInt(0), behind(new(big.Int).SetUint64(now), new(big.Int).SetUint64(e.Came))
		under.Add(here, behind(new(big.Int).SetUint64(e.Came), new(big.Int).SetUint64(e.Asked)))
		if atMost(under.Div(under, big.NewInt(1000)), most) > age {
			t.Errorf("%s, asked %d, came %d, now %d: age %d", sample.ShownFields(e.Response.Fields), e.Asked, e.Came, now, age)
		}
		if now >= e.Came && now <= math.MaxUint64-1000 && age < most && Age(e, now+1000) != age+1 {
			t.Errorf("%s, at %d: age %d, a second later %d", sample.ShownFields(e.Response.Fields), now, age, Age(e, now+1000))
		}
	}
}

// P17.1 to P17.4: the chapter's examples.
func TestExamples(t *testing.T) {
	if Most != most || on(at) != today+"GMT" {
		t.Error(Most, on(at))
	}
	lives(t, response("Cache-Control:max-age=60, s-maxage=5"), 5, true)
	lives(t, response("Date:Sun, 06 Nov 1994 08:49:37 GMT", "Expires:Sun, 06 Nov 1994 08:49:47 GMT"), 10, true)
	lives(t, response("Date:Sun, 06 Nov 1994 08:49:37 GMT", "Expires:0"), 0, true)
	r := response("Date:Sun, 06 Nov 1994 08:49:37 GMT", "Last-Modified:Sun, 06 Nov 1994 08:47:57 GMT")
	lives(t, r, 10, false)
	r.Status = 500
	lives(t, r, 0, false)
	ages(t, entry(1000, 3000, "Age:7"), 5500, 11)
}

// P17.1: one field date, none, two.
func TestDate(t *testing.T) {
	for _, name := range sample.Cased("date") {
		for _, n := range []uint64{0, 1, 59, 86400, at, 951782400, 1<<31 - 1, 1 << 31, 1<<32 + 1, lastly - 1, lastly} {
			dated(t, response(name+":"+on(n)), n, true)
			dated(t, response("Host:a", "Expires:"+on(n+1), name+":"+on(n), "Last-Modified:"+on(1), "Age:5"), n, true)
			for _, other := range []string{on(n), on(n + 1), "", "0", "x"} {
				dated(t, response(name+":"+on(n), "Date:"+other), 0, false)
				dated(t, response("date:"+other, "X:y", name+":"+on(n)), 0, false)
			}
			dated(t, response("Date:"+on(n), "date:"+on(n), "DATE:"+on(n)), 0, false)
		}
		for _, s := range wrong {
			dated(t, response(name+":"+s), 0, false)
			dated(t, response(name+":"+s, name+":"+s), 0, false)
		}
	}
	for _, l := range [][]api.Field{nil, {}, {{}}, sample.Fields("Last-Modified:"+on(at), "Expires:"+on(at), "Age:1")} {
		dated(t, api.Response{Fields: l}, 0, false)
		dated(t, api.Response{Status: 200, Fields: l}, 0, false)
	}
	for _, name := range unlike {
		dated(t, response(name+":"+on(at)), 0, false)
		dated(t, api.Response{Fields: []api.Field{{Name: name, Value: on(at + 1)}, {Name: "Date", Value: on(at)}}}, at, true)
	}
}

// P17.1: whatever else a response is.
func TestDateOfAny(t *testing.T) {
	for _, status := range []int{math.MinInt, -1, 0, 100, 200, 304, 500, 999, math.MaxInt} {
		for minor := -1; minor <= 2; minor++ {
			dated(t, api.Response{Status: status, Reason: "x", Minor: minor, Fields: sample.Fields("Date:" + on(at)), Body: []byte("Date: x\r\n")}, at, true)
		}
	}
}

// P17.1, P17.2: each byte at each place, of dates and of names.
func TestBytes(t *testing.T) {
	sample.Anywhere(on(at), func(s string) {
		asModel(t, response("Date:"+s, "Expires:"+on(at+7)))
		asModel(t, response("Date:"+on(at), "Expires:"+s))
		asModel(t, response("Date:"+on(at+1234), "Last-Modified:"+s))
	})
	for _, name := range []string{"date", "expires", "last-modified", "Cache-Control"} {
		sample.Anywhere(name, func(s string) {
			for _, value := range []string{on(at), "max-age=3"} {
				asModel(t, api.Response{Status: 200, Fields: []api.Field{{Name: "Date", Value: on(at + 70)}, {Name: s, Value: value}, {Name: "Last-Modified", Value: on(at)}}})
				asModel(t, api.Response{Status: 200, Fields: []api.Field{{Name: "Expires", Value: on(at + 70)}, {Name: s, Value: value}}})
			}
		})
	}
	for _, s := range []string{"0", "17", "2147483648", "9007199254740992"} {
		sample.Anywhere(s, func(s string) {
			e := api.Entry{Came: 5000, Response: api.Response{Fields: []api.Field{{Name: "Age", Value: s}}}}
			ages(t, e, 7500, modelAge(e, 7500))
		})
	}
	sample.Anywhere("age", func(s string) {
		e := api.Entry{Came: 5000, Response: api.Response{Fields: []api.Field{{Name: s, Value: "17"}}}}
		ages(t, e, 7500, modelAge(e, 7500))
	})
}

// P17.2: Shared is ahead of MaxAge, and that of expires, in each order of the fields.
func TestLifetimeSaid(t *testing.T) {
	shared, own, expires, date, changed := "cache-control:s-maxage=5", "Cache-Control:max-age=60", "Expires:"+on(at+30), "Date:"+on(at), "Last-Modified:"+on(at-1000)
	orders := [][3]int{{0, 1, 2}, {0, 2, 1}, {1, 0, 2}, {1, 2, 0}, {2, 0, 1}, {2, 1, 0}}
	for _, status := range []int{200, 206, 302, 404, 500, 0, -200} {
		for _, o := range orders {
			for _, x := range []struct {
				lines [3]string
				n     int
			}{
				{[3]string{shared, own, expires}, 5}, {[3]string{"Cache-Control:s-maxage=90", own, expires}, 90},
				{[3]string{shared, "X:y", expires}, 5}, {[3]string{shared, own, "X:y"}, 5}, {[3]string{shared, "Age:5", "X:y"}, 5},
				{[3]string{own, "X:y", expires}, 60}, {[3]string{own, "Age:5", "X:y"}, 60}, {[3]string{own, "Expires:0", "expires:0"}, 60}, {[3]string{own, expires, expires}, 60},
				{[3]string{expires, "X:y", "Age:90"}, 30}, {[3]string{expires, "Cache-Control:public", "Pragma:no-cache"}, 30},
				{[3]string{"Cache-Control:s-maxage=0", own, expires}, 0}, {[3]string{"Cache-Control:s-maxage=x", own, expires}, 0}, {[3]string{"Cache-Control:s-maxage", own, expires}, 0},
				{[3]string{"Cache-Control:max-age=0", "X:y", expires}, 0}, {[3]string{"Cache-Control:max-age=-1", "X:y", expires}, 0}, {[3]string{"Cache-Control:max-age=\"9\"", "X:y", expires}, 9},
				{[3]string{"Cache-Control:max-age=8, max-age=7", own, expires}, 7}, {[3]string{"Cache-Control:s-maxage=8", shared, expires}, 5},
			} {
				r := api.Response{Status: status, Fields: sample.Fields(x.lines[o[0]], date, x.lines[o[1]], changed, x.lines[o[2]])}
				lives(t, r, x.n, true)
			}
		}
	}
	for _, order := range []string{"max-age=60, s-maxage=5, private", "s-maxage=5,max-age=60", "no-store, S-MAXAGE=5, Max-Age=1", "no-cache, s-maxage=\"5\""} {
		lives(t, response("Cache-Control:"+order), 5, true)
		lives(t, api.Response{Status: 500, Fields: sample.Fields("Expires:0", "Cache-Control:"+order)}, 5, true)
	}
	for _, s := range []string{"", "public", "no-store, private", "max-ages=5", "max-age =5", "x=\"max-age=5\"", "min-fresh=5, max-stale=6"} { // none of them says so
		lives(t, response("Cache-Control:"+s), 0, false)
		lives(t, response("Cache-Control:"+s, date, changed), 100, false)
		lives(t, response("Cache-Control:"+s, date, changed, expires), 30, true)
	}
}

// P17.2: of expires: ahead of the date, at it, behind it; what is no date; two; without a date.
func TestLifetimeExpires(t *testing.T) {
	for _, name := range sample.Cased("expires") {
		for _, x := range []struct {
			date, expires uint64
			life          int
		}{
			{at, at + 1, 1}, {at, at + 10, 10}, {at, at + 86400, 86400}, {at, at + 31536000, 31536000}, {at, at, 0}, {at, at - 1, 0}, {at, at - 10, 0}, {at, 0, 0}, {lastly, at, 0}, {lastly, lastly, 0}, {lastly, 0, 0}, {lastly - 1, lastly, 1},
			{0, 0, 0}, {0, 1, 1}, {0, most - 1, most - 1}, {0, most, most}, {0, most + 1, most}, {0, 2 * most, most}, {0, 2*most + 1, most}, {0, lastly, most}, {at, at + most - 1, most - 1}, {at, at + most, most}, {at, at + most + 1, most}, {1, lastly, most},
		} {
			for _, status := range []int{200, 500, 302} {
				r := api.Response{Status: status, Fields: sample.Fields("Date:"+on(x.date), name+":"+on(x.expires))}
				lives(t, r, x.life, true)
				slices.Reverse(r.Fields)
				lives(t, r, x.life, true)
				r.Fields = append(r.Fields, sample.Fields("Last-Modified:"+on(x.date/2), "Cache-Control:public", "Age:3")...)
				lives(t, r, x.life, true)
			}
			lives(t, response("Date:"+on(x.date), name+":"+on(x.expires), "Expires:"+on(x.expires)), 0, true) // twice
			lives(t, response("Expires:0", "Date:"+on(x.date), name+":"+on(x.expires)), 0, true)
			lives(t, response("Date:"+on(x.date), name+":"+on(x.expires), "Expires:"), 0, true)
			lives(t, response("Date:"+on(x.date), name+":"+on(x.expires), "date:"+on(x.date)), 0, true)
			lives(t, response(name+":"+on(x.expires)), 0, true) // without a date
			lives(t, response(name+":"+on(x.expires), "Last-Modified:"+on(x.date)), 0, true)
		}
		for _, s := range wrong {
			lives(t, response("Date:"+on(at), name+":"+s), 0, true)
			lives(t, response("Date:"+on(at), name+":"+s, "Last-Modified:"+on(at-1000)), 0, true) // its change does not count then
			lives(t, response("Date:"+on(at), name+":"+s, "Expires:"+on(at+5)), 0, true)
			lives(t, response("Date:"+s, name+":"+on(at)), 0, true)
			lives(t, response("Date:"+on(at), "Date:"+s, name+":"+on(at+5)), 0, true)
			lives(t, response("Date:"+s, name+":"+s), 0, true)
			lives(t, response(name+":"+s), 0, true)
		}
	}
	for _, name := range unlike {
		lives(t, response("Date:"+on(at), name+":"+on(at+5)), 0, false)
		lives(t, response("Date:"+on(at), name+":"+on(at+5), "Expires:"+on(at+3)), 3, true)
	}
}

// P17.2: by its change: each status, and no other one.
func TestLifetimeStatuses(t *testing.T) {
	check := func(status int) {
		r := api.Response{Status: status, Fields: sample.Fields("Date:"+on(at), "Last-Modified:"+on(at-100))}
		life := 0
		if slices.Contains(lived, status) {
			life = 10
		}
		lives(t, r, life, false)
		r.Fields = append(r.Fields, api.Field{Name: "Expires", Value: on(at + 7)})
		lives(t, r, 7, true)
		r.Fields = append(r.Fields, api.Field{Name: "Cache-Control", Value: "max-age=3"})
		lives(t, r, 3, true)
	}
	for status := range 1100 {
		check(status)
		check(-status)
	}
	for _, status := range []int{math.MinInt, math.MaxInt, 200 + 1<<8, 200 + 1<<16, 200 + 1<<32, 200 - 1<<32} {
		check(status)
	}
}

// P17.2: by its change: a tenth, rounded down, at most 86400.
func TestLifetimeTenth(t *testing.T) {
	for _, name := range sample.Cased("last-modified") {
		for _, x := range []struct{ ahead, life uint64 }{
			{0, 0}, {1, 0}, {9, 0}, {10, 1}, {11, 1}, {19, 1}, {20, 2}, {99, 9}, {100, 10}, {109, 10}, {86400, 8640}, {86409, 8640},
			{863989, 86398}, {863990, 86399}, {863999, 86399}, {864000, 86400}, {864001, 86400}, {864009, 86400}, {864010, 86400}, {864011, 86400}, {8640000, 86400}, {at, 86400},
		} {
			for _, status := range lived {
				r := api.Response{Status: status, Fields: sample.Fields("Date:"+on(at), name+":"+on(at-x.ahead))}
				lives(t, r, int(x.life), false)
				slices.Reverse(r.Fields)
				lives(t, r, int(x.life), false)
			}
			lives(t, response("Date:"+on(at), name+":"+on(at+x.ahead)), 0, false) // changed later
			lives(t, response("Date:"+on(x.ahead), name+":"+on(0)), int(x.life), false)
			lives(t, response("Date:"+on(lastly), name+":"+on(lastly-x.ahead)), int(x.life), false)
			lives(t, response("Date:"+on(lastly-x.ahead), name+":"+on(lastly)), 0, false)
			lives(t, response("Date:"+on(at), name+":"+on(at-x.ahead), "last-modified:"+on(at-x.ahead)), 0, false) // twice
			lives(t, response("Date:"+on(at), "Last-Modified:", name+":"+on(at-x.ahead)), 0, false)
			lives(t, response("Date:"+on(at), name+":"+on(at-x.ahead), "date:"+on(at)), 0, false)
			lives(t, response(name+":"+on(at-x.ahead)), 0, false)
			lives(t, response("Date:"+on(at-x.ahead)), 0, false)
		}
		lives(t, response("Date:"+on(lastly), name+":"+on(0)), 86400, false)
		for _, s := range wrong {
			lives(t, response("Date:"+on(at), name+":"+s), 0, false)
			lives(t, response("Date:"+on(at), name+":"+s, name+":"+on(at-100)), 0, false)
			lives(t, response("Date:"+s, name+":"+on(at)), 0, false)
			lives(t, response("Date:"+s, name+":"+s), 0, false)
		}
	}
	for _, name := range unlike {
		lives(t, response("Date:"+on(at), name+":"+on(at-100)), 0, false)
		lives(t, response("Date:"+on(at), name+":"+on(at-100), "Last-Modified:"+on(at-50)), 5, false)
	}
}

// P17.2: without any field nothing is said; what is said is at most what there is of it.
func TestLifetimeNone(t *testing.T) {
	for _, status := range append([]int{0, 500}, lived...) {
		for _, l := range [][]api.Field{nil, {}, {{}}, sample.Fields("X:max-age=5", "max-age:5", "Vary:a", "Age:7", "Pragma:no-cache")} {
			lives(t, api.Response{Status: status, Fields: l}, 0, false)
		}
		for _, s := range []string{"s-maxage", "max-age"} {
			for value, n := range map[string]int{"2147483646": most - 2, "2147483647": most - 1, "2147483648": most - 1, "4294967296": most - 1, "99999999999999999999999": most - 1, "00000000000000000000000005": 5, "-5": 0, "": 0} {
				lives(t, api.Response{Status: status, Fields: sample.Fields("Cache-Control:" + s + "=\"" + value + "\"")}, n, true)
			}
		}
	}
}

// P17.3: a date ahead of Came, at it and behind it; none; two.
func TestAgeDate(t *testing.T) {
	for _, name := range sample.Cased("date") {
		for _, x := range []struct {
			came uint64
			age  int
		}{{ms, 0}, {ms - 1, 0}, {ms - 5000, 0}, {0, 0}, {ms + 1, 0}, {ms + 999, 0}, {ms + 1000, 1}, {ms + 1999, 1}, {ms + 2000, 2}, {ms + 60000, 60}, {ms + 1000*(most-1) + 999, most - 1}, {ms + 1000*most, most}, {ms + 1000*most + 1000, most}, {math.MaxUint64, most}} {
			ages(t, entry(x.came, x.came, name+":"+on(at)), x.came, x.age)
			ages(t, entry(x.came, x.came, "Expires:"+on(1), name+":"+on(at), "Last-Modified:"+on(2)), x.came, x.age)
			ages(t, entry(x.came, x.came, name+":"+on(at), "Date:"+on(at)), x.came, 0)
			ages(t, entry(x.came, x.came, name+":"+on(at), "Date:0"), x.came, 0)
			ages(t, entry(x.came, x.came, name+":"+on(at), "Age:0"), x.came, x.age)
		}
		for _, s := range wrong {
			ages(t, entry(later, later, name+":"+s), later, 0)
			ages(t, entry(later, later, name+":"+s), later+4000, 4)
		}
		ages(t, entry(later, later, name+":"+on(0)), later, later/1000)
		ages(t, entry(most*1000, most*1000-1, name+":"+on(0)), 0, most-1)
		ages(t, entry(1000*lastly, 1000*lastly+5000, name+":"+on(lastly)), 0, 5)
		ages(t, entry(1000*lastly, 1000*lastly-5000, name+":"+on(lastly)), 0, 0)
	}
	for _, name := range unlike {
		ages(t, entry(later, later, name+":"+on(at)), later, 0)
	}
}

// P17.3: the age as told: none, two, no number, more than Most, too long.
func TestAgeTold(t *testing.T) {
	nines := strings.Repeat("9", 400)
	for _, name := range sample.Cased("age") {
		for value, age := range map[string]int{
			"0": 0, "1": 1, "7": 7, "007": 7, "00": 0, strings.Repeat("0", 400) + "7": 7, "86400": 86400, "2147483646": most - 2, "2147483647": most - 1, "2147483648": most, "2147483649": most, "4294967295": most, "4294967296": most, "4294967297": most, "9007199254740991": most, "9007199254740992": most, "18446744073709551": most, "18446744073709552": most, "18446744073709551615": most, "18446744073709551617": most, nines: most,
			"": 0, "x": 0, "-1": 0, "+7": 0, "7 ": 0, " 7": 0, "7s": 0, "7.0": 0, "1e3": 0, "0x7": 0, "7, 7": 0, "7,": 0, "\"7\"": 0, "1_0": 0, nines + "x": 0, "9007199254740992-": 0, "\uff17": 0, "7\x00": 0, "\xff": 0, "-": 0,
		} {
			ages(t, entry(0, 0, name+":"+value), 0, age)
			ages(t, entry(0, 0, "Max-Age:5", name+":"+value, "Date:"+on(at)), 0, age)
			ages(t, entry(0, 0, name+":"+value), 1000, min(age+1, most))
			ages(t, entry(2000, 4000, name+":"+value), 5000, min(age+3, most))
			for _, other := range []string{value, "7", "", "x"} {
				ages(t, entry(0, 0, name+":"+value, "Age:"+other), 1000, 1)
				ages(t, entry(0, 0, "age:"+other, "X:y", name+":"+value), 1000, 1)
			}
		}
	}
	for _, name := range unlike {
		ages(t, entry(0, 0, name+":7"), 1000, 1)
		ages(t, entry(0, 0, name+":7", "Age:5"), 1000, 6)
	}
	for _, l := range [][]api.Field{nil, {}, {{}}, sample.Fields("X:5", "Cache-Control:max-age=5")} {
		ages(t, api.Entry{Response: api.Response{Fields: l}}, 0, 0)
		ages(t, api.Entry{Asked: 1000, Came: 2500, Response: api.Response{Fields: l}}, 5000, 4)
	}
}

// P17.3: the greater of both ages, and how long it has been here.
func TestAgeGreater(t *testing.T) {
	for _, x := range []struct {
		date, asked, came, now uint64
		told                   string
		age                    int
	}{
		{at, later, later, later, "9", 10}, {at, later, later, later, "10", 10}, {at, later, later, later, "11", 11},
		{at, later - 2000, later, later, "7", 10}, {at, later - 2000, later, later, "8", 10}, {at, later - 2000, later, later, "9", 11}, // underway counts with what was told alone
		{at, later - 3000, later, later + 4000, "6", 14}, {at, later - 3000, later, later + 4000, "8", 15},
		{at, later - 10999, later, later, "0", 10}, {at, later - 11000, later, later, "0", 11}, {at, 0, later, later, "", later / 1000},
		{at + 20, later - 5000, later, later, "", 5}, {at + 20, later + 5000, later, later, "", 0}, {at, later + 5000, later, later + 1000, "3", 11},
		{at, later, later + 900, later + 1000, "", 11}, {at, later, later + 900, later + 900, "", 10}, {at, later, later + 999, later + 1998, "", 11}, {at, later, later + 999, later + 2000, "", 12},
		{at, later - 999, later, later, "10", 10}, {at, later - 1, later, later + 998, "10", 10}, {at, later - 1, later, later + 999, "10", 11}, {at, later - 999, later, later + 1, "10", 11}, // rounded down together
		{at, later, later, later - 1, "", 10}, {at, later, later, 0, "12", 12}, {at, later - 500, later, ms, "12", 12}, {at, later - 500, later, math.MaxUint64, "12", most}, // now ahead of Came
	} {
		lines := []string{"Date:" + on(x.date), "Age:" + x.told}
		if x.told == "" {
			lines = lines[:1]
		}
		e := entry(x.asked, x.came, lines...)
		ages(t, e, x.now, x.age)
		slices.Reverse(e.Response.Fields)
		ages(t, e, x.now, x.age)
	}
	ages(t, entry(1000, 3000), 5500, 4)
	ages(t, entry(1000, 3000), 2999, 2)
	ages(t, entry(3000, 1000), 5500, 4)
	ages(t, entry(3000, 1000, "Age:7"), 5500, 11)
	ages(t, entry(3000, 1000, "Age:7"), 500, 7)
}

// P17.3, R1: nothing goes round.
func TestAgeMost(t *testing.T) {
	const all = math.MaxUint64
	for _, x := range []struct {
		asked, came, now uint64
		told             string
		age              int
	}{
		{0, 0, all, "0", most}, {0, all, all, "0", most}, {0, all, 0, "0", most}, {all, all, all, "0", 0}, {all, 0, 0, "0", 0}, {all, 0, all, "0", most}, {0, all / 2, all, "2147483648", most}, {0, all, all, "2147483648", most}, {0, 1, all, "5", most}, {0, all, all, "1", most}, {all - 1000, all, all, "1", 2}, {all - 1000, all - 500, all, "1", 2},
		{0, 0, 1000*most - 1, "0", most - 1}, {0, 0, 1000 * most, "0", most}, {0, 0, 1000*most + 1000, "0", most}, {0, 1000*most - 1, 0, "0", most - 1}, {0, 1000 * most, 0, "0", most},
		{0, 500*most - 1, 1000*most - 1, "0", most - 1}, {0, 500 * most, 1000 * most, "0", most}, {0, 0, 999, "2147483647", most - 1}, {0, 0, 1000, "2147483647", most}, {0, 0, 0, "2147483648", most}, {0, 500, 999, "2147483647", most - 1}, {0, 500, 1000, "2147483647", most},
		{0, 1 << 63, 1<<63 + 5, "0", most}, {0, all - 1000*most, all, "2147483648", most}, {0, 18446744073709552, 18446744073709552, "0", most},
	} {
		ages(t, entry(x.asked, x.came, "Age:"+x.told), x.now, x.age)
		ages(t, entry(x.asked, x.came, "Age:"+x.told, "Date:"+on(lastly)), x.now, modelAge(entry(x.asked, x.came, "Age:"+x.told, "Date:"+on(lastly)), x.now))
	}
	ages(t, entry(all, all, "Date:"+on(lastly)), all, most)
	ages(t, entry(0, all, "Date:"+on(0), "Age:9007199254740992"), all, most)
	ages(t, entry(all, 0, "Date:"+on(lastly)), 0, 0)
}

// moments are those around 0, dates, one another, and the greatest ones.
var moments = []uint64{0, 1, 999, 1000, 1001, 2000, ms - 1000, ms - 1, ms, ms + 1, ms + 999, ms + 1000, later, later + 500, 1000 * most, ms + 1000*most, 1 << 52, 1 << 63, math.MaxUint64 - 1000, math.MaxUint64 - 1, math.MaxUint64}

// P17.3 to P17.6: all of these moments, as Asked, Came and now.
func TestAgeMoments(t *testing.T) {
	for _, l := range [][]string{
		nil, {"Age:5"}, {"Age:2147483648"}, {"Date:" + on(at)}, {"Date:" + on(at+1), "Age:1"}, {"Date:" + on(0)}, {"Date:" + on(lastly), "Cache-Control:max-age=2"}, {"Date:" + on(at), "Age:0", "Expires:" + on(at+2)}, {"Age:1", "Cache-Control:s-maxage=2147483647"},
	} {
		for _, asked := range moments {
			for _, came := range moments {
				agesAsModel(t, entry(asked, came, l...), moments...)
			}
		}
	}
}

// P17.4: a life ahead of the age, at it, behind it.
func TestFresh(t *testing.T) {
	for _, life := range []string{"Cache-Control:max-age=12", "Cache-Control:s-maxage=12, max-age=99", "Cache-Control:max-age=1, s-maxage=12"} {
		e := entry(1000, 3000, "Age:7", life) // its age is 9
		for now, want := range map[uint64]bool{0: true, 3000: true, 5999: true, 6000: false, 6001: false, 7000: false, 100000: false, math.MaxUint64: false} {
			fresh(t, e, now, want)
		}
	}
	for _, e := range []api.Entry{entry(ms, ms, "Date:"+on(at), "Expires:"+on(at+2)), entry(ms, ms, "Date:"+on(at), "Last-Modified:"+on(at-20)), entry(ms-500, ms+500, "Date:"+on(at), "Last-Modified:"+on(at-29))} {
		for now, want := range map[uint64]bool{0: true, ms: true, ms + 999: true, ms + 1000: true, ms + 1499: true, ms + 2000: false, ms + 5000: false, math.MaxUint64: false} {
			fresh(t, e, now, want)
		}
	}
	for _, l := range [][]string{nil, {"Cache-Control:max-age=0"}, {"Cache-Control:s-maxage=0, max-age=50"}, {"Cache-Control:max-age=x"}, {"Date:" + on(at), "Expires:" + on(at)}, {"Expires:" + on(at+100)}, {"Expires:0", "Date:" + on(at), "Last-Modified:" + on(0)}, {"Date:" + on(at), "Last-Modified:" + on(at-9)}, {"Last-Modified:" + on(at)}} {
		for _, now := range moments { // a life of 0 is never above an age
			fresh(t, entry(ms, ms, l...), now, false)
			fresh(t, entry(math.MaxUint64, 0, l...), now, false)
		}
	}
	r := api.Entry{Asked: ms, Came: ms, Response: api.Response{Status: 500, Fields: sample.Fields("Date:"+on(at), "Last-Modified:"+on(at-100))}}
	fresh(t, r, ms, false)
	r.Response.Status = 404
	fresh(t, r, ms, true)
}

// P17.4: lives and ages of just Most, and about it.
func TestFreshMost(t *testing.T) {
	for ahead, want := range map[uint64]bool{0: false, 1: true, 1000: true, 1001: true} {
		long := entry(0, 0, "Date:"+on(0), "Expires:"+on(most))
		lives(t, long.Response, most, true)
		fresh(t, long, 1000*most-ahead, want)
		fresh(t, entry(0, 0, "Date:"+on(0), "Expires:"+on(lastly)), 1000*most-ahead, want)
		fresh(t, entry(0, 0, "Date:"+on(0), "Expires:"+on(most-1)), 1000*most-ahead, want && ahead > 1000)
		fresh(t, entry(0, 0, "Cache-Control:max-age=99999999999"), 1000*most-ahead, want && ahead > 1000)
	}
	fresh(t, entry(0, 0, "Date:"+on(0), "Expires:"+on(lastly), "Age:2147483647"), 999, true)
	fresh(t, entry(0, 0, "Date:"+on(0), "Expires:"+on(lastly), "Age:2147483647"), 1000, false)
	fresh(t, entry(0, 0, "Date:"+on(0), "Expires:"+on(lastly), "Age:2147483648"), 0, false)
	fresh(t, entry(0, 0, "Date:"+on(0), "Expires:"+on(lastly)), math.MaxUint64, false)
}

// P17.5: an age never falls, and grows by one for each second; what is not fresh is so never again.
func TestAgeGrows(t *testing.T) {
	for _, e := range []api.Entry{
		entry(0, 0), entry(1000, 3000, "Age:7", "Cache-Control:max-age=12"), entry(3000, 1000, "Cache-Control:max-age=4"), entry(2345, 3456, "Age:1", "Cache-Control:s-maxage=6"),
		entry(5000, 7000, "Date:"+on(3), "Expires:"+on(9)), entry(6999, 7001, "Date:"+on(5), "Expires:"+on(9)), entry(1, 4999, "Date:"+on(9000), "Expires:"+on(9003), "Last-Modified:"+on(1)), entry(2000, 2000, "Date:"+on(2), "Last-Modified:"+on(0)), entry(9999, 0, "Age:2147483640", "Date:"+on(0), "Expires:"+on(most)),
	} {
		age, was := Age(e, 0), Fresh(e, 0)
		for now := range uint64(14000) {
			is := Fresh(e, now)
			if n := Age(e, now); n < age || n > age+1 || is && !was || n != modelAge(e, now) {
				t.Fatalf("%v, at %d: age %d, fresh %v; ahead of that %d, %v", e, now, n, is, age, was)
			}
			if now >= e.Came && Age(e, now+1000) != min(Age(e, now)+1, most) || now < e.Came && Age(e, now) != Age(e, 0) {
				t.Fatalf("%v, at %d: age %d, then %d", e, now, Age(e, now), Age(e, now+1000))
			}
			age, was = Age(e, now), is
		}
	}
}

// P17.6: an age is at least that which was told, and at least how long the response was underway and has been here.
func TestAgeAtLeast(t *testing.T) {
	for _, told := range []uint64{0, 1, 9, 10, 11, 2147483647} {
		for _, asked := range moments[:14] {
			for _, under := range []uint64{0, 1, 999, 1000, 2500} {
				for _, here := range []uint64{0, 1, 500, 1000, 3333} {
					e := entry(asked, asked+under, "Age:"+strconv.FormatUint(told, 10), "Date:"+on(at))
					if age := uint64(Age(e, asked+under+here)); age < told || age < (under+here)/1000 || age < min(told+(under+here)/1000, most) {
						t.Errorf("asked %d, came %d behind that, now %d behind that, told %d: age %d", asked, under, here, told, age)
					}
				}
			}
		}
	}
}

// P17.1, P17.2: all short rows of fields that matter.
func TestShort(t *testing.T) {
	lines := sample.Fields("Date:"+on(at), "DATE:"+on(at+50), "date:x", "Expires:"+on(at+20), "EXPIRES:0", "expires:"+on(at+99), "Last-Modified:"+on(at-30), "LAST-modified:"+on(at+30), "last-modified:", "Cache-Control:max-age=7", "CACHE-control:s-maxage=0, private", "X:y")
	sample.Rows(lines, 4, func(l []api.Field) {
		for _, status := range []int{200, 500} {
			asModel(t, api.Response{Status: status, Fields: l})
		}
		e := api.Entry{Asked: later - 1500, Came: later, Response: api.Response{Status: 200, Fields: l}}
		ages(t, e, later+2600, modelAge(e, later+2600))
	})
}

// P17.1 to P17.6: by lot, though the same in each run.
func TestLots(t *testing.T) {
	lot := rand.New(rand.NewSource(17))
	one := func(l []string) string { return l[lot.Intn(len(l))] }
	dates := []func() string{
		func() string { return on(at + uint64(lot.Intn(40)) - 20) },
		func() string { return on(uint64(lot.Int63n(lastly + 1))) },
		func() string { return one(wrong) },
	}
	moment := func() uint64 {
		switch lot.Intn(4) {
		case 0:
			return moments[lot.Intn(len(moments))]
		case 1:
			return lot.Uint64() >> lot.Intn(64)
		}
		return ms + uint64(lot.Intn(40000)) - 20000
	}
	field := func() api.Field {
		name := one([]string{"date", "date", "expires", "last-modified", "last-modified", "age", "age", "cache-control", "x", one(unlike)})
		f := api.Field{Name: sample.Cased(name)[lot.Intn(3)]}
		switch name {
		case "age":
			f.Value = one([]string{strconv.Itoa(lot.Intn(30)), strconv.FormatUint(lot.Uint64()>>lot.Intn(64), 10), "2147483647", "2147483648", "", "x", "-1", "1, 2"})
		case "cache-control":
			f.Value = one([]string{"max-age=", "s-maxage=", "public, max-age=", "max-age=9, s-maxage=", "private, x="}) + one([]string{strconv.Itoa(lot.Intn(30)), "2147483647", "99999999999", "", "x"})
		default:
			f.Value = dates[min(lot.Intn(8), lot.Intn(3))]()
		}
		return f
	}
	fresh, says := map[bool]int{}, map[bool]int{}
	for range 20000 {
		e := api.Entry{URL: "http://a/", Asked: moment(), Came: moment()}
		e.Response.Status = append([]int{lot.Intn(1000), 200, 200, 404, 206, 500}, lived...)[lot.Intn(6+len(lived))]
		for range lot.Intn(7) {
			e.Response.Fields = append(e.Response.Fields, field())
		}
		asModel(t, e.Response)
		now := moment()
		agesAsModel(t, e, now, moment(), now+uint64(lot.Intn(5000)), e.Came)
		_, said := Lifetime(e.Response)
		fresh[Fresh(e, e.Came)]++
		says[said]++
	}
	if fresh[true] < 1000 || fresh[false] < 1000 || says[true] < 1000 || says[false] < 1000 {
		t.Error(fresh, says)
	}
}

// R1: long values, and many fields.
func TestLong(t *testing.T) {
	const n = 1 << 14
	for _, part := range []string{"0", "7", "x", " ", ",", "\"", "\\", "\xff", "é", "max-age=5,", today} {
		long := strings.Repeat(part, n)
		for _, name := range []string{"date", "expires", "last-modified", "age", "cache-control", long} {
			e := entry(0, ms, "Date:"+on(at), name+":"+long, "X:y", "Last-Modified:"+on(at-100))
			asModel(t, e.Response)
			ages(t, e, later, modelAge(e, later))
		}
	}
	for _, line := range []string{"Date:" + on(at), "Expires:" + on(at), "Age:1", "Last-Modified:" + on(at), "Cache-Control:max-age=9", ":", "X:y"} {
		e := entry(0, ms, slices.Repeat([]string{line}, n)...)
		asModel(t, e.Response)
		ages(t, e, later, modelAge(e, later))
	}
}

// R3: what is handed in stays as it is, room behind it too.
func TestOnlyRead(t *testing.T) {
	made := func() api.Entry {
		e := entry(1000, 3000, "Date:"+on(at), "EXPIRES:"+on(at+9), "age:7", "Last-Modified:"+on(0), "date:x", "Cache-Control:max-age=x, max-age=5")
		e.URL, e.Wanted, e.Response.Body = "http://a/", sample.Fields("accept:b"), []byte("body")
		return e
	}
	e := made()
	e.Response.Fields = append(make([]api.Field, 0, 16), e.Response.Fields...)
	for range 2 {
		dated(t, e.Response, 0, false)
		lives(t, e.Response, 0, true)
		ages(t, e, 5500, 11)
	}
	l, want := e.Response.Fields, made()
	if !slices.Equal(l, want.Response.Fields) || slices.ContainsFunc(l[len(l):cap(l)], func(f api.Field) bool { return f != api.Field{} }) {
		t.Errorf("%s", sample.ShownFields(l[:cap(l)]))
	}
	if e.URL != want.URL || !slices.Equal(e.Wanted, want.Wanted) || string(e.Response.Body) != "body" {
		t.Errorf("%v", e)
	}
}
