package policy

import (
	"math"
	"math/big"
	"math/rand"
	"regexp"
	"slices"
	"strconv"
	"strings"
	"testing"
	"time"
	"unsafe"

	"tollhouse/api"
	"tollhouse/control"
	"tollhouse/fresh"
	"tollhouse/hop"
	"tollhouse/sample"
	"tollhouse/vary"
)

// What these tests try, and show, is made as other layers' tests make it.
var (
	cased  = sample.Cased
	fields = sample.Fields
	shown  = sample.ShownFields
)

const (
	changed = "Sun, 06 Nov 1994 08:49:37 GMT"
	earlier = "Sun, 06 Nov 1994 08:48:37 GMT"
	at      = 784111777000 // of changed, in milliseconds
	most    = math.MaxInt
	least   = math.MinInt
	unsaid  = -1
)

var none = api.Control{MaxAge: unsaid, Shared: unsaid, MinFresh: unsaid, MaxStale: unsaid}

// may are the statuses that may be stored.
var may = []int{200, 203, 204, 300, 301, 308, 404, 405, 410, 414, 501}

// unplain are the names of which each makes fields not plain.
var unplain = []string{"if-match", "if-none-match", "if-modified-since", "if-unmodified-since", "if-range", "range", "content-length", "transfer-encoding"}

// unlike are names that are only like those that matter here.
var unlike = []string{
	"", " ", "x", "if", "if-", "match", "none-match", "if-matches", "if_match", "if-match ", " if-match", "x-if-match", "ifmatch", "if-matc", "if-none", "if-none-matchs", "if-modified", "if-modified-sinc", "if-unmodified", "if-rang", "if-ranges", "ranges", "rang", "accept-ranges", "content-range", "range\x00", "r\u00e1nge", "content-lengths", "content_length", "content-lengt\u0127", "content-type", "content-encoding", "transfer-encodings", "transfer", "te", "tran\u017ffer-encoding",
	"authorizatio", "authorizations", "proxy-authorization", "uthorization", "author\u0131zation", "www-authenticate", "e-tag", "eta", "etags", "tag", "etag ", "et\u00e1g", "last-modifie", "last-modifieds", "la\u017ft-modified", "modified", "last_modified", "connections", "connectio", "proxy-connection", "vari", "varys", "expire", "cache_control", "cache-controls", "surrogate-control",
}

// methods are those that matter here, and others that are like them.
var methods = []string{"GET", "HEAD", "OPTIONS", "TRACE", "POST", "PUT", "DELETE", "CONNECT", "PATCH", "QUERY", "PROPFIND", "get", "head", "options", "trace", "Get", "gET", "GeT", "hEAD", "", " ", "GET ", " GET", "GETS", "GE", "ET", "HEADS", "HEA", "OPTION", "TRACES", "GET\x00", "GET,HEAD", "*", "\xff", "\uff27\uff25\uff34", "G\u0395T"}

// The model below says what the chapter says with regular expressions, the library's calendar, and unbounded numbers; what lower layers say is theirs.

var (
	capitals = regexp.MustCompile(`[A-Z]`)
	tagForm  = regexp.MustCompile(`\A(?:W/)?"[\x{21}\x{23}-\x{7e}\x{80}-\x{ff}]*"\z`)
	notPlain = regexp.MustCompile(`\A(?:if-(?:match|none-match|modified-since|unmodified-since|range)|range|content-length|transfer-encoding)\z`)
)

func small(s string) string { return capitals.ReplaceAllStringFunc(s, strings.ToLower) }

// wide is s with each byte as a rune of its own.
func wide(s string) string {
	var l []rune
	for _, c := range []byte(s) {
		l = append(l, rune(c))
	}
	return string(l)
}

// modelValues is the Values of the fields of that name.
func modelValues(l []api.Field, name string) []string {
	var values []string
	for _, f := range l {
		if small(f.Name) == name {
			values = append(values, f.Value)
		}
	}
	return values
}

func modelPlain(l []api.Field) bool {
	return !slices.ContainsFunc(l, func(f api.Field) bool { return notPlain.MatchString(small(f.Name)) })
}

func modelStored(r api.Request) bool {
	return (r.Method == "GET" || r.Method == "HEAD") && len(r.Body) == 0 && modelPlain(r.Fields) && len(modelValues(r.Fields, "authorization")) == 0 && !control.Request(r.Fields).NoStore
}

func modelShares(r api.Request) bool {
	c := control.Request(r.Fields)
	return modelStored(r) && r.Method != "HEAD" && !(c.NoCache || c.Only)
}

func modelTag(l []api.Field) (string, bool) {
	if values := modelValues(l, "etag"); len(values) == 1 && tagForm.MatchString(wide(values[0])) {
		return values[0], true
	}
	return "", false
}

func modelChange(l []api.Field) (string, bool) {
	const layout = "Mon, 02 Jan 2006 15:04:05 GMT"
	values := modelValues(l, "last-modified")
	if len(values) != 1 {
		return "", false
	}
	told, err := time.Parse(layout, values[0])
	if err != nil || told.Unix() < 0 || told.Format(layout) != values[0] {
		return "", false
	}
	return values[0], true
}

func modelConditions(l []api.Field) []api.Field {
	var conditions []api.Field
	if tag, is := modelTag(l); is {
		conditions = append(conditions, api.Field{Name: "If-None-Match", Value: tag})
	}
	if change, is := modelChange(l); is {
		conditions = append(conditions, api.Field{Name: "If-Modified-Since", Value: change})
	}
	return conditions
}

func modelMay(method string, l []api.Field, x api.Response) bool {
	if method != "GET" || !modelPlain(l) || control.Request(l).NoStore || !slices.Contains(may, x.Status) {
		return false
	}
	c := control.Response(x.Fields)
	if c.NoStore || c.Private {
		return false
	}
	if len(modelValues(l, "authorization")) > 0 && !c.Public && !c.Must && c.Shared < 0 {
		return false
	}
	if _, star := vary.Names(x.Fields); star {
		return false
	}
	for _, name := range hop.Elements(x.Fields, "connection") {
		if hop.ForAll(name) {
			return false
		}
	}
	life, says := fresh.Lifetime(x)
	return says || life > 0 || len(modelConditions(x.Fields)) > 0
}

func modelReuse(e api.Entry, c api.Control, now uint64) int {
	r := control.Response(e.Response.Fields)
	told, _ := fresh.Lifetime(e.Response)
	life, age := big.NewInt(int64(told)), big.NewInt(int64(fresh.Age(e, now)))
	and := func(a *big.Int, n int) *big.Int { return new(big.Int).Add(a, big.NewInt(int64(n))) }
	serves := !c.NoCache && !r.NoCache
	serves = serves && (c.MaxAge < 0 || age.Cmp(big.NewInt(int64(c.MaxAge))) <= 0)
	serves = serves && (c.MinFresh < 0 || life.Cmp(and(age, c.MinFresh)) >= 0)
	stale := c.MaxStale >= 0 && age.Cmp(and(life, c.MaxStale)) <= 0 && !r.Must && r.Shared < 0
	if serves && (life.Cmp(age) > 0 || stale) {
		return 2
	}
	if len(modelConditions(e.Response.Fields)) > 0 {
		return 1
	}
	return 0
}

// request checks what is told of a request, and what follows of it (P18.6).
func request(t *testing.T, r api.Request, stored, shares bool) {
	t.Helper()
	if is, too := Stored(r), Shares(r); is != stored || too != shares || is != modelStored(r) || too != modelShares(r) {
		t.Errorf("%q; %s; body %q: stored %v, shares %v; want %v, %v", r.Method, shown(r.Fields), r.Body, is, too, stored, shares)
	}
	if Shares(r) && !(Stored(r) && Safe(r.Method)) {
		t.Errorf("%q; %s: shares, but is not stored, and safe", r.Method, shown(r.Fields))
	}
}

// asks checks a GET and a HEAD with these fields.
func asks(t *testing.T, stored, shares bool, lines ...string) {
	t.Helper()
	request(t, api.Request{Method: "GET", Fields: fields(lines...)}, stored, shares)
	request(t, api.Request{Method: "HEAD", Fields: fields(lines...)}, stored, false)
}

func requestAsModel(t *testing.T, r api.Request) {
	t.Helper()
	request(t, r, modelStored(r), modelShares(r))
}

func plain(t *testing.T, l []api.Field, want bool) {
	t.Helper()
	if is := Plain(l); is != want || is != modelPlain(l) {
		t.Errorf("Plain(%s): %v; want %v", shown(l), is, want)
	}
}

func tag(t *testing.T, l []api.Field, want string, is bool) {
	t.Helper()
	if got, ok := Tag(l); got != want || ok != is {
		t.Errorf("Tag(%s): %q, %v; want %q, %v", shown(l), got, ok, want, is)
	}
}

// tagged checks a Value of a field etag, alone and beside others.
func tagged(t *testing.T, value string, is bool) {
	t.Helper()
	want := ""
	if is {
		want = value
	}
	if got, ok := modelTag(fields("ETag:" + value)); got != want || ok != is {
		t.Errorf("model of %q: %q, %v", value, got, ok)
	}
	for _, name := range cased("etag") {
		tag(t, fields(name+":"+value), want, is)
		tag(t, fields("X:\"a\"", name+":"+value, "Tag:\"b\"", ":\"c\""), want, is)
		conditions(t, fields("X:a", name+":"+value), modelConditions(fields("etag:"+value))...)
	}
}

// conditions checks those of an entry, whose other parts do not matter.
func conditions(t *testing.T, l []api.Field, want ...api.Field) {
	t.Helper()
	for _, e := range []api.Entry{{Response: api.Response{Fields: l}}, {URL: "http://a/", Asked: 5, Came: 9, Wanted: fields("etag:\"w\"", "last-modified:"+changed), Response: api.Response{Status: 200, Fields: l, Body: []byte("b")}}} {
		if got := Conditions(e); !slices.Equal(got, want) {
			t.Errorf("Conditions(%s): %s; want %s", shown(l), shown(got), shown(want))
		}
	}
}

// stores checks whether a response may be stored, and what follows of it (P18.6).
func stores(t *testing.T, method string, l []api.Field, x api.Response, want bool) {
	t.Helper()
	if is := May(method, l, x); is != want || is != modelMay(method, l, x) {
		t.Errorf("May(%q; %s; %d, %s): %v; want %v", method, shown(l), x.Status, shown(x.Fields), is, want)
	}
	if !want {
		return
	}
	without := slices.DeleteFunc(slices.Clone(l), func(f api.Field) bool { return small(f.Name) == "authorization" })
	if !May(method, without, x) {
		t.Errorf("May(%q; %s; %d, %s): not without authorization", method, shown(l), x.Status, shown(x.Fields))
	}
	c := control.Response(x.Fields)
	if c.NoStore || c.Private || control.Request(l).NoStore {
		t.Errorf("May(%q; %s; %d, %s): though it says no-store or private", method, shown(l), x.Status, shown(x.Fields))
	}
}

func storesAsModel(t *testing.T, method string, l []api.Field, x api.Response) {
	t.Helper()
	stores(t, method, l, x, modelMay(method, l, x))
}

func response(lines ...string) api.Response {
	return api.Response{Status: 200, Fields: fields(lines...)}
}

// told checks a response of these fields, of status 200, to a GET without fields.
func told(t *testing.T, want bool, lines ...string) {
	t.Helper()
	stores(t, "GET", nil, response(lines...), want)
}

// entry is one that was asked for, and came, a second behind the first moment.
func entry(lines ...string) api.Entry {
	return api.Entry{Asked: 1000, Came: 1000, Response: response(lines...)}
}

// reuse checks what becomes of an entry, and what follows of it (P18.5, P18.7).
func reuse(t *testing.T, e api.Entry, c api.Control, now uint64, want int) {
	t.Helper()
	if got := Reuse(e, c, now); got != want || got != modelReuse(e, c, now) {
		t.Errorf("Reuse(%d, %d, %s; %+v; %d): %d; want %d", e.Asked, e.Came, shown(e.Response.Fields), c, now, got, want)
	}
	if want != Serve {
		return
	}
	if Reuse(e, none, now) == Serve && !fresh.Fresh(e, now) {
		t.Errorf("Reuse(%s; %d): served, but not fresh", shown(e.Response.Fields), now)
	}
	for _, earlier := range []uint64{0, now / 2, now - min(now, 1000), now - min(now, 1)} {
		if Reuse(e, c, earlier) != Serve {
			t.Errorf("Reuse(%s; %+v): served at %d, but not at %d", shown(e.Response.Fields), c, now, earlier)
		}
	}
}

// reused checks an entry without a validator, which then is missed, and the same with one, with which it is asked of again.
func reused(t *testing.T, c api.Control, now uint64, serves bool, lines ...string) {
	t.Helper()
	for validator, want := range map[string]int{"X:y": Miss, "ETag:\"a\"": Validate, "etag:W/\"\"": Validate, "ETag:a": Miss, "Last-Modified:" + changed: Validate, "Last-Modified:x": Miss} {
		if serves {
			want = Serve
		}
		reuse(t, entry(append([]string{validator}, lines...)...), c, now, want)
	}
}

func reuseAsModel(t *testing.T, e api.Entry, c api.Control, now uint64) {
	t.Helper()
	reuse(t, e, c, now, modelReuse(e, c, now))
}

// asked is a control with one thing more.
func asked(more func(*api.Control)) api.Control {
	c := none
	more(&c)
	return c
}

func maxAge(n int) api.Control   { return asked(func(c *api.Control) { c.MaxAge = n }) }
func minFresh(n int) api.Control { return asked(func(c *api.Control) { c.MinFresh = n }) }
func maxStale(n int) api.Control { return asked(func(c *api.Control) { c.MaxStale = n }) }

func TestExamples(t *testing.T) {
	five := response("Cache-Control:max-age=5")
	stores(t, "GET", nil, five, true)
	told(t, false, "Cache-Control:max-age=5, private")
	told(t, false, "Cache-Control:max-age=5", "Vary:*")
	stores(t, "GET", nil, api.Response{Status: 500, Fields: five.Fields}, false)
	stores(t, "HEAD", nil, five, false)
	stores(t, "GET", fields("Range:x"), five, false)
	stores(t, "GET", fields("Authorization:x"), five, false)
	stores(t, "GET", fields("Authorization:x"), response("Cache-Control:max-age=5, public"), true)

	const ten = "Cache-Control:max-age=10"
	reused(t, none, 6000, true, ten)
	reused(t, maxAge(4), 6000, false, ten)
	reused(t, minFresh(6), 6000, false, ten)
	reused(t, none, 13000, false, ten)
	reused(t, maxStale(2), 13000, true, ten)
	reused(t, maxStale(2), 13000, false, ten+", must-revalidate")
	conditions(t, fields("ETag:\"x\"", "Last-Modified:"+changed), fields("If-None-Match:\"x\"", "If-Modified-Since:"+changed)...)
	if Miss != 0 || Validate != 1 || Serve != 2 {
		t.Error(Miss, Validate, Serve)
	}
}

// P18.1: which fields are plain: each name, whatever its Value, among others.
func TestPlain(t *testing.T) {
	others := fields("Host:a", "Accept:b", "If:c", "Cache-Control:no-store, no-cache", "Authorization:d", "Connection:range", "Age:5", "ETag:\"x\"", "Last-Modified:x", "Content-Type:y", "TE:z", "Trailer:v", "Expect:100-continue", "Upgrade:u", ":range", ":")
	plain(t, nil, true)
	plain(t, []api.Field{}, true)
	plain(t, others, true)
	for _, small := range unplain {
		for _, name := range cased(small) {
			for _, value := range []string{"", "x", "*", "0", "chunked", "\x00", "\xff"} {
				plain(t, fields(name+":"+value), false)
				for at := range len(others) + 1 {
					plain(t, slices.Insert(slices.Clone(others), at, api.Field{Name: name, Value: value}), false)
				}
			}
			plain(t, fields(name+":x", name+":y"), false)
			plain(t, fields("X:"+name, ":"+name, "Vary:"+name), true)
			asks(t, false, false, name+":")
			stores(t, "GET", fields(name+":"), response("ETag:\"a\""), false)
			told(t, true, "ETag:\"a\"", name+":x") // those of the response do not matter
		}
		sample.Anywhere(small, func(name string) {
			plain(t, []api.Field{{Name: name, Value: "x"}}, !slices.Contains(unplain, strings.Map(func(r rune) rune {
				if 'A' <= r && r <= 'Z' {
					return r + 'a' - 'A'
				}
				return r
			}, name)))
		})
	}
	for _, name := range unlike {
		plain(t, []api.Field{{Name: name}}, true)
		plain(t, []api.Field{{Name: cased(name)[1], Value: "x"}, {Name: "A"}}, true)
	}
}

// P18.1: which methods are safe.
func TestSafe(t *testing.T) {
	for i, method := range methods {
		if Safe(method) != (i < 4) {
			t.Errorf("Safe(%q): %v", method, Safe(method))
		}
	}
	for _, safe := range methods[:4] {
		sample.Anywhere(safe, func(s string) {
			if Safe(s) && s != safe {
				t.Errorf("Safe(%q)", s)
			}
		})
		for _, s := range cased(safe) {
			if Safe(s) != (s == safe) {
				t.Errorf("Safe(%q): %v", s, Safe(s))
			}
		}
	}
}

// P18.1: methods, and a body.
func TestStoredMethods(t *testing.T) {
	for i, method := range methods {
		request(t, api.Request{Method: method}, i < 2, i < 1)
		request(t, api.Request{Method: method, Target: "http://a/", Minor: 1, Fields: fields("Host:a", "Accept:b"), Body: []byte{}}, i < 2, i < 1)
		for _, body := range []string{"a", "\x00", " ", "body"} {
			request(t, api.Request{Method: method, Body: []byte(body)}, false, false)
		}
	}
	for _, method := range methods[:2] {
		sample.Anywhere(method, func(s string) { request(t, api.Request{Method: s}, s == method, s == "GET") })
	}
	for _, target := range []string{"", "http://b/?x", "/", "*", "\xff"} {
		for _, minor := range []int{0, 1, -1, 2, least, most} {
			request(t, api.Request{Method: "GET", Target: target, Minor: minor}, true, true)
		}
	}
}

// P18.1: fields of a request that is not stored, or does not share.
func TestStoredFields(t *testing.T) {
	asks(t, true, true)
	asks(t, true, true, "Host:a", "User-Agent:b", "Accept:*/*", "Cookie:c", "Proxy-Authorization:Bearer x", "Connection:authorization")
	for _, name := range cased("authorization") {
		for _, value := range []string{"", "Basic x", "\xff"} {
			asks(t, false, false, name+":"+value)
			asks(t, false, false, "Host:a", name+":"+value, "Accept:b")
			asks(t, false, false, name+":", name+":"+value)
		}
	}
	for _, name := range unlike {
		asks(t, true, true, name+":x")
		asks(t, true, true, cased(name)[1]+":no-store")
	}
	for _, name := range cased("cache-control") {
		for _, value := range []string{"no-store", "NO-STORE", "No-Store=5", "max-age=5, no-store", "no-cache, no-store", "no-store,only-if-cached", "x=\",\",no-store"} {
			asks(t, false, false, name+":"+value)
			asks(t, false, false, "Host:a", name+":x", name+":"+value)
		}
		for _, value := range []string{"no-cache", "NO-cache", "no-cache=x", "max-age=0, no-cache", "only-if-cached", "Only-If-Cached", "max-stale, only-if-cached", "no-cache, only-if-cached"} {
			asks(t, true, false, name+":"+value)
			asks(t, true, false, "Host:a", name+":max-age=5", name+":"+value)
			asks(t, false, false, name+":no-store", name+":"+value)
		}
		for _, value := range []string{"", "x", "max-age=0", "min-fresh=5", "max-stale", "public, private, must-revalidate", "no-storex", "nostore", "x-no-store", "\"no-store\"", "x=\"no-store, no-cache\"", "no store", "no-cach", "only-if", "no-store=", "no-cache=\"", "no-transform"} {
			asks(t, true, true, name+":"+value)
		}
	}
	for _, value := range []string{"no-cache", "x, NO-CACHE"} {
		asks(t, true, false, "Pragma:"+value)
		asks(t, true, true, "Pragma:"+value, "Cache-Control:")
		asks(t, true, true, "Pragma:no-store", "Cache-Control:max-age=1")
	}
}

// P18.1: which texts are tags: each byte in one, and forms that are none.
func TestTag(t *testing.T) {
	for n := range 256 {
		c := string([]byte{byte(n)})
		in := n == 0x21 || 0x23 <= n && n <= 0x7e || n >= 0x80
		for _, weak := range []string{"", "W/"} {
			tagged(t, weak+"\""+c+"\"", in)
			tagged(t, weak+"\"a"+c+"\"", in)
			tagged(t, weak+"\""+c+"a\"", in)
			tagged(t, weak+"\"a"+c+"b\xff\"", in)
			tagged(t, weak+"\"a\""+c, false)
			tagged(t, weak+"\"a"+c, n == '"')
			tagged(t, weak+c+"a\"", n == '"')
			tagged(t, c+weak+"\"a\"", false)
			tagged(t, weak+c, false)
		}
		tagged(t, "W"+c+"\"a\"", n == '/')
		tagged(t, c+"/\"a\"", n == 'W')
		tagged(t, "W/"+c+"\"a\"", false)
	}
	for value, is := range map[string]bool{
		"\"\"": true, "W/\"\"": true, "\"W/\"": true, "W/\"W/\"": true, "\"!#~\x80\xff\"": true, "\"\\\"": true, "\"a,b\"": true, "\"'\"": true, "\"\xc3\"": true, "\"é\"": true, "\"*\"": true, "\"" + strings.Repeat("a", 500) + "\"": true,
		"": false, "\"": false, "W/": false, "W/\"": false, "W": false, "/": false, "a": false, "*": false, "\"\"\"": false, "\"\"\"\"": false, "w/\"a\"": false, "W\"a\"": false, "W/W/\"a\"": false, "W/ \"a\"": false, " \"a\"": false, "\"a\" ": false, "\"a\",": false, "\"a\", \"b\"": false, "\"a\"\"b\"": false, "\"a\x7f\"": false, "\"\\\"\"": false, "'a'": false, "\"a": false, "a\"": false, "\x00\"\"": false, "\"a\x00\"": false, "\"a b\"": false, "\"a\tb\"": false, "\u201ca\u201d": false, "W\uff0f\"a\"": false,
	} {
		tagged(t, value, is)
		for _, other := range []string{value, "\"a\"", "", "x"} { // two fields etag
			tag(t, fields("ETag:"+value, "Etag:"+other), "", false)
			tag(t, fields("etag:"+other, "X:y", "ETAG:"+value), "", false)
			tag(t, fields("etag:"+other, "ETag:\"z\"", "ETAG:"+value), "", false)
		}
	}
	for _, s := range []string{"\"ab\"", "W/\"a\""} {
		sample.Anywhere(s, func(value string) {
			want, is := modelTag([]api.Field{{Name: "etag", Value: value}})
			tag(t, []api.Field{{Name: "ETag", Value: value}}, want, is)
		})
	}
	for _, name := range unlike {
		tag(t, fields(name+":\"a\""), "", false)
		tag(t, fields(name+":\"a\"", "ETag:\"b\""), "\"b\"", true)
	}
	tag(t, nil, "", false)
	tag(t, []api.Field{{}}, "", false)
}

// P18.2: methods, and the request's fields.
func TestMayRequest(t *testing.T) {
	x := response("Cache-Control:max-age=5")
	for i, method := range methods {
		stores(t, method, nil, x, i == 0)
		stores(t, method, fields("Host:a"), response("ETag:\"a\"", "Cache-Control:public"), i == 0)
	}
	sample.Anywhere("GET", func(s string) { stores(t, s, nil, x, s == "GET") })
	for _, l := range [][]api.Field{{}, {{}}, fields("Host:a", "Accept:b", "Connection:age, cache-control, close", "Vary:*", "Proxy-Authorization:c", "Pragma:no-cache"), fields("Cache-Control:no-cache, only-if-cached, private, max-age=0, x")} {
		stores(t, "GET", l, x, true)
	}
	for _, name := range cased("cache-control") {
		for _, value := range []string{"no-store", "NO-STORE", "max-age=5, No-Store=x"} {
			stores(t, "GET", fields(name+":"+value), x, false)
			stores(t, "GET", fields("A:b", name+":public", name+":"+value), x, false)
			stores(t, "GET", fields("Pragma:"+value, "X-"+name+":"+value, name+":x=\""+value+"\""), x, true)
		}
	}
}

// P18.2: each status there may be, and others.
func TestMayStatus(t *testing.T) {
	for _, l := range [][]api.Field{fields("Cache-Control:max-age=5"), fields("Expires:0"), fields("ETag:\"a\""), fields("Last-Modified:" + changed), fields("Date:"+changed, "Last-Modified:"+earlier)} {
		for status := -20; status < 1100; status++ {
			stores(t, "GET", nil, api.Response{Status: status, Fields: l}, slices.Contains(may, status))
		}
		for _, status := range []int{least, least + 200, -200, 1 << 16, 200 + 1<<32, 200 + 1<<16, math.MaxInt32, most} {
			stores(t, "GET", nil, api.Response{Status: status, Fields: l}, false)
		}
	}
}

// P18.2: what a response's control forbids, and what it admits with authorization.
func TestMayControl(t *testing.T) {
	said := map[string]bool{"no-store": false, "private": false, "NO-STORE": false, "Private": false, "private=\"x\"": false, "no-store=x": false, "public, private": false, "private, s-maxage=5": false, "no-store, must-revalidate, public": false,
		"": true, "no-cache": true, "no-cache=\"etag\"": true, "no-storex": true, "x-private": true, "\"private\"": true, "x=\"private, no-store\"": true, "only-if-cached": true, "no-transform, immutable": true, "private=\"": true}
	for _, name := range cased("cache-control") {
		for value, want := range said {
			told(t, want, "ETag:\"a\"", name+":"+value)
			told(t, want, name+":max-age=5", name+":"+value, "X:y")
			told(t, want, "Last-Modified:"+changed, name+":"+value, name+":x")
			told(t, true, "ETag:\"a\"", "X-"+name+":"+value, "Pragma:"+value)
		}
	}
	for value, want := range map[string]bool{
		"public": true, "PUBLIC": true, "must-revalidate": true, "Must-Revalidate": true, "proxy-revalidate": true, "s-maxage=0": true, "s-maxage=5": true, "S-MaxAge=99999999999": true, "s-maxage": true, "s-maxage=x": true, "max-age=0, public=x": true,
		"": false, "max-age=5": false, "max-age=5, no-cache": false, "x": false, "publi": false, "publics": false, "must": false, "revalidate": false, "s-max-age=5": false, "maxage=5": false, "min-fresh=5": false, "max-stale=5": false, "public, private": false, "s-maxage=5, private": false, "public, no-store": false, "s-maxage=\"": false,
	} {
		for _, name := range cased("authorization") {
			for _, own := range []string{"", "Basic x"} {
				x := response("ETag:\"a\"", "Cache-Control:"+value)
				stores(t, "GET", fields(name+":"+own), x, want)
				stores(t, "GET", fields("Host:a", name+":"+own, name+":b"), x, want)
				stores(t, "GET", fields("Proxy-"+name+":"+own, "X:"+name), x, !strings.Contains(value, ", private") && !strings.Contains(value, "no-store"))
				x.Fields = append(x.Fields, api.Field{Name: name, Value: "y"}) // that of the response does not matter
				stores(t, "GET", fields("X:"+own), x, !strings.Contains(value, ", private") && !strings.Contains(value, "no-store"))
			}
		}
	}
}

// P18.2: a star in vary.
func TestMayVary(t *testing.T) {
	for value, want := range map[string]bool{"*": false, "a, *": false, "*, a": false, ",*,": false, " * ": false, "*,*": false, "": true, "a": true, "a*": true, "**": true, "\"*\"": true, "accept, accept-language": true, "cookie": true, "\"a,*\"": true, "etag, cache-control": true} {
		for _, name := range cased("vary") {
			told(t, want, "ETag:\"a\"", name+":"+value)
			told(t, want, "Cache-Control:max-age=5", name+":a", "X:y", name+":"+value)
			told(t, true, "ETag:\"a\"", "X-"+name+":"+value)
		}
	}
}

// P18.2: connection that names a name for all, and one that does not.
func TestMayConnection(t *testing.T) {
	forAll := []string{"age", "authorization", "cache-control", "content-encoding", "content-location", "content-range", "content-type", "date", "etag", "expires", "host", "if-match", "if-modified-since", "if-none-match", "if-range", "if-unmodified-since", "last-modified", "location", "pragma", "range", "vary", "via"}
	for _, name := range cased("connection") {
		for _, all := range forAll {
			for _, one := range cased(all) {
				for _, value := range []string{one, "close, " + one, one + ",x", " ,\t" + one + "\t,", one + "," + one} {
					told(t, false, "ETag:\"a\"", name+":"+value)
				}
				told(t, false, "Cache-Control:max-age=5", name+":close", name+":"+one)
				for _, value := range []string{"x" + one, one + "x", one + "=1", "\"" + one + "\"", "\"a," + one + "\"", one + " x", one + ";"} {
					told(t, true, "ETag:\"a\"", name+":"+value)
				}
				told(t, true, "ETag:\"a\"", "Proxy-"+name+":"+one, "X:"+one)
			}
		}
		for _, value := range []string{"", "close", "keep-alive", "x, y", "te", "connection", "transfer-encoding", "content-length", "proxy-authorization", "upgrade", "set-cookie", "user-agent"} {
			told(t, true, "ETag:\"a\"", name+":"+value)
		}
	}
}

// P18.2: what says that it lives 0 seconds, lives some time without saying so, has a tag alone, a change alone, and what has nothing.
func TestMayLives(t *testing.T) {
	for _, lines := range [][]string{
		{"Cache-Control:max-age=0"}, {"Cache-Control:max-age"}, {"Cache-Control:max-age=x"}, {"Cache-Control:s-maxage=0"}, {"Cache-Control:max-age=5"}, {"Expires:0"}, {"Expires:"}, {"expires:" + changed}, {"EXPIRES:x", "Expires:y"}, {"Expires:" + changed, "Date:" + earlier},
		{"Date:" + changed, "Last-Modified:" + earlier}, {"ETag:\"\""}, {"etag:W/\"a\""}, {"Last-Modified:" + changed}, {"LAST-modified:" + changed, "Date:" + changed}, {"Last-Modified:" + changed, "Date:" + earlier}, {"Last-Modified:" + changed, "ETag:x"}, {"Last-Modified:x", "ETag:\"a\""}, {"ETag:\"a\"", "Last-Modified:" + changed, "Last-Modified:" + changed},
	} {
		told(t, true, lines...)
		told(t, true, append(lines, "X:y", "Date:"+changed)...)
		told(t, false, append(lines, "Cache-Control:private")...)
		for _, status := range may {
			stores(t, "GET", nil, api.Response{Status: status, Fields: fields(lines...)}, true)
		}
	}
	for _, lines := range [][]string{
		nil, {":"}, {"X:y"}, {"Date:" + changed}, {"Age:5"}, {"Cache-Control:"}, {"Cache-Control:public"}, {"Cache-Control:must-revalidate, no-cache"}, {"Cache-Control:min-fresh=5, max-stale=5, maxage=5"}, {"Pragma:max-age=5"},
		{"ETag:a"}, {"ETag:"}, {"ETag:\"a\"", "etag:\"a\""}, {"Last-Modified:"}, {"Last-Modified:x"}, {"Last-Modified:0"}, {"Last-Modified:" + changed, "LAST-MODIFIED:" + changed}, {"Last-Modified:" + changed, "last-modified:" + earlier, "Date:" + changed}, {"Last-Modified:" + changed + " "}, {"Last-Modified:Mon, 06 Nov 1994 08:49:37 GMT"}, {"Last-Modified:\"a\""}, {"If-None-Match:\"a\""},
	} {
		told(t, false, lines...)
		told(t, true, append(lines, "Cache-Control:max-age=0")...)
		told(t, true, append(lines, "Expires:0")...)
	}
	for _, name := range unlike {
		told(t, false, name+":\"a\"")
		told(t, false, name+":"+changed)
		told(t, false, "Date:"+changed, name+":max-age=5")
	}
}

// P18.3: with both, with one, with none; in this order.
func TestConditions(t *testing.T) {
	own := map[string][]api.Field{}
	for _, value := range []string{"\"\"", "\"x\"", "W/\"y\"", "\"\xff\""} {
		own["ETag:"+value] = fields("If-None-Match:" + value)
	}
	for _, value := range []string{"", "x", "*", "\"", "\"a", "\"a\" "} {
		own["ETag:"+value] = nil
	}
	changes := map[string][]api.Field{}
	for _, value := range []string{changed, earlier, "Thu, 01 Jan 1970 00:00:00 GMT", "Fri, 31 Dec 9999 23:59:59 GMT"} {
		changes["Last-Modified:"+value] = fields("If-Modified-Since:" + value)
	}
	for _, value := range []string{"", "x", "0", changed + " ", " " + changed, strings.ToLower(changed), "Mon, 06 Nov 1994 08:49:37 GMT", "Sunday, 06-Nov-94 08:49:37 GMT", "Wed, 31 Dec 1969 23:59:59 GMT", "Sat, 01 Jan 10000 00:00:00 GMT", changed + ", " + changed} {
		changes["Last-Modified:"+value] = nil
	}
	for tag, one := range own {
		conditions(t, fields(tag), one...)
		conditions(t, fields(tag, tag))
		conditions(t, fields("X:y", strings.ToUpper(tag[:4])+tag[4:], "If-None-Match:\"b\"", "Vary:*"), one...)
		for change, other := range changes {
			both := append(slices.Clone(one), other...)
			conditions(t, fields(tag, change), both...)
			conditions(t, fields(change, tag), both...)
			conditions(t, fields(change, tag, "last-MODIFIED:"+changed), one...)
			conditions(t, fields(tag, "Date:"+changed, change, "etag:\"b\""), other...)
		}
	}
	for change, one := range changes {
		for _, name := range cased("last-modified") {
			conditions(t, fields(name+change[len(name):]), one...)
			conditions(t, fields("X:y", name+change[len(name):], "If-Modified-Since:"+changed, "Date:"+changed), one...)
		}
	}
	for _, name := range unlike {
		conditions(t, fields(name+":\"a\"", name+":"+changed))
	}
	conditions(t, nil)
	conditions(t, []api.Field{{}})
	sample.Anywhere(changed, func(s string) {
		l := []api.Field{{Name: "Last-Modified", Value: s}}
		conditions(t, l, modelConditions(l)...)
	})
}

// P18.4: a life that is above the age, just the age, below it.
func TestReuseLife(t *testing.T) {
	for _, life := range []string{"Cache-Control:max-age=10", "Cache-Control:s-maxage=10", "Cache-Control:max-age=3, s-maxage=10", "CACHE-control:private, no-store, max-age=10"} {
		for now, serves := range map[uint64]bool{0: true, 1000: true, 6000: true, 10000: true, 10999: true, 11000: false, 11001: false, 12000: false, 1e12: false, math.MaxUint64: false} {
			reused(t, none, now, serves, life)
			reused(t, none, now, serves && now < 8000, life, "Age:3")
			reused(t, none, now, false, life, "Age:10")
		}
	}
	e := entry("Date:"+changed, "Last-Modified:"+earlier) // it lives 6 seconds, without saying so
	e.Asked, e.Came = at, at
	for now, want := range map[uint64]int{0: Serve, at: Serve, at + 5999: Serve, at + 6000: Validate, at + 6001: Validate, math.MaxUint64: Validate} {
		reuse(t, e, none, now, want)
	}
	e.Response.Status = 500
	reuse(t, e, none, at, Validate)
	for _, lines := range [][]string{nil, {"Cache-Control:max-age=0"}, {"Expires:0"}, {"Cache-Control:public"}, {"Age:0"}} {
		reused(t, none, 1000, false, lines...)
		reused(t, none, 0, false, lines...)
		reused(t, maxStale(0), 1000, true, lines...)
		reused(t, maxStale(0), 1999, true, lines...)
		reused(t, maxStale(0), 2000, false, lines...)
	}
	reuse(t, api.Entry{}, none, 0, Miss)
	reuse(t, api.Entry{}, api.Control{}, 0, Serve) // its MaxStale is 0
	reuse(t, entry("ETag:\"a\""), api.Control{MaxStale: unsaid}, 1000, Validate)
}

// P18.4: no-cache in the request and in the response.
func TestReuseNoCache(t *testing.T) {
	no := asked(func(c *api.Control) { c.NoCache = true })
	for _, now := range []uint64{0, 1000, 5000, 10999, 11000, math.MaxUint64} {
		reused(t, no, now, false, "Cache-Control:max-age=10")
		no.MaxStale = most
		reused(t, no, now, false, "Cache-Control:max-age=10")
		no.MaxStale = unsaid
		for _, value := range []string{"no-cache", "NO-CACHE", "no-cache=\"etag\"", "public, No-Cache=x"} {
			reused(t, none, now, false, "Cache-Control:max-age=10, "+value)
			reused(t, none, now, false, "cache-CONTROL:"+value, "Cache-Control:max-age=10")
			reused(t, maxStale(most), now, false, "Cache-Control:"+value, "Expires:0")
		}
		for _, value := range []string{"no-store", "private", "public", "only-if-cached", "no-cach", "x=\"no-cache\"", "must-revalidate", "min-fresh=99", "max-stale=0"} {
			reused(t, none, now, now < 11000, "Cache-Control:max-age=10, "+value, "Pragma:no-cache")
		}
	}
	other := api.Control{NoStore: true, Private: true, Public: true, Must: true, Only: true, MaxAge: unsaid, Shared: 0, MinFresh: unsaid, MaxStale: unsaid}
	reused(t, other, 5000, true, "Cache-Control:max-age=10")
	reused(t, other, 11000, false, "Cache-Control:max-age=10")
	other.MaxStale = 5
	reused(t, other, 11000, true, "Cache-Control:max-age=10") // what c says of must and shared does not matter
}

// P18.4: max-age, min-fresh and max-stale of just the age, the life, and one off.
func TestReuseNumbers(t *testing.T) {
	const ten = "Cache-Control:max-age=10"
	for age := range 14 {
		now := uint64(1000 + 1000*age)
		for n := -3; n < 20; n++ {
			for _, off := range []uint64{0, 999} {
				reused(t, maxAge(n), now+off, age < 10 && (n < 0 || age <= n), ten)
				reused(t, minFresh(n), now+off, age < 10 && (n < 0 || 10 >= age+n), ten)
				reused(t, maxStale(n), now+off, age < 10 || n >= 0 && age <= 10+n, ten)
				for _, more := range []string{"must-revalidate", "proxy-revalidate", "MUST-revalidate=x", "s-maxage=10"} {
					reused(t, maxStale(n), now+off, age < 10, ten+", "+more)
				}
				for _, more := range []string{"public", "private", "max-stale", "min-fresh=50", "no-store", "s-max-age=10", "must"} {
					reused(t, maxStale(n), now+off, age < 10 || n >= 0 && age <= 10+n, ten+", "+more)
				}
			}
		}
		all := api.Control{MaxAge: 5, MinFresh: 7, MaxStale: 4}
		reused(t, all, now, age <= 3, ten)
		all.MinFresh = 0
		reused(t, all, now, age <= 5, ten)
		all.MaxAge = 12
		reused(t, all, now, age <= 10, ten) // min-fresh of 0 wants a life of the age at least
		all.MinFresh = unsaid
		reused(t, all, now, age <= 12, ten)
	}
}

// P18.4, R1: controls of any numbers, with which nothing goes round.
func TestReuseAny(t *testing.T) {
	numbers := []int{least, least + 1, -(1 << 32), -(1 << 31), -5, -2, -1, 0, 1, 4, 5, 6, 10, 1<<31 - 10, 1<<31 - 6, 1<<31 - 5, 1<<31 - 1, 1 << 31, 1<<31 + 1, 1 << 32, most - 1<<31, most - 5, most - 1, most}
	lives := []string{"X:y", "Cache-Control:max-age=5", "Cache-Control:max-age=2147483647", "Cache-Control:max-age=5, must-revalidate", "Cache-Control:s-maxage=2147483647"}
	moments := []uint64{0, 1000, 6000, 11000, 1000 * (1<<31 - 5), 1000 * (1<<31 - 1), 1000 << 31, 1001 + 1000<<31, 1 << 63, math.MaxUint64}
	for _, a := range numbers {
		for _, b := range numbers {
			for _, life := range lives {
				for _, now := range moments {
					for _, c := range []api.Control{{MaxAge: a, MinFresh: b, MaxStale: -1}, {MaxAge: a, MinFresh: -1, MaxStale: b}, {MaxAge: -1, MinFresh: a, MaxStale: b}} {
						reuseAsModel(t, entry(life, "ETag:\"a\""), c, now)
					}
				}
			}
		}
	}
	reuse(t, entry("Cache-Control:max-age=5"), minFresh(most), 0, Miss)
	reuse(t, entry("Cache-Control:max-age=5"), maxStale(most), math.MaxUint64, Serve)
	reuse(t, entry("Cache-Control:max-age=5"), maxStale(1<<31-5), math.MaxUint64, Serve)
	reuse(t, entry("Cache-Control:max-age=5"), maxStale(1<<31-6), math.MaxUint64, Miss)
	reuse(t, entry("Cache-Control:max-age=5"), maxAge(1<<31-1), math.MaxUint64, Miss)
}

// P18.5: with more fields of Cache-Control nothing becomes Serve that was none, but by max-stale. What says no life yet, and what pragma says, are aside: there P18.4 has it that a field may make it live, and that pragma counts no more.
func TestMoreControl(t *testing.T) {
	values := []string{"", "x", "no-cache", "no-store", "private", "public", "must-revalidate", "proxy-revalidate", "only-if-cached", "max-age=0", "max-age=3", "max-age=7", "max-age=50", "min-fresh=0", "min-fresh=4", "min-fresh=50", "no-cache, max-age=9, x"}
	for _, first := range append(values, "max-stale=3, max-age=5", "max-stale") {
		for _, second := range append(values, "max-stale=2") {
			was, is := fields("Host:a", "Cache-Control:"+first), fields("Host:a", "Cache-Control:"+first, "cache-control:"+second)
			own := control.Request(was)
			for now := uint64(0); now < 16000; now += 500 {
				for _, life := range []string{"Cache-Control:max-age=10", "Cache-Control:s-maxage=6", "Cache-Control:max-age=8, must-revalidate", "Expires:0"} {
					e := entry(life, "ETag:\"a\"")
					if Reuse(e, own, now) != Serve && Reuse(e, control.Request(is), now) == Serve && own.MaxStale < 0 && !strings.Contains(second, "max-stale") {
						t.Errorf("%s, with %q more, at %d: served", shown(was), second, now)
					}
				}
				for _, c := range []api.Control{none, maxAge(4), minFresh(2), maxStale(2)} {
					e, more := entry("Cache-Control:max-age=9, "+first), entry("Cache-Control:max-age=9, "+first, "cache-control:"+second)
					if Reuse(e, c, now) != Serve && Reuse(more, c, now) == Serve {
						t.Errorf("%s, with %q more, %+v, at %d: served", shown(e.Response.Fields), second, c, now)
					}
				}
			}
		}
	}
	if c := control.Request(fields("Pragma:no-cache", "Cache-Control:")); Reuse(entry("Cache-Control:max-age=9"), c, 2000) != Serve {
		t.Error("pragma counts beside cache-control")
	}
	reuse(t, entry("Expires:0"), none, 2000, Miss)
	reuse(t, entry("Expires:0", "Cache-Control:max-age=9"), none, 2000, Serve)
}

// P18.5: as time goes on nothing becomes Serve again. P18.7: what is served without control is fresh.
func TestTimeGoesOn(t *testing.T) {
	for _, lines := range [][]string{{"Cache-Control:max-age=4"}, {"Cache-Control:s-maxage=4", "ETag:\"a\""}, {"Age:2", "Cache-Control:max-age=6, must-revalidate"}, {"Date:Thu, 01 Jan 1970 00:00:01 GMT", "Expires:Thu, 01 Jan 1970 00:00:06 GMT", "Last-Modified:x"}, {"Cache-Control:max-age=0", "Last-Modified:" + changed}} {
		e := entry(lines...)
		e.Asked, e.Came = 1700, 2345
		for _, c := range []api.Control{none, maxAge(3), minFresh(2), maxStale(1), {MaxAge: 5, MinFresh: 0, MaxStale: 9}} {
			was := Serve
			for now := range uint64(6000) {
				is := Reuse(e, c, now)
				if is == Serve && was != Serve || is != modelReuse(e, c, now) {
					t.Fatalf("%s; %+v; %d: %d, ahead of that %d", shown(e.Response.Fields), c, now, is, was)
				}
				if c == none && (is == Serve) != fresh.Fresh(e, now) {
					t.Fatalf("%s; %d: %d, but fresh: %v", shown(e.Response.Fields), now, is, fresh.Fresh(e, now))
				}
				was = is
			}
		}
	}
}

// P18.1 to P18.4: all short rows of fields that matter.
func TestShort(t *testing.T) {
	lines := fields("Cache-Control:max-age=7", "CACHE-control:s-maxage=0", "cache-control:private", "Cache-Control:public, no-cache", "ETag:\"a\"", "etag:W/\"b\"", "Last-Modified:"+changed, "last-MODIFIED:x", "Vary:a, *", "Connection:x, Date", "Expires:0", "Authorization:x", "Range:x", "X:y")
	sample.Rows(lines, 3, func(l []api.Field) {
		x := api.Response{Status: 200, Fields: l}
		storesAsModel(t, "GET", l[len(l)/2:], api.Response{Status: 404, Fields: l[:len(l)/2]})
		storesAsModel(t, "GET", nil, x)
		storesAsModel(t, "GET", fields("Authorization:x"), x)
		requestAsModel(t, api.Request{Method: "GET", Fields: l})
		conditions(t, l, modelConditions(l)...)
		for _, now := range []uint64{1000, 7999, 8000} {
			reuseAsModel(t, api.Entry{Asked: 1000, Came: 1000, Response: x}, none, now)
			reuseAsModel(t, api.Entry{Asked: 1000, Came: 1000, Response: x}, maxStale(0), now)
		}
	})
}

// P18.1 to P18.7: by lot, though the same in each run.
func TestLots(t *testing.T) {
	lot := rand.New(rand.NewSource(18))
	one := func(l []string) string { return l[lot.Intn(len(l))] }
	number := func() int {
		switch lot.Intn(4) {
		case 0:
			return unsaid
		case 1:
			return int(lot.Uint64()) >> lot.Intn(64)
		}
		return lot.Intn(20)
	}
	fieldsOf := func(most int, lines ...string) []api.Field {
		var l []api.Field
		for range lot.Intn(most + 1) {
			f := fields(one(lines))[0]
			f.Name = cased(f.Name)[lot.Intn(3)]
			l = append(l, f)
		}
		return l
	}
	said := []string{"Cache-Control:max-age=5", "Cache-Control:max-age=9, no-cache", "Cache-Control:max-age=3", "Cache-Control:s-maxage=8", "Cache-Control:public", "Cache-Control:must-revalidate", "Cache-Control:private", "Cache-Control:no-store", "ETag:\"a\"", "ETag:W/\"b\xff\"", "ETag:x", "Last-Modified:" + changed, "Last-Modified:" + earlier, "Last-Modified:0", "Date:" + changed, "Expires:" + changed, "Age:2", "Vary:a", "Vary:*", "Connection:close", "Connection:etag", "X:y"}
	wants := []string{"Host:a", "Accept:b", "X:y", "Authorization:c", "Cache-Control:max-age=4", "Cache-Control:no-cache", "Cache-Control:no-store", "Cache-Control:only-if-cached", "Cache-Control:max-stale=3", "Pragma:no-cache", "Cookie:d", "If-None-Match:\"a\"", "Range:e", one(unlike) + ":f"}
	became, stored, shared, kept := map[int]int{}, map[bool]int{}, map[bool]int{}, map[bool]int{}
	for range 8000 {
		r := api.Request{Method: one([]string{"GET", "GET", "HEAD", one(methods)}), Fields: fieldsOf(4, wants...)}
		if lot.Intn(8) == 0 {
			r.Body = []byte("b")
		}
		requestAsModel(t, r)
		plain(t, r.Fields, modelPlain(r.Fields))
		x := api.Response{Status: append(may, 206, 302, 304, 500, lot.Intn(1000))[lot.Intn(len(may)+5)], Fields: fieldsOf(6, said...)}
		storesAsModel(t, "GET", r.Fields, x)
		storesAsModel(t, r.Method, r.Fields, x)
		conditions(t, x.Fields, modelConditions(x.Fields)...)
		e := api.Entry{Asked: uint64(lot.Intn(3000)), Came: uint64(lot.Intn(6000)), Response: x}
		c := api.Control{NoCache: lot.Intn(8) == 0, MaxAge: number(), MinFresh: number(), MaxStale: number()}
		now := uint64(lot.Intn(15000))
		for _, c := range []api.Control{c, none, control.Request(r.Fields)} {
			reuseAsModel(t, e, c, now)
		}
		became[Reuse(e, c, now)]++
		stored[Stored(r)]++
		shared[Shares(r)]++
		kept[May("GET", r.Fields, x)]++
	}
	if min(became[Miss], became[Validate], became[Serve], stored[true], stored[false], shared[true], shared[false], kept[true], kept[false]) < 500 {
		t.Error(became, stored, shared, kept)
	}
}

// R1: long values, and many fields.
func TestLong(t *testing.T) {
	const n = 1 << 12
	for _, part := range []string{"a", "\"", "\\", ",", " ", "W/", "\xff", "\x00", "é", "no-store,", "*,", "x,"} {
		long := strings.Repeat(part, n)
		for _, name := range []string{"etag", "last-modified", "cache-control", "vary", "connection", "range", long} {
			l := fields("X:y", name+":"+long, "Expires:0")
			x := api.Response{Status: 200, Fields: l}
			storesAsModel(t, "GET", l, x)
			storesAsModel(t, "GET", nil, x)
			requestAsModel(t, api.Request{Method: "GET", Fields: l})
			requestAsModel(t, api.Request{Method: long, Fields: l})
			conditions(t, l, modelConditions(l)...)
			reuseAsModel(t, api.Entry{Response: x}, none, 5)
		}
		tagged(t, "\""+long+"\"", part != "\"" && part != " " && part != "\x00")
	}
	for _, line := range []string{"ETag:\"a\"", "Last-Modified:" + changed, "Cache-Control:max-age=5", "Vary:a", "Connection:x", "Accept:y", ":"} {
		l := fields(slices.Repeat([]string{line}, n)...)
		x := api.Response{Status: 200, Fields: l}
		storesAsModel(t, "GET", l, x)
		requestAsModel(t, api.Request{Method: "GET", Fields: l, Body: make([]byte, n*(n%2))})
		conditions(t, l, modelConditions(l)...)
		reuseAsModel(t, api.Entry{Response: x}, none, 5)
	}
}

// R3: what is handed in stays as it is, room behind it too.
func TestOnlyRead(t *testing.T) {
	made := func() []api.Field {
		return fields("ETAG:\"a\"", "Last-MODIFIED:"+changed, "CACHE-Control:MAX-age=5", "VARY:Accept", "CONNECTION:x, Close", "X:y")
	}
	l := append(make([]api.Field, 0, 16), made()...)
	r := api.Request{Method: "GET", Target: "http://a/", Fields: l}
	e := api.Entry{URL: "http://a/", Wanted: fields("accept:b"), Response: api.Response{Status: 200, Fields: l, Body: []byte("body")}}
	for range 2 {
		request(t, r, true, true)
		plain(t, l, true)
		stores(t, "GET", l, e.Response, true)
		conditions(t, l, fields("If-None-Match:\"a\"", "If-Modified-Since:"+changed)...)
		reuse(t, e, none, 1000, Serve)
		reuse(t, e, none, 5000, Validate)
	}
	if !slices.Equal(l, made()) || slices.ContainsFunc(l[len(l):cap(l)], func(f api.Field) bool { return f != api.Field{} }) {
		t.Error(shown(l[:cap(l)]))
	}
	if e.URL != "http://a/" || !slices.Equal(e.Wanted, fields("accept:b")) || string(e.Response.Body) != "body" || r.Method != "GET" || r.Target != "http://a/" {
		t.Error(e, r)
	}
}

// R3: what is answered is new memory.
func TestNewMemory(t *testing.T) {
	e := entry("ETag:\"abc\"", "Last-Modified:"+changed)
	first, second := Conditions(e), Conditions(e)
	second[0], second[1] = api.Field{}, api.Field{}
	_ = append(first[:1], api.Field{Name: "Z"})
	conditions(t, e.Response.Fields, fields("If-None-Match:\"abc\"", "If-Modified-Since:"+changed)...)
	tag, _ := Tag(e.Response.Fields)
	for _, s := range []string{tag, Conditions(e)[0].Value, Conditions(e)[1].Value} {
		for _, f := range e.Response.Fields {
			if unsafe.StringData(s) == unsafe.StringData(f.Value) {
				t.Errorf("%s is a piece of what was handed in", strconv.Quote(s))
			}
		}
	}
}
