package hop

import (
	"math"
	"math/rand"
	"regexp"
	"slices"
	"strings"
	"testing"
	"unsafe"

	"tollhouse/api"
	"tollhouse/sample"
)

// The names, as the chapter has them, in its order.
var (
	ofOneHop = strings.Split("connection, keep-alive, proxy-connection, proxy-authenticate, proxy-authorization, te, trailer, transfer-encoding, upgrade", ", ")
	forAll   = strings.Split("age, authorization, cache-control, content-encoding, content-location, content-range, content-type, date, etag, expires, host, if-match, if-modified-since, if-none-match, if-range, if-unmodified-since, last-modified, location, pragma, range, vary, via", ", ")
)

// others are names that are neither, some of them only like those; but for all that connection may name them.
var others = []string{
	"x", "X-One", "close", "content-length", "cookie", "accept", "expect", "proxy", "forwarded", "warning", "server", "", " ", "*", "\"age\"", "age ", " age", "te:", "connection,", "\u017f",
	"connections", "connectio", "onnection", "connection-", "keepalive", "keep_alive", "proxy-authentication-info", "t", "tee", "trailers", "transfer-encodings", "upgrades",
	"ages", "ag", "cache-controls", "content-", "content-md5", "dates", "e-tag", "expire", "hosts", "hos", "ho\u017ft", "if-", "if-matches", "if-none", "lastmodified", "locations", "ranges", "vari", "vias", "vi", "v\u0130a", "\u0130f-match",
}

// What these tests try, and show, is made as other layers' tests make it.
var (
	cased  = sample.Cased
	fields = sample.Fields
	shown  = sample.ShownFields
)

// The model below says what the chapter says by regular expressions, which the package has none of.
var (
	capitals = regexp.MustCompile(`[A-Z]`)
	partForm = regexp.MustCompile(`(?:"(?:\\(?s:.)|[^"\\])*(?:"|\\?\z)|[^,"])+`)
	loopForm = regexp.MustCompile(`^[^ \t]+[ \t]+tollhouse([ \t]|\z)`)
)

func small(s string) string { return capitals.ReplaceAllStringFunc(s, strings.ToLower) }

func modelElements(l []api.Field, name string) []string {
	var all []string
	for _, f := range l {
		if small(f.Name) != small(name) {
			continue
		}
		for _, part := range partForm.FindAllString(f.Value, -1) {
			if part = strings.Trim(part, "\x20\x09"); part != "" {
				all = append(all, part)
			}
		}
	}
	return all
}

func modelForAll(name string) bool { return slices.Contains(forAll, small(name)) }

// modelGone is the names of one hop in l, with small letters.
func modelGone(l []api.Field) []string {
	gone := slices.Clone(ofOneHop)
	for _, s := range modelElements(l, "connection") {
		if !modelForAll(s) {
			gone = append(gone, small(s))
		}
	}
	return gone
}

func modelStrip(l []api.Field) []api.Field {
	gone := modelGone(l)
	return slices.DeleteFunc(slices.Clone(l), func(f api.Field) bool { return slices.Contains(gone, small(f.Name)) })
}

func modelLoops(l []api.Field) bool {
	return slices.ContainsFunc(modelElements(l, "via"), func(s string) bool { return loopForm.MatchString(small(s)) })
}

func modelCloses(minor int, l []api.Field) bool {
	asked := map[string]bool{}
	for _, s := range modelElements(l, "connection") {
		asked[small(s)] = true
	}
	return asked["close"] || !asked["keep-alive"] && minor == 0
}

func tellsElements(t *testing.T, l []api.Field, name string, want ...string) {
	t.Helper()
	ahead := slices.Clone(l)
	if got := Elements(l, name); !slices.Equal(got, want) {
		t.Errorf("Elements(%s, %s): %q; want %q", shown(l), sample.Shown(name), got, want)
	}
	if !slices.Equal(l, ahead) {
		t.Errorf("Elements(%s, %s): the list is %s now", shown(ahead), sample.Shown(name), shown(l))
	}
}

// strips checks what Strip tells, and what follows of it (P11.4).
func strips(t *testing.T, l, want []api.Field) {
	t.Helper()
	ahead := slices.Clone(l)
	got := Strip(l)
	if !slices.Equal(got, want) {
		t.Errorf("Strip(%s): %s; want %s", shown(l), shown(got), shown(want))
	}
	if !slices.Equal(l, ahead) {
		t.Errorf("Strip(%s): the list is %s now", shown(ahead), shown(l))
	}
	if again := Strip(got); !slices.Equal(again, got) {
		t.Errorf("Strip(%s): %s; and stripped again %s", shown(l), shown(got), shown(again))
	}
	gone := append(modelGone(l), modelGone(got)...)
	for _, f := range got {
		if slices.Contains(gone, small(f.Name)) {
			t.Errorf("Strip(%s): %s has %q", shown(l), shown(got), f.Name)
		}
	}
	stays := func(f api.Field) bool { return !ForAll(f.Name) }
	if !slices.Equal(slices.DeleteFunc(ahead, stays), slices.DeleteFunc(got, stays)) {
		t.Errorf("Strip(%s): of the names for all not each stays, or not in order", shown(l))
	}
}

// loops checks what Loops tells of a list, and (P11.2, P11.5) what Via makes of it, and Loops of that.
func loops(t *testing.T, l []api.Field, want bool) {
	t.Helper()
	ahead := slices.Clone(l)
	if Loops(l) != want {
		t.Errorf("Loops(%s): %v", shown(l), !want)
	}
	with := Via(l)
	if !slices.Equal(with, append(slices.Clone(ahead), api.Field{Name: "Via", Value: "1.1 tollhouse"})) {
		t.Errorf("Via(%s): %s", shown(l), shown(with))
	}
	if !Loops(with) {
		t.Errorf("Loops(%s): false", shown(with))
	}
	if !slices.Equal(l, ahead) {
		t.Errorf("Loops, Via(%s): the list is %s now", shown(ahead), shown(l))
	}
}

// closes checks what Closes tells of a list, for minor 0, and for minor 1 and all others.
func closes(t *testing.T, l []api.Field, old, new bool) {
	t.Helper()
	ahead := slices.Clone(l)
	if Closes(0, l) != old {
		t.Errorf("Closes(0, %s): %v", shown(l), !old)
	}
	for _, minor := range []int{1, 2, -1, 10, math.MaxInt, math.MinInt} {
		if Closes(minor, l) != new {
			t.Errorf("Closes(%d, %s): %v", minor, shown(l), !new)
		}
	}
	if !slices.Equal(l, ahead) {
		t.Errorf("Closes(%s): the list is %s now", shown(ahead), shown(l))
	}
}

// asModel checks all calls with a list.
func asModel(t *testing.T, l []api.Field) {
	t.Helper()
	for _, name := range []string{"connection", "VIA", "x", ""} {
		tellsElements(t, l, name, modelElements(l, name)...)
	}
	strips(t, l, modelStrip(l))
	loops(t, l, modelLoops(l))
	closes(t, l, modelCloses(0, l), modelCloses(1, l))
}

// P11.1 to P11.3: the chapter's examples.
func TestExamples(t *testing.T) {
	strips(t, fields("Host:a", "Connection:x, close, Host", "X:1", "TE:t", "Y:2"), fields("Host:a", "Y:2"))
	loops(t, fields("Via:1.0 a, 1.1 Tollhouse (b)"), true)
	loops(t, fields("Via:tollhouse"), false)
	closes(t, nil, true, false)
	closes(t, fields("Connection:Keep-Alive"), false, false)
	closes(t, fields("Connection:keep-alive, close"), true, true)
}

// P11.1: Elements of no field, of one, of several, whatever their names' capital letters.
func TestElements(t *testing.T) {
	tellsElements(t, nil, "connection")
	tellsElements(t, []api.Field{}, "")
	tellsElements(t, fields("Host:a"), "connection")
	for _, name := range cased("connection") {
		for _, asked := range cased("connection") {
			tellsElements(t, fields(name+":x"), asked, "x")
		}
	}
	tellsElements(t, fields("C: b, a,b "), "c", "b", "a", "b") // in order, twice if twice, as they stand
	tellsElements(t, fields("C:X-One , close", "x:1", "c:y,,\t,host"), "C", "X-One", "close", "y", "host")
	tellsElements(t, fields("b:2", "a:1", "B:3", "A:4", "b:5"), "b", "2", "3", "5")
	tellsElements(t, fields("c:", "c: ", "c:,", "c: ,\t, ", "c:a"), "c", "a")
	tellsElements(t, fields("c:"), "c")
	tellsElements(t, fields(`c:"a, b" , c`, `c:"\", d`, `c:e, "f`, "c:g"), "c", `"a, b"`, "c", `"\", d`, "e", `"f`, "g") // what a quoted part takes along ends with its field
	tellsElements(t, fields("c:a\x00b,\xff, \n,é\u00a0"), "c", "a\x00b", "\xff", "\n", "é\u00a0")
	for _, name := range []string{"", " ", "C ", " c", "cc", "\u0063\u0327", "x:y", "c,"} {
		tellsElements(t, fields("c:a"), name)
	}
	tellsElements(t, []api.Field{{Name: "", Value: "a"}, {Name: "A b", Value: "c"}, {Name: "\xff", Value: "d"}}, "", "a")
	tellsElements(t, []api.Field{{Name: "", Value: "a"}, {Name: "A b", Value: "c"}, {Name: "\xff", Value: "d"}}, "a B", "c")
	tellsElements(t, []api.Field{{Name: "", Value: "a"}, {Name: "\xfe", Value: "c"}, {Name: "\xff", Value: "d"}}, "\xff", "d") // two wrong bytes are two names
}

// P11.1: each name for all; and what is only like one.
func TestForAll(t *testing.T) {
	for _, name := range forAll {
		for _, s := range cased(name) {
			if !ForAll(s) {
				t.Errorf("ForAll(%q): false", s)
			}
		}
		sample.Anywhere(name, func(s string) {
			if ForAll(s) != modelForAll(s) {
				t.Errorf("ForAll(%q): %v", s, ForAll(s))
			}
		})
	}
	for _, name := range slices.Concat(ofOneHop, others) {
		for _, s := range cased(name) {
			if ForAll(s) {
				t.Errorf("ForAll(%q): true", s)
			}
		}
	}
	if ForAll(strings.Join(forAll, ", ")) || ForAll(strings.Repeat("age", 1<<20)) {
		t.Error("ForAll of a long text: true")
	}
}

// P11.1: names of one hop go, with no field of connection too; those for all stay; so do all others.
func TestStripNames(t *testing.T) {
	strips(t, nil, nil)
	strips(t, []api.Field{}, nil)
	strips(t, fields("Connection:x"), nil)
	a, b := api.Field{Name: "A", Value: "1"}, api.Field{Name: "B", Value: "2"}
	around := func(name string) []api.Field { return []api.Field{a, {Name: name, Value: "v"}, b} }
	for _, name := range ofOneHop {
		for _, s := range cased(name) {
			strips(t, around(s), []api.Field{a, b})
			strips(t, fields(s+":"), nil)
		}
		sample.Anywhere(name, func(s string) { strips(t, around(s), modelStrip(around(s))) })
	}
	for _, name := range slices.Concat(forAll, others) {
		for _, s := range cased(name) {
			strips(t, around(s), around(s))
		}
	}
}

// P11.1: what connection names goes, but names for all.
func TestStripNamed(t *testing.T) {
	for _, name := range []string{"Connection", "connection", "CONNECTION", "cONNECTIOn"} {
		for _, other := range slices.Concat(ofOneHop, forAll, []string{"x", "X-One", "close", "content-length", "cookie", "!#$%&'*+-.^_`|~", "*", "a b", "\"x\"", "\"a, b\"", "\xff", "é"}) {
			for _, s := range cased(other) {
				for _, value := range []string{s, " " + s + "\t", "q, " + s, s + ",q", ",," + s + ",,", s + "," + s} {
					rest := []api.Field{{Name: "Z", Value: "1"}, {Name: other, Value: "2"}, {Name: "Y", Value: "3"}, {Name: s, Value: ""}}
					at := api.Field{Name: name, Value: value}
					want := []api.Field{rest[0], rest[2]}
					if slices.Contains(forAll, other) {
						want = rest
					}
					strips(t, append([]api.Field{at}, rest...), want) // what is named stands behind, and ahead
					strips(t, append(slices.Clone(rest), at), want)
				}
			}
		}
	}
}

func TestStripConnection(t *testing.T) {
	strips(t, fields("Connection:a", "A:1", "B:2", "C:3", "connection:C", "D:4"), fields("B:2", "D:4")) // several fields
	strips(t, fields("Connection:connection, a", "A:1", "B:2"), fields("B:2"))                          // itself
	strips(t, fields("Connection:connection", "connection:Connection"), nil)
	strips(t, fields("Connection:a", "A:b", "B:1"), fields("B:1")) // what is named names nothing
	strips(t, fields("Connection:a", "Keep-Alive:b", "TE:c", "Trailer:d", "B:1", "C:2", "D:3"), fields("B:1", "C:2", "D:3"))
	strips(t, fields("Connection:Host, via, AGE, x", "Host:a", "X:1", "Via:1.1 b", "Age:5", "Y:2"), fields("Host:a", "Via:1.1 b", "Age:5", "Y:2"))
	strips(t, fields("A:1", "a:2", "B:3", "A:4", "Connection:a"), fields("B:3"))
	strips(t, fields("B:1", "A:2", "b:3", "A:4", "B:1", "Upgrade:h2c"), fields("B:1", "A:2", "b:3", "A:4", "B:1"))
	for _, value := range []string{"", " ", ",", ", ,\t", "q", "aa", "a b", "a;b", "a=1", "a:", "\"a\"", "\"x, a\"", "\"x, a", "(a)", "a\x00", "*", "/a", "-a", "\u00e5"} { // elements that no field has
		strips(t, fields("Connection:"+value, "A:1", "B:2"), fields("A:1", "B:2"))
	}
	strips(t, fields("Connections:a", "Proxy:b", "X-Connection:a, b", "A:1", "B:2"), fields("Connections:a", "Proxy:b", "X-Connection:a, b", "A:1", "B:2")) // names that are not connection's
	strips(t, fields("Proxy-Connection:a", "A:1"), fields("A:1"))
}

// P11.1, R1: fields that no message has are gone through as all others are.
func TestStripAny(t *testing.T) {
	for n := range 256 {
		one := string([]byte{byte(n)})
		for _, l := range [][]api.Field{
			{{Name: "Connection", Value: one}, {Name: one, Value: one}, {Name: "z", Value: ""}},
			{{Name: "Connection", Value: "x" + one + "y"}, {Name: "x", Value: one}, {Name: "y"}, {Name: "X" + one + "Y"}, {Name: "xy"}},
			{{Name: one + "connection", Value: "x"}, {Name: "x"}},
			{{Name: "connection" + one, Value: "x"}, {Name: "x"}},
		} {
			asModel(t, l)
		}
	}
	strips(t, []api.Field{{}, {Name: "Connection"}, {}}, []api.Field{{}, {}}) // an empty name is no element
	strips(t, []api.Field{{Name: "connection", Value: "\xff"}, {Name: "\xfe"}, {Name: "\xff"}}, []api.Field{{Name: "\xfe"}})
}

// P11.2.
func TestVia(t *testing.T) {
	for _, l := range [][]api.Field{
		nil, {}, {{}}, fields("Host:a"), fields("Via:1.0 a", "X:1", "VIA:1.1 b (c)"), fields("X:1", "via:"), fields("Connection:via", "Via:x"), fields("Age:1", "Via:\x00", "\xff:,"), fields("via:\"", "X:1"),
	} {
		loops(t, l, false)
		loops(t, Via(l), true)
		if len(Via(Via(l))) != len(l)+2 {
			t.Errorf("Via of Via(%s): %s", shown(l), shown(Via(Via(l))))
		}
	}
	strips(t, Via(fields("Connection:via", "Via:1.0 a", "TE:b")), fields("Via:1.0 a", "Via:1.1 tollhouse"))
}

// P11.2: elements of which the proxy's word is the second part, and others.
func TestLoops(t *testing.T) {
	yes := []string{
		"1.1 tollhouse", "1.0 Tollhouse", "1.1 TOLLHOUSE", "HTTP/1.1 tOLLHOUSe", "a tollhouse", "tollhouse tollhouse", "1.1 tollhouse (x)", "1.1 tollhouse x y z", "1.1 tollhouse tollhouse",
		"1.1\ttollhouse", "1.1\ttollhouse\tx", "1.1  tollhouse", "1.1\t\ttollhouse", "1.1 \t tollhouse", " 1.1 tollhouse ", "\t1.1\ttollhouse\t", "1.1 tollhouse \t(x)",
		"\"1.1 tollhouse", "\"1.1, tollhouse", "\"1.1\" tollhouse", "\"a,b\" tollhouse", "\xff tollhouse", "\u00a0 tollhouse \u00a0", "\x00 tollhouse",
		"(a, 1.1) tollhouse, b", // a ',' parts within '(' and ')', too
	}
	no := []string{
		"", " ", "1.1", "tollhouse", " tollhouse", "\ttollhouse\t", "TOLLHOUSE (x)", "tollhouse 1.1", "1.1 a", "1.1 a tollhouse", "1.1 a (tollhouse)", "a b c tollhouse", "1.1\ta\ttollhouse", "tollhouse a tollhouse",
		"1.1 tollhouse:80", "1.1 tollhouse2", "1.1 atollhouse", "1.1 tollhous", "1.1 ollhouse", "1.1 toll house", "1.1 tollhou\u017fe", "1.1 toll\x00house", "1.1 tollhouse\x00", "1.1 tollhouse\n", "1.1 \ntollhouse", "1.1 tollhouse;x", "1.1 tollhouse.",
		"1.1 (tollhouse)", "1.1 \"tollhouse\"", "1.1 \"tollhouse", "1.1 'tollhouse'", "1.1/tollhouse", "1.1-tollhouse", "1.1;tollhouse",
		"1.1\ntollhouse", "1.1\rtollhouse", "1.1\vtollhouse", "1.1\ftollhouse", "1.1\u00a0tollhouse", "1.1\u2003tollhouse", "1.1\x85tollhouse", "1.1\xa0tollhouse",
		"1.1,tollhouse", "1.1, tollhouse", "1.1 ,tollhouse", "1.1,tollhouse a", "\"1.1, tollhouse\"", "\"1.1 a, tollhouse\" tollhouse", "\"a, 1.1 tollhouse\"",
	}
	for _, s := range yes {
		loops(t, fields("Via:"+s), true)
		loops(t, fields("X:1", "vIA:1.0 a,"+s, "Y:2"), true) // another element, another field, ahead and behind
		loops(t, fields("via:1.0 a", "VIA:"+s, "Via:1.1 b"), true)
		loops(t, fields("Via:"+s, "via:1.0 a, 1.1 b"), true)
		loops(t, fields("Vias:"+s, "X-Via:"+s, "Connection:"+s, ":"+s), false) // other names
	}
	for _, s := range no {
		loops(t, fields("via:"+s), false)
		loops(t, fields("X:1", "Via:1.0 a,"+s, "Y:1.1 tollhouse"), false)
		loops(t, fields("VIA:"+s, "via:1.0 a"), false)
		loops(t, fields("Via:1.0 a,"+s, "via:1.1 tollhouse"), true)
		for _, other := range no {
			loops(t, fields("Via:"+s, "Via:"+other), false) // no element goes on in the next field
		}
	}
}

// P11.2, P11.3: each byte at each place.
func TestBytes(t *testing.T) {
	for _, s := range []string{"1.1 tollhouse", "1.0 a, 1.1\tTollHouse (b)", "tollhouse", "\"a\" tollhouse"} {
		sample.Anywhere(s, func(s string) {
			loops(t, fields("Via:"+s), modelLoops(fields("Via:"+s)))
		})
	}
	for _, s := range []string{"close", "keep-alive", "x, Close", "keep-alive,close"} {
		sample.Anywhere(s, func(s string) {
			l := fields("Connection:" + s)
			closes(t, l, modelCloses(0, l), modelCloses(1, l))
		})
	}
}

// P11.3: without close and keep-alive, with one, with both, in one field and in two.
func TestCloses(t *testing.T) {
	for _, name := range cased("connection") {
		for _, c := range cased("close") {
			for _, s := range []string{c, " " + c + " ", "x," + c, c + "\t,x", "," + c + ",", c + "," + c} {
				closes(t, fields(name+":"+s), true, true)
				for _, k := range cased("keep-alive") {
					closes(t, fields(name+":"+s+","+k), true, true)
					closes(t, fields(name+":"+k+", "+s), true, true)
					closes(t, fields(name+":"+k, "X:1", "Connection:"+s), true, true)
					closes(t, fields(name+":"+s, "connection:"+k), true, true)
				}
			}
		}
		for _, k := range cased("keep-alive") {
			for _, s := range []string{k, " " + k + " ", "x," + k, k + "\t,x", "," + k + ",", k + "," + k} {
				closes(t, fields(name+":"+s), false, false)
				closes(t, fields("Connection:x", name+":"+s, "connection:"), false, false)
			}
		}
	}
	for _, s := range []string{"", " ", ",", "x", "closed", "clos", "lose", "close x", "close;x", "close=1", "x close", "\"close\"", "\"x, close\"", "\"x, close", "(close)", "clo\u017fe", "close\x00", "close\n", "c lose", "keepalive", "keep alive", "keep-alive2", "keep-alive;x", "\"keep-alive\"", "\"keep-alive", "\u212aeep-alive", "keep_alive", "upgrade", "te"} {
		closes(t, fields("Connection:"+s), true, false)
		closes(t, fields("Connection:"+s, "connection:"+s), true, false)
		closes(t, fields("Connection:keep-alive,"+s), false, false)
		closes(t, fields("Connection:close,"+s), true, true)
	}
	for _, l := range [][]api.Field{nil, {}, {{}}, fields("Host:a"), fields("close:1"), fields("Close:close", "X:keep-alive"), fields("Proxy-Connection:keep-alive, close"), fields("Keep-Alive:close"), fields("Connections:close"), fields(":close"), fields("Via:keep-alive")} {
		closes(t, l, true, false)
	}
}

// P11.1 to P11.5: all short rows of fields that matter.
func TestShort(t *testing.T) {
	sample.Rows(fields("Connection:x", "connection:Y, Close", "CONNECTION:via, te,keep-alive", "Connection:", "X:1", "y:connection", "Y:2", "Via:1.1 Tollhouse", "via:1.0 a", "TE:close", "close:3", "Keep-Alive:x"), 4, func(l []api.Field) {
		asModel(t, l)
	})
	sample.Texts([]string{"x", "Close", "keep-alive", "via", ",", " ", "\"", "\\"}, 4, func(s string) {
		asModel(t, fields("X:1", "Connection:"+s, "Via:1.1 b", "keep-ALIVE:a", "cLOSE:c", "\"x\":q"))
	})
	sample.Texts([]string{"tollhouse", "1.1", ",", " ", "\t", "\"", "\\"}, 5, func(s string) {
		loops(t, fields("Via:"+s), modelLoops(fields("Via:"+s)))
	})
}

// P11.4, P11.5: by lot, though the same ones in each run.
func TestMany(t *testing.T) {
	lot := rand.New(rand.NewSource(11))
	pick := func(l []string) string { return cased(l[lot.Intn(len(l))])[lot.Intn(3)] }
	some := []string{"a", "b", "c-d", "e", "close"}
	signs := []string{"1.1 tollhouse", "1.0 p", " ", "\t", "\"", "\\", "\x00", "\xff", ";", "close", "keep-alive"}
	name := func() string {
		return pick([][]string{ofOneHop, forAll, some, some, {"connection", "via"}}[lot.Intn(5)])
	}
	for range 6000 {
		var l []api.Field
		for range lot.Intn(40) {
			f := api.Field{Name: name()}
			for range lot.Intn(5) {
				if lot.Intn(2) == 0 {
					f.Value += pick(signs)
				}
				f.Value += name() + ","
			}
			l = append(l, f)
		}
		asModel(t, l)
	}
}

// R1: long values, and many fields.
func TestLong(t *testing.T) {
	const n = 1 << 16
	for _, part := range []string{"x", "x,", ",", " ", "\"", "\\", "\"\\", "a b ", "é", "\xff", "close,", "age,", "1.1 tollhouse "} {
		long := strings.Repeat(part, n)
		l := fields("Connection:"+long, "Via:"+long, "Age:1", "Z:2", long+":3")
		tellsElements(t, l, "connection", modelElements(l, "connection")...)
		strips(t, l, modelStrip(l))
		loops(t, l, modelLoops(l))
		closes(t, l, modelCloses(0, l), modelCloses(1, l))
	}
	z := fields("Connection:x, age", "X:1", "Age:2", "TE:3", "Z:4")
	many := slices.Repeat(z[1:], n)
	strips(t, append(z[:1:1], many...), slices.Repeat([]api.Field{z[2], z[4]}, n))
	loops(t, many, false)
	closes(t, many, true, false)
}

// R3: what is handed in stays as it is, room behind it too, and what is answered lives apart.
func TestApart(t *testing.T) {
	share := func(a, b string) bool {
		x, y := uintptr(unsafe.Pointer(unsafe.StringData(a))), uintptr(unsafe.Pointer(unsafe.StringData(b)))
		return x < y+uintptr(len(b)) && y < x+uintptr(len(a))
	}
	made := func() []api.Field {
		return []api.Field{
			{Name: strings.Clone("Connection"), Value: strings.Clone("aa, bb")}, {Name: strings.Clone("Host"), Value: strings.Clone("cc")},
			{Name: strings.Clone("AA"), Value: strings.Clone("dd")}, {Name: strings.Clone("Via"), Value: strings.Clone("1.1 ee")},
		}
	}
	l, was := append(make([]api.Field, 0, 16), made()...), made()
	full := l[:cap(l)]
	texts := Elements(l, "connection")
	if share(texts[0], texts[1]) {
		t.Error("two elements share memory")
	}
	for _, got := range [][]api.Field{Strip(l), Via(l), Via(l[:1]), Strip(l[1:2])} {
		for _, f := range got {
			texts = append(texts, f.Name, f.Value)
		}
		clear(got[:cap(got)])
	}
	for _, s := range texts {
		for _, f := range l {
			if share(s, f.Name) || share(s, f.Value) {
				t.Errorf("%q is of the list that was handed in", s)
			}
		}
	}
	Loops(l)
	Closes(1, l)
	if !slices.Equal(l, was) || slices.ContainsFunc(full[len(l):], func(f api.Field) bool { return f != api.Field{} }) {
		t.Errorf("%s", shown(full))
	}
}
