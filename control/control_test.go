package control

import (
	"math/big"
	"math/rand"
	"regexp"
	"slices"
	"strconv"
	"strings"
	"testing"

	"tollhouse/api"
	"tollhouse/hop"
	"tollhouse/sample"
)

// The names, as the chapter has them, by what they tell: whether there is one, or a number.
var (
	requestFlags    = []string{"no-store", "no-cache", "only-if-cached"}
	requestNumbers  = []string{"max-age", "min-fresh", "max-stale"}
	responseFlags   = []string{"no-store", "no-cache", "private", "public", "must-revalidate", "proxy-revalidate"}
	responseNumbers = []string{"max-age", "s-maxage"}
)

// unknown are names of directives that are neither a request's nor a response's, some of them only like those.
var unknown = []string{
	"x", "no-transform", "must-understand", "immutable", "stale-while-revalidate", "stale-if-error", "pragma", "cache-control",
	"nostore", "no_store", "no-stores", "no-stor", "o-store", "no--store", "no-sto\u017fe", "no", "store", "no-", "-store",
	"nocache", "no-caches", "no-cach", "no.cache", "privat", "privates", "publi", "publics", "private-", "xpublic",
	"only-if", "only-if-cache", "only-if-cachedx", "only_if_cached", "if-cached", "must", "must-revalidat", "must-revalidates", "mustrevalidate", "revalidate", "proxy", "proxy-revalidat", "proxy-must-revalidate", "proxyrevalidate",
	"maxage", "max_age", "max-ag", "max-ages", "ax-age", "max", "age", "smaxage", "s-max-age", "s-maxag", "s_maxage", "maxs-age",
	"minfresh", "min-fres", "min-freshx", "max-fresh", "min-stale", "maxstale", "max-stal", "max-stales", "stale", "fresh",
}

// unlike are names of fields that are only like cache-control and pragma.
var unlike = []string{
	"", " ", "x", "cache-contro", "cache-controls", "cachecontrol", "cache_control", "cache control", "cache-control ", " cache-control", "cache-control:", "cache-control\x00", "ache-control",
	"x-cache-control", "cdn-cache-control", "surrogate-control", "control", "cache", "cache-control, pragma", "no-cache",
	"pragm", "pragmas", "pragma ", " pragma", "x-pragma", "ragma", "pr\u00e1gma", "pragma:", "pragma\x00",
}

// What these tests try, and show, is made as other layers' tests make it.
var (
	cased  = sample.Cased
	fields = sample.Fields
	shown  = sample.ShownFields
)

// The model below says what the chapter says by regular expressions and unbounded numbers, which the package has none of.
var (
	capitals = regexp.MustCompile(`[A-Z]`)
	digits   = regexp.MustCompile(`^[0-9]+$`)
	pairForm = regexp.MustCompile("^([-!#$%&'*+.^_`|~0-9A-Za-z]+)(?:=(?:([-!#$%&'*+.^_`|~0-9A-Za-z]+)|\"((?:[^\"\\\\\\x00-\\x08\\x0a-\\x1f\\x7f]|\\\\[^\\x00-\\x08\\x0a-\\x1f\\x7f])*)\"))?$")
	escape   = regexp.MustCompile(`\\((?s:.))`)
)

func small(s string) string { return capitals.ReplaceAllStringFunc(s, strings.ToLower) }

// modelNumber is the number of a value, which is read as one of any length.
func modelNumber(value string) int {
	if !digits.MatchString(value) {
		return 0
	}
	n, _ := new(big.Int).SetString(value, 10)
	if n.Cmp(big.NewInt(2147483647)) > 0 {
		return 2147483647
	}
	return int(n.Int64())
}

// modelSaid is all numbers that each name's directives have; max-stale without a value has the greatest.
func modelSaid(l []api.Field) map[string][]int {
	said := map[string][]int{}
	for _, element := range hop.Elements(l, "cache-control") {
		parts := pairForm.FindStringSubmatch(element)
		if parts == nil {
			continue
		}
		name, value := small(parts[1]), parts[2]+escape.ReplaceAllString(parts[3], "$1")
		n := modelNumber(value)
		if name == "max-stale" && value == "" {
			n = 2147483647
		}
		said[name] = append(said[name], n)
	}
	return said
}

func least(l []int) int {
	if len(l) == 0 {
		return -1
	}
	return slices.Min(l)
}

func greatest(l []int) int {
	if len(l) == 0 {
		return -1
	}
	return slices.Max(l)
}

func modelRequest(l []api.Field) api.Control {
	said := modelSaid(l)
	c := api.Control{
		NoStore: said["no-store"] != nil, NoCache: said["no-cache"] != nil, Only: said["only-if-cached"] != nil,
		MaxAge: least(said["max-age"]), Shared: -1, MinFresh: greatest(said["min-fresh"]), MaxStale: least(said["max-stale"]),
	}
	if !slices.ContainsFunc(l, func(f api.Field) bool { return small(f.Name) == "cache-control" }) {
		for _, element := range hop.Elements(l, "pragma") {
			c.NoCache = c.NoCache || small(element) == "no-cache"
		}
	}
	return c
}

func modelResponse(l []api.Field) api.Control {
	said := modelSaid(l)
	return api.Control{
		NoStore: said["no-store"] != nil, NoCache: said["no-cache"] != nil, Private: said["private"] != nil, Public: said["public"] != nil,
		Must:   len(said["must-revalidate"])+len(said["proxy-revalidate"]) > 0,
		MaxAge: least(said["max-age"]), Shared: least(said["s-maxage"]), MinFresh: -1, MaxStale: -1,
	}
}

// one is a list of one field cache-control.
func one(value string) []api.Field { return []api.Field{{Name: "Cache-Control", Value: value}} }

// none is what is told where nothing is said.
var none = api.Control{MaxAge: -1, Shared: -1, MinFresh: -1, MaxStale: -1}

// with is none with what these directives say, each of them of its own name; '=' parts a number off it.
func with(said ...string) api.Control {
	c := none
	for _, s := range said {
		name, value, _ := strings.Cut(s, "=")
		n, _ := strconv.Atoi(value)
		switch name {
		case "no-store":
			c.NoStore = true
		case "no-cache":
			c.NoCache = true
		case "private":
			c.Private = true
		case "public":
			c.Public = true
		case "must-revalidate", "proxy-revalidate":
			c.Must = true
		case "only-if-cached":
			c.Only = true
		case "max-age":
			c.MaxAge = n
		case "s-maxage":
			c.Shared = n
		case "min-fresh":
			c.MinFresh = n
		case "max-stale":
			c.MaxStale = n
		}
	}
	return c
}

// request checks what Request tells, and that the list stays as it is.
func request(t *testing.T, l []api.Field, want api.Control) {
	t.Helper()
	ahead := slices.Clone(l)
	if got := Request(l); got != want {
		t.Errorf("Request(%s): %+v; want %+v", shown(l), got, want)
	}
	if !slices.Equal(l, ahead) {
		t.Errorf("Request(%s): the list is %s now", shown(ahead), shown(l))
	}
}

// response checks what Response tells, and that the list stays as it is.
func response(t *testing.T, l []api.Field, want api.Control) {
	t.Helper()
	ahead := slices.Clone(l)
	if got := Response(l); got != want {
		t.Errorf("Response(%s): %+v; want %+v", shown(l), got, want)
	}
	if !slices.Equal(l, ahead) {
		t.Errorf("Response(%s): the list is %s now", shown(ahead), shown(l))
	}
}

// both checks both calls.
func both(t *testing.T, l []api.Field, asked, told api.Control) {
	t.Helper()
	request(t, l, asked)
	response(t, l, told)
}

func asModel(t *testing.T, l []api.Field) {
	t.Helper()
	both(t, l, modelRequest(l), modelResponse(l))
}

// P12.1, P12.2: the chapter's examples.
func TestExamples(t *testing.T) {
	if Most != 1<<31-1 {
		t.Error(Most)
	}
	request(t, one("No-Cache, max-age=5"), api.Control{NoCache: true, MaxAge: 5, Shared: -1, MinFresh: -1, MaxStale: -1})
	request(t, one("max-stale"), with("max-stale=2147483647"))
	request(t, one("max-stale=7, max-stale=3"), with("max-stale=3"))
	request(t, one("min-fresh=x"), with("min-fresh=0"))
	request(t, fields("Pragma:no-cache"), with("no-cache"))
	request(t, fields("Pragma:no-cache", "Cache-Control:"), none)
	response(t, one(`private="a, b", s-maxage="10", max-age=99999999999`), api.Control{Private: true, MaxAge: Most, Shared: 10, MinFresh: -1, MaxStale: -1})
}

// P12.1, P12.2: without cache-control nothing is said, whatever other fields say.
func TestNone(t *testing.T) {
	for _, l := range [][]api.Field{nil, {}, {{}}, fields("Host:a"), fields("X:no-store", "no-cache:no-cache", "max-age:5", "Expires:0", "Age:7"), fields("Vary:private", "Via:no-store, max-age=1")} {
		both(t, l, none, none)
	}
	for _, value := range []string{"", " ", "\t", ",", " , ,\t,", "x", "\"no-store\"", "=", "=5", "a b", "\x00", "\xff"} {
		both(t, one(value), none, none)
		both(t, append(one(value), one(value)...), none, none)
	}
}

// P12.1, P12.2: each directive of a request and each of a response, alone, whatever its value, and in each kind of message.
func TestFlags(t *testing.T) {
	all := slices.Concat(requestFlags, responseFlags)
	for _, name := range all {
		asked, told := none, none
		if slices.Contains(requestFlags, name) {
			asked = with(name)
		}
		if slices.Contains(responseFlags, name) {
			told = with(name)
		}
		for _, s := range cased(name) {
			for _, value := range []string{"", "=x", "=0", "=false", "=5", "=\"\"", "=\"a, b\"", "=\"no-store\"", "=\"a, max-age=5, public\"", "=\"\\\"\"", "=\"\\,\"", "=\"\xff\""} {
				both(t, one(s+value), asked, told)
				both(t, one(" , "+s+value+"\t,"), asked, told)
				both(t, one("x,"+s+value+",no-transform=\"q\""), asked, told)
				both(t, slices.Concat(one("x"), fields("Host:a"), one(s+value), one("")), asked, told)
			}
			for _, value := range []string{"=", " =x", "= x", "=x y", "=\"", "=\"x", "=\"x\"y", "=x\"", "=\"\x00\"", "=\xff", "=a=b", "=a/b", ":x", ";x", " x", "\x00", "\"\""} { // no pairs
				both(t, one(s+value), none, none)
				both(t, one("x,"+s+value), none, none)
			}
			both(t, one("\""+s+"\""), none, none)
			both(t, one("x=\"a, "+s+"\""), none, none)
			both(t, one("x=\"a\\\", "+s+"\""), none, none)
			both(t, one("\"x, "+s), none, none) // a quoted part that does not end
			both(t, append(one("\"x"), one(s)...), asked, told)
		}
	}
}

// P12.1, P12.2: numbers, by their values; -1, if there is none.
func TestNumbers(t *testing.T) {
	nines := strings.Repeat("9", 400)
	for _, row := range []struct {
		value string
		n     int
	}{
		{"=0", 0}, {"=1", 1}, {"=5", 5}, {"=10", 10}, {"=60", 60}, {"=31536000", 31536000}, {"=000", 0}, {"=05", 5}, {"=" + strings.Repeat("0", 400) + "7", 7},
		{"=2147483646", Most - 1}, {"=2147483647", Most}, {"=2147483648", Most}, {"=2147483649", Most}, {"=002147483646", Most - 1}, {"=3000000000", Most}, {"=4294967295", Most}, {"=4294967296", Most}, {"=4294967297", Most}, {"=6442450944", Most},
		{"=9007199254740991", Most}, {"=9007199254740992", Most}, {"=9223372036854775807", Most}, {"=9223372036854775808", Most}, {"=18446744073709551615", Most}, {"=18446744073709551616", Most}, {"=18446744073709551617", Most}, {"=" + nines, Most},
		{"=x", 0}, {"=-1", 0}, {"=-2147483648", 0}, {"=+5", 0}, {"=5s", 0}, {"=s5", 0}, {"=5.0", 0}, {"=1e3", 0}, {"=0x10", 0}, {"=1_0", 0}, {"=5'", 0}, {"=" + nines + "x", 0}, {"=x" + nines, 0}, {"=9007199254740992-", 0},
		{`="0"`, 0}, {`="5"`, 5}, {`="05"`, 5}, {`="2147483646"`, Most - 1}, {`="2147483648"`, Most}, {`="` + nines + `"`, Most}, {`="\5\7"`, 57}, {`="1\0"`, 10},
		{`=" 5"`, 0}, {`="5 "`, 0}, {`="5, 6"`, 0}, {`="-5"`, 0}, {`="5\""`, 0}, {`="x"`, 0}, {`=" "`, 0}, {"=\"5\xff\"", 0}, {"=\"\u0665\"", 0}, {"=\"\uff15\"", 0},
	} {
		for _, name := range slices.Concat(requestNumbers, responseNumbers) {
			asked, told := none, none
			said := name + "=" + strconv.Itoa(row.n)
			if slices.Contains(requestNumbers, name) {
				asked = with(said)
			}
			if slices.Contains(responseNumbers, name) {
				told = with(said)
			}
			for _, s := range cased(name) {
				both(t, one(s+row.value), asked, told)
				both(t, one("x=3, "+s+row.value+" ,y=4"), asked, told)
				both(t, slices.Concat(one("x=3"), one(s+row.value)), asked, told)
			}
		}
	}
}

// P12.1, P12.2: a number without a value, with an empty one, and no pair at all.
func TestNoNumber(t *testing.T) {
	for _, value := range []string{"", `=""`} {
		for _, name := range cased("max-stale") {
			both(t, one(name+value), with("max-stale=2147483647"), none)
			both(t, one(name+value+",max-stale=9"), with("max-stale=9"), none)
			both(t, one("max-stale=9,"+name+value), with("max-stale=9"), none)
			both(t, append(one(name+value), one("MAX-STALE=x")...), with("max-stale=0"), none)
		}
		both(t, one("max-age"+value), with("max-age=0"), with("max-age=0"))
		both(t, one("min-fresh"+value), with("min-fresh=0"), none)
		both(t, one("s-maxage"+value), none, with("s-maxage=0"))
		both(t, one("max-age=5,max-age"+value), with("max-age=0"), with("max-age=0"))
		both(t, one("min-fresh"+value+",min-fresh=5"), with("min-fresh=5"), none)
	}
	for _, name := range slices.Concat(requestNumbers, responseNumbers) {
		for _, value := range []string{"=", " =5", "= 5", "=5 6", "=\"5", "=5\"", "=\"5\"6", "==5", "=5=", ":5", " 5", ";5", "=\x00", "=\xff", "=\"\n\"", "=(5)", "=5;x"} {
			both(t, one(name+value), none, none)
		}
	}
	both(t, one("max-age=5, max-age="), with("max-age=5"), with("max-age=5")) // what is no pair counts for nothing
	both(t, one("max-stale=, max-stale=5"), with("max-stale=5"), none)
	both(t, one("max-age=\"5, max-age=3"), none, none)
}

// P12.1, P12.2: of several numbers the least counts, of min-fresh the greatest, in any order, in one field and in several.
func TestSeveral(t *testing.T) {
	values := []string{"=0", "=5", "=\"3\"", "=2147483647", "=99999999999999999999", "=x", "", "=7"}
	for _, name := range []string{"max-age", "s-maxage", "min-fresh", "max-stale"} {
		sample.Rows(values, 3, func(row []string) {
			var elements []string
			var l []api.Field
			var numbers []int
			for i, value := range row {
				s := cased(name)[i%3] + value
				elements = append(elements, s)
				l = append(l, one(s)...)
				n := modelNumber(strings.Trim(value, "=\""))
				if name == "max-stale" && value == "" {
					n = Most
				}
				numbers = append(numbers, n)
			}
			asked, told := none, none
			switch name {
			case "max-age":
				asked.MaxAge, told.MaxAge = least(numbers), least(numbers)
			case "s-maxage":
				told.Shared = least(numbers)
			case "min-fresh":
				asked.MinFresh = greatest(numbers)
			case "max-stale":
				asked.MaxStale = least(numbers)
			}
			both(t, l, asked, told)
			both(t, one(strings.Join(elements, ", ")), asked, told)
			both(t, one(strings.Join(elements, ",no-transform,")), asked, told)
			both(t, slices.Concat(one("x=1"), l, one("x=2")), asked, told)
		})
	}
}

// P12.1, P12.2: all of them together, in one field and in several; no name's number is another one's.
func TestTogether(t *testing.T) {
	all := []string{
		"no-store", "no-cache=\"Set-Cookie\"", "private=x", "public", "must-revalidate", "proxy-revalidate=1", "only-if-cached",
		"max-age=11", "s-maxage=22", "min-fresh=33", "max-stale=44", "x=1", "max=2", "age=3",
	}
	asked := api.Control{NoStore: true, NoCache: true, Only: true, MaxAge: 11, Shared: -1, MinFresh: 33, MaxStale: 44}
	told := api.Control{NoStore: true, NoCache: true, Private: true, Public: true, Must: true, MaxAge: 11, Shared: 22, MinFresh: -1, MaxStale: -1}
	for turn := range all {
		turned := slices.Concat(all[turn:], all[:turn])
		both(t, one(strings.Join(turned, ",")), asked, told)
		var l []api.Field
		for i, s := range turned {
			l = append(l, api.Field{Name: cased("cache-control")[i%3], Value: s}, api.Field{Name: "X", Value: "max-age=0, max-stale=0"})
		}
		both(t, l, asked, told)
		slices.Reverse(l)
		both(t, l, asked, told)
	}
	for i := range all { // one less
		asModel(t, one(strings.Join(slices.Delete(slices.Clone(all), i, i+1), ", ")))
	}
	response(t, one("must-revalidate"), with("must-revalidate"))
	response(t, one("proxy-revalidate"), with("must-revalidate"))
	response(t, one("must-revalidate, proxy-revalidate"), with("must-revalidate"))
	response(t, append(one("proxy-revalidate"), one("must-revalidate")...), with("must-revalidate"))
}

// P12.1: pragma counts where there is no field cache-control at all, and for a request alone.
func TestPragma(t *testing.T) {
	yes := with("no-cache")
	for _, name := range cased("pragma") {
		for _, asks := range cased("no-cache") {
			for _, s := range []string{asks, " " + asks + "\t", "x," + asks, asks + ",x", ",," + asks + ",", "x=\"a\" ," + asks, asks + "," + asks} {
				l := fields(name + ":" + s)
				both(t, l, yes, none)
				both(t, slices.Concat(fields("Host:a", "pragma:x"), l, fields("Pragma:", "X:1")), yes, none)
				for _, control := range cased("cache-control") {
					for _, value := range []string{"", " ", ",", "x", "no-store", "max-age=5", "no-cache=", "\"no-cache\""} {
						beside := api.Field{Name: control, Value: value}
						asked, told := modelRequest([]api.Field{beside}), modelResponse([]api.Field{beside})
						if asked.NoCache {
							t.Fatalf("%q", value)
						}
						both(t, append(slices.Clone(l), beside), asked, told) // behind, and ahead
						both(t, append([]api.Field{beside}, l...), asked, told)
					}
					both(t, append(slices.Clone(l), api.Field{Name: control, Value: "no-cache"}), yes, yes)
				}
				for _, other := range unlike {
					both(t, append([]api.Field{{Name: other, Value: "x"}}, l...), yes, none)
				}
			}
		}
		for _, s := range []string{"", " ", ",", "x", "no-cache=x", "no-cache=\"\"", "no-cache=", "no-cache x", "no-cache;x", "\"no-cache\"", "\"x, no-cache\"", "\"x, no-cache", "nocache", "no-caches", "no-cach", "no_cache", "no-cache\x00", "no cache", "no-cac\u0128e", "max-age=0", "no-store", "only-if-cached", "max-age=5, max-stale, min-fresh=3"} {
			both(t, fields(name+":"+s), none, none)
			both(t, fields(name+":"+s, "X:no-cache", "Pragma:x"), none, none)
		}
	}
	request(t, fields("Pragma:\"x", "Pragma:no-cache"), yes) // a quoted part ends with its field
}

// P12.1, P12.2: names of directives and of fields that are only like the ones that count; capital letters do not matter.
func TestNames(t *testing.T) {
	for _, name := range unknown {
		for _, s := range cased(name) {
			for _, value := range []string{"", "=5", "=\"5\"", "=x"} {
				both(t, one(s+value), none, none)
				both(t, one("max-age=9, "+s+value), with("max-age=9"), with("max-age=9"))
			}
		}
	}
	said := "no-store, no-cache, private, public, must-revalidate, only-if-cached, max-age=1, s-maxage=2, min-fresh=3, max-stale=4"
	for _, name := range unlike {
		for _, s := range cased(name) {
			both(t, []api.Field{{Name: s, Value: said}}, none, none)
			both(t, append([]api.Field{{Name: s, Value: said}}, one("max-age=7")...), with("max-age=7"), with("max-age=7"))
		}
	}
	asked := with("no-store", "no-cache", "only-if-cached", "max-age=1", "min-fresh=3", "max-stale=4")
	told := with("no-store", "no-cache", "private", "public", "must-revalidate", "max-age=1", "s-maxage=2")
	for _, name := range cased("cache-control") {
		for _, s := range cased(said) {
			both(t, []api.Field{{Name: name, Value: s}}, asked, told)
		}
	}
}

// P12.1, P12.2, R1: each byte at each place.
func TestBytes(t *testing.T) {
	for _, s := range []string{
		"no-store", "no-cache", "only-if-cached", "private", "public", "must-revalidate", "proxy-revalidate",
		"max-age=57", "s-maxage=\"57\"", "min-fresh=57", "max-stale=57", "max-stale", "no-cache=\"a, b\", max-age=05", "max-age=2147483647", "min-fresh=2, MIN-FRESH=9",
	} {
		sample.Anywhere(s, func(s string) { asModel(t, one(s)) })
	}
	sample.Anywhere("no-cache", func(s string) { asModel(t, fields("Pragma:"+s)) })
	sample.Anywhere("x, No-Cache", func(s string) { asModel(t, fields("Pragma:"+s)) })
	for _, name := range []string{"Cache-Control", "Pragma"} {
		sample.Anywhere(name, func(s string) {
			asModel(t, []api.Field{{Name: s, Value: "no-cache, max-age=5, private"}})
			asModel(t, []api.Field{{Name: s, Value: "x"}, {Name: "Pragma", Value: "no-cache"}})
		})
	}
}

// P12.1 to P12.4: all short rows of fields, and of what fields have.
func TestShort(t *testing.T) {
	sample.Rows(fields("Cache-Control:max-age=5", "cache-control:MAX-AGE=3, min-fresh=4", "CACHE-CONTROL:Min-Fresh=6,max-stale", "Cache-Control:", "cache-controL:no-store,private=\"x", "Cache-Control:max-stale=2, s-maxage=9 ,must-revalidate", "Pragma:no-cache", "pragma:x", "X:no-cache, max-age=1"), 4, func(l []api.Field) {
		asModel(t, l)
	})
	sample.Texts([]string{"max-age", "Max-Stale", "min-fresh", "no-cache", "=", ",", "5", "9", "\"", "\\", " "}, 5, func(s string) {
		asModel(t, one(s))
	})
}

// forbids tells whether c forbids no less than before did; pragma, whether NoCache may have been by pragma, and need not hold on.
func forbids(c, before api.Control, pragma bool) bool {
	flag := func(now, then bool) bool { return now || !then }
	limit := func(now, then int) bool { return then == -1 || 0 <= now && now <= then }
	return flag(c.NoStore, before.NoStore) && (pragma || flag(c.NoCache, before.NoCache)) && flag(c.Private, before.Private) && flag(c.Public, before.Public) &&
		flag(c.Must, before.Must) && flag(c.Only, before.Only) && limit(c.MaxAge, before.MaxAge) && limit(c.Shared, before.Shared) && limit(c.MaxStale, before.MaxStale) && c.MinFresh >= before.MinFresh
}

// P12.3, P12.4: by lot, though the same ones in each run. Elements end by themselves, so that they may change places.
func TestMany(t *testing.T) {
	lot := rand.New(rand.NewSource(12))
	pick := func(l []string) string { return l[lot.Intn(len(l))] }
	names := slices.Concat(requestFlags, requestNumbers, responseFlags, responseNumbers, requestNumbers, responseNumbers, []string{"x", "no-transform", "maxage"})
	values := []string{"", "=0", "=1", "=7", "=007", "=60", "=2147483646", "=2147483647", "=2147483648", "=99999999999999999999", "=x", "=-1", "=\"\"", "=\"5\"", "=\"a, b\"", "=\"\\\"\"", "=", " =5", "=5 6"}
	field := func() api.Field {
		if lot.Intn(12) == 0 {
			return api.Field{Name: pick(cased("pragma")), Value: pick([]string{"no-cache", "x, No-Cache", "x", ""})}
		}
		var elements []string
		for range lot.Intn(5) {
			elements = append(elements, pick(cased(pick(names)))+pick(values))
		}
		return api.Field{Name: pick(cased(pick([]string{"cache-control", "cache-control", "cache-control", "x", "cache"}))), Value: strings.Join(elements, pick([]string{",", ", ", " ,\t,"}))}
	}
	for range 4000 {
		var l []api.Field
		asked, told := Request(nil), Response(nil)
		for range lot.Intn(12) {
			byPragma := !slices.ContainsFunc(l, func(f api.Field) bool { return small(f.Name) == "cache-control" })
			l = slices.Insert(l, lot.Intn(len(l)+1), field())
			asModel(t, l)
			more, moreTold := Request(l), Response(l)
			if !forbids(more, asked, byPragma) || !forbids(moreTold, told, false) {
				t.Errorf("%s: %+v, %+v; and with one field less %+v, %+v", shown(l), more, moreTold, asked, told)
			}
			asked, told = more, moreTold
		}
		both(t, shuffled(lot, l), asked, told)
	}
}

// shuffled is l with its fields, and the elements within them, in another order, and with other capital letters in their names.
func shuffled(lot *rand.Rand, l []api.Field) []api.Field {
	l = slices.Clone(l)
	lot.Shuffle(len(l), func(i, j int) { l[i], l[j] = l[j], l[i] })
	for i, f := range l {
		elements := hop.Elements(l[i:i+1], f.Name)
		lot.Shuffle(len(elements), func(i, j int) { elements[i], elements[j] = elements[j], elements[i] })
		for j, s := range elements {
			name, rest := s, ""
			if at := strings.Index(s, "="); at >= 0 {
				name, rest = s[:at], s[at:]
			}
			elements[j] = cased(name)[lot.Intn(3)] + rest
		}
		l[i] = api.Field{Name: cased(f.Name)[lot.Intn(3)], Value: strings.Join(elements, ",")}
	}
	return l
}

// P12.3: with one more directive in a field, too.
func TestMore(t *testing.T) {
	all := slices.Concat(requestFlags, responseFlags, []string{"max-age=0", "max-age=5", "s-maxage=5", "s-maxage=9", "min-fresh=5", "min-fresh=2", "max-stale", "max-stale=5", "max-stale=0", "x", "max-age="})
	sample.Rows(all, 2, func(row []string) {
		s := strings.Join(row, ",")
		for _, more := range all {
			for _, with := range []string{s + "," + more, more + "," + s} {
				if !forbids(Request(one(with)), Request(one(s)), false) || !forbids(Response(one(with)), Response(one(s)), false) {
					t.Errorf("%q: %+v, %+v; and %q: %+v, %+v", s, Request(one(s)), Response(one(s)), with, Request(one(with)), Response(one(with)))
				}
			}
		}
	})
}

// R1: long values, and many fields.
func TestLong(t *testing.T) {
	const n = 1 << 16
	for _, part := range []string{"x", "x,", ",", " ", "\"", "\\", "\"\\", "max-age=9,", "max-age=", "=", "9", "é", "\xff", "no-cache,", "max-stale,"} {
		long := strings.Repeat(part, n)
		for _, l := range [][]api.Field{
			one(long), one("max-age=" + long), one("max-age=\"" + long + "\""), one("max-age=7," + long), fields("Pragma:" + long), fields("Pragma:no-cache," + long),
			{{Name: long, Value: "no-cache"}, {Name: "Pragma", Value: "no-cache"}},
		} {
			asModel(t, l)
		}
	}
	var many, unlike []api.Field
	for i := range n {
		many = append(many, one("max-age="+strconv.Itoa(n+9-i)+", min-fresh="+strconv.Itoa(i)+", max-stale="+strconv.Itoa(n+i))...)
		unlike = append(unlike, one("x-"+strconv.Itoa(i)+"="+strconv.Itoa(i)+", no-store-"+strconv.Itoa(i))...)
	}
	both(t, many, with("max-age=10", "min-fresh=65535", "max-stale=65536"), with("max-age=10"))
	both(t, unlike, none, none)
	both(t, append(unlike, one("no-store")...), with("no-store"), with("no-store"))
	both(t, append(slices.Repeat(fields("X:1"), n), fields("pragma:no-cache")...), with("no-cache"), none)
}

// R3, R7: room behind the list stays as it is, and the same call answers the same again.
func TestApart(t *testing.T) {
	l := append(make([]api.Field, 0, 16), fields("Cache-Control:b, a, max-age=5, max-age=3", "X:1", "cache-control:min-fresh=9, private", "Pragma:no-cache")...)
	full, was := l[:cap(l)], slices.Clone(l[:cap(l)])
	asked, told := Request(l), Response(l)
	Request(one("no-store, max-age=1, max-stale=2"))
	Response(one("no-store, max-age=1, s-maxage=2"))
	if !slices.Equal(full, was) {
		t.Errorf("%s", shown(full))
	}
	both(t, l, asked, told)
}
