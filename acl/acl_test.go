package acl

import (
	"fmt"
	"math"
	"math/rand"
	"regexp"
	"slices"
	"strings"
	"testing"

	"tollhouse/api"
	"tollhouse/sample"
)

// The limits, as the chapters have them.
const (
	longestHost  = 64
	greatestPort = 65535
	manyMethods  = 8
	manyRules    = 16
)

// The model below says what rules may be by regular expressions, and which ones match by going through all that could be more.
var (
	hostForm    = regexp.MustCompile(`^[a-z0-9-]+(\.[a-z0-9-]+)*$`)
	numericForm = regexp.MustCompile(`(^|\.)([0-9]+|0x[0-9a-f]*)$`)
	fourForm    = regexp.MustCompile(`^(25[0-5]|2[0-4][0-9]|1[0-9][0-9]|[1-9]?[0-9])(\.(25[0-5]|2[0-4][0-9]|1[0-9][0-9]|[1-9]?[0-9])){3}$`)
	tokenForm   = regexp.MustCompile("^[-a-zA-Z0-9!#$%&'*+.^_`|~]+$")
)

func modelIsHost(s string) bool {
	return len(s) <= longestHost && hostForm.MatchString(s) && (!numericForm.MatchString(s) || fourForm.MatchString(s))
}

func modelMay(r api.Rule) bool {
	host := r.Host == "*" || modelIsHost(r.Host) || r.Host != "" && r.Host[0] == '.' && modelIsHost(r.Host[1:])
	ports := r.Low >= 1 && r.Low <= greatestPort && r.High >= 1 && r.High <= greatestPort && !(r.Low > r.High)
	tokens := 0
	for _, m := range r.Methods {
		if tokenForm.MatchString(m) {
			tokens++
		}
	}
	return host && ports && tokens == len(r.Methods) && tokens <= manyMethods
}

func modelAll(l []api.Rule) bool {
	count := 0
	for _, r := range l {
		if modelMay(r) {
			count++
		}
	}
	return count == len(l) && count <= manyRules
}

func modelCovers(name, host string) bool {
	if name == "*" {
		return true
	}
	if name == "" || name[0] != '.' {
		return host == name
	}
	for more := 1; more <= len(host); more++ {
		if host[more:] == name {
			return true
		}
	}
	return false
}

func modelMatches(r api.Rule, a ask) bool {
	listed := 0
	for _, m := range r.Methods {
		if m == a.method {
			listed++
		}
	}
	return modelCovers(r.Host, a.host) && !(a.port < r.Low) && !(a.port > r.High) && (listed > 0 || len(r.Methods) == 0)
}

// modelAdmits goes from the last rule to the first: what stands ahead has the last word.
func modelAdmits(l []api.Rule, a ask) bool {
	says := false
	for _, r := range slices.Backward(l) {
		if modelMatches(r, a) {
			says = r.Allow
		}
	}
	return says
}

// ask is what rules are asked.
type ask struct {
	host   string
	port   int
	method string
}

func shown(l ...api.Rule) string {
	var parts []string
	for _, r := range l {
		part := fmt.Sprintf("{%v %s %d-%d", r.Allow, sample.Shown(r.Host), r.Low, r.High)
		for _, m := range r.Methods {
			part += " " + sample.Shown(m)
		}
		parts = append(parts, part+"}")
	}
	return strings.Join(parts, " ")
}

// of is a rule of a host, of all ports that may be and all methods.
func of(host string) api.Rule { return api.Rule{Allow: true, Host: host, Low: 1, High: greatestPort} }

// to is a rule of some ports.
func to(low, high int) api.Rule { return api.Rule{Allow: true, Host: "*", Low: low, High: high} }

// by is a rule of some methods.
func by(methods ...string) api.Rule {
	return api.Rule{Allow: true, Host: "*", Low: 1, High: greatestPort, Methods: methods}
}

// denying is the rule, denying.
func denying(r api.Rule) api.Rule {
	r.Allow = false
	return r
}

// may checks what May tells, whatever the rule says in Allow, and what All tells of it alone.
func may(t *testing.T, r api.Rule, want bool) {
	t.Helper()
	for _, r := range []api.Rule{r, denying(r)} {
		if May(r) != want || All([]api.Rule{r}) != want {
			t.Errorf("May, All of %s: %v, %v; want %v", shown(r), May(r), All([]api.Rule{r}), want)
		}
	}
	if modelMay(r) != want {
		t.Errorf("the model, of %s: %v", shown(r), !want)
	}
}

func mayAsModel(t *testing.T, r api.Rule) {
	t.Helper()
	may(t, r, modelMay(r))
}

func all(t *testing.T, l []api.Rule, want bool) {
	t.Helper()
	if All(l) != want || modelAll(l) != want {
		t.Errorf("All(%s): %v, by the model %v; want %v", shown(l...), All(l), modelAll(l), want)
	}
}

// matches checks what Matches tells, whatever the rule says in Allow, and what Admits tells of it alone.
func matches(t *testing.T, r api.Rule, host string, port int, method string, want bool) {
	t.Helper()
	a := ask{host, port, method}
	r.Allow = true
	for _, r := range []api.Rule{r, denying(r)} {
		if Matches(r, host, port, method) != want {
			t.Errorf("Matches(%s, %s, %d, %s): %v", shown(r), sample.Shown(host), port, sample.Shown(method), !want)
		}
		admits(t, []api.Rule{r}, a, want && r.Allow)
	}
	if modelMatches(r, a) != want {
		t.Errorf("the model, of %s, %v: %v", shown(r), a, !want)
	}
}

func matchesAsModel(t *testing.T, r api.Rule, a ask) {
	t.Helper()
	matches(t, r, a.host, a.port, a.method, modelMatches(r, a))
}

func admits(t *testing.T, l []api.Rule, a ask, want bool) {
	t.Helper()
	if Admits(l, a.host, a.port, a.method) != want {
		t.Errorf("Admits(%s, %s, %d, %s): %v", shown(l...), sample.Shown(a.host), a.port, sample.Shown(a.method), !want)
	}
	if modelAdmits(l, a) != want {
		t.Errorf("the model, of %s, %v: %v", shown(l...), a, !want)
	}
}

func admitsAsModel(t *testing.T, l []api.Rule, a ask) {
	t.Helper()
	admits(t, l, a, modelAdmits(l, a))
}

// host is a host of that many bytes.
func host(size int) string { return strings.Repeat("abcdef.", size)[:size-1] + "z" }

// someRules are rules that may be, and that may not be, of which many match the same.
var someRules = []api.Rule{
	of("*"), denying(of("*")), of("a"), denying(of(".a")), of(".b.a"), denying(of("b.a")),
	denying(to(80, 80)), to(80, 443), to(443, 80), {Allow: true, Host: "a", Low: 0, High: 80},
	by("GET", "HEAD"), denying(by("GET")), by("get", ""), {Allow: true, Host: "b.a", Low: 443, High: 443, Methods: []string{"CONNECT"}},
	{}, {Allow: true}, {Host: "A", Low: -1, High: 1 << 20}, of("."), denying(of("")),
}

// someAsks likewise.
var someAsks = []ask{
	{"a", 80, "GET"}, {"b.a", 80, "GET"}, {"b.a", 443, "CONNECT"}, {"c.b.a", 81, "POST"}, {"ba", 444, "get"}, {".a", 80, "HEAD"},
	{"c", 80, "get"}, {"c", 65535, ""}, {"", 0, ""}, {"", 80, "GET"}, {"A", 443, "GET"}, {"*", 1, "GET"}, {"a.", 65536, "x"},
}

// P14.1, P14.2: the chapter's examples.
func TestExamples(t *testing.T) {
	r := api.Rule{Host: ".b.c", Low: 80, High: 80}
	matches(t, r, "a.b.c", 80, "GET", true)
	matches(t, r, "b.c", 80, "GET", false)
	matches(t, r, ".b.c", 80, "GET", false)
	l := []api.Rule{denying(of("a")), by("GET")}
	admits(t, l, ask{"a", 80, "GET"}, false)
	admits(t, l, ask{"b", 80, "GET"}, true)
	admits(t, l, ask{"b", 80, "POST"}, false)
	all(t, l, true)
	may(t, of("A"), false)
	may(t, to(0, 80), false)
	may(t, to(2, 1), false)
	may(t, by(""), false)
}

// P14.1: the Hosts that may be: "*", a host, '.' and a host.
func TestMayHost(t *testing.T) {
	may(t, of("*"), true)
	for _, h := range []string{"a", "z9", "a.b", "www.example.com", "a-b.c-d", "-", "1.a", "1.2.3.4", "0.0.0.0", "255.255.255.255", "0xg", "x.0.1.b"} {
		may(t, of(h), true)
		may(t, of("."+h), true)
		may(t, of(".."+h), false)
		may(t, of(h+"."), false)
		may(t, of("*"+h), false)
		may(t, of("*."+h), false)
		may(t, of(".*."+h), false)
		may(t, of(h+".*"), false)
		may(t, of(" "+h), false)
		may(t, of(h+":80"), false)
		may(t, of("http://"+h), false)
	}
	for _, h := range []string{
		"", "A", "aB", "www.Example.com", "a..b", "a_b", "a b", "a/", "a:80", "u@a", "[::1]", "a%41", "é", "\xff", "a\x00", "\n", "a,b", "٣", "\u212a",
		"1", "01", "0x7f", "127.1", "1.2.3", "1.2.3.4.5", "1.2.3.04", "256.0.0.0", "a.1", "a.0xff", "*", "**", "?",
	} {
		may(t, of(h), h == "*")
		may(t, of("."+h), false)
	}
	may(t, of("."), false)
	may(t, of(".."), false)
	may(t, of("..."), false)
	may(t, of(".*"), false)
	may(t, of("*."), false)
	may(t, of("**"), false)
}

// P14.1: a host has 64 bytes; the '.' ahead of it is not of it.
func TestMayHostSize(t *testing.T) {
	for size := 1; size <= 2*longestHost+2; size++ {
		may(t, of(host(size)), size <= longestHost)
		may(t, of("."+host(size)), size <= longestHost)
	}
	for _, part := range []string{"a", ".", "*", "a.", "1", "\xff", "A"} {
		may(t, of(strings.Repeat(part, 1<<20)), false)
		may(t, of("."+strings.Repeat(part, 1<<20)), false)
	}
}

// P14.1: each byte at each place of a Host, and all short ones of what matters.
func TestMayHostBytes(t *testing.T) {
	for _, h := range []string{"*", ".", "a", ".a", "a.b", ".ab.c", ".1.2.3.4", ".a.0xg"} {
		mayAsModel(t, of(h))
		sample.Anywhere(h, func(h string) { mayAsModel(t, of(h)) })
	}
	sample.Texts([]string{".", "*", "a", "1", "0x", "-", "B", " "}, 5, func(h string) { mayAsModel(t, of(h)) })
}

// P14.1: ports are from 1 to 65535, Low not above High.
func TestMayPorts(t *testing.T) {
	may(t, to(1, 1), true)
	may(t, to(1, 65535), true)
	may(t, to(65535, 65535), true)
	may(t, to(80, 80), true)
	may(t, to(80, 81), true)
	may(t, to(81, 80), false)
	may(t, to(0, 0), false)
	may(t, to(0, 1), false)
	may(t, to(1, 0), false)
	may(t, to(1, 65536), false)
	may(t, to(65535, 65536), false)
	may(t, to(65536, 65536), false)
	may(t, to(65536, 65535), false)
	may(t, to(65535, 65534), false)
	numbers := []int{math.MinInt, math.MinInt32, -65535, -80, -1, 0, 1, 2, 79, 80, 81, 443, 65534, 65535, 65536, 65537, 65536 + 80, 1<<32 + 1, 1<<32 + 80, math.MaxInt32, math.MaxInt - 1, math.MaxInt}
	for _, low := range numbers {
		for _, high := range numbers {
			may(t, to(low, high), low >= 1 && low <= high && high <= greatestPort)
		}
	}
	for n := -2; n <= 65540; n++ { // each one, as both, and just above one another
		may(t, to(n, n), n >= 1 && n <= greatestPort)
		may(t, to(n, n+1), n >= 1 && n < greatestPort)
		may(t, to(n+1, n), false)
	}
}

// P14.1: at most 8 Methods, each a token; one may stand twice.
func TestMayMethods(t *testing.T) {
	may(t, by(), true)
	may(t, by([]string{}...), true)
	for _, m := range []string{"GET", "get", "GeT", "CONNECT", "M-SEARCH", "a", "Z", "7", "!#$%&'*+-.^_`|~", "*", ".", strings.Repeat("x", 1<<16)} {
		for count := 1; count <= 2*manyMethods+2; count++ {
			may(t, by(slices.Repeat([]string{m}, count)...), count <= manyMethods)
		}
	}
	eight := []string{"GET", "HEAD", "POST", "PUT", "DELETE", "CONNECT", "OPTIONS", "TRACE"}
	may(t, by(eight...), true)
	may(t, by(append(eight, "PATCH")...), false)
	may(t, by(append(eight, "GET")...), false)
	for _, m := range []string{"", " ", "GET ", " GET", "GE T", "\t", "a,b", "GET,HEAD", "a/b", "(", "é", "\xff", "GET\r\n", "a\x00", "\x7f", "a=b", "\"GET\"", "[", "@"} {
		may(t, by(m), false)
		for at := range eight { // wherever it stands
			l := slices.Clone(eight)
			l[at] = m
			may(t, by(l...), false)
			may(t, by(l[:at+1]...), false)
		}
	}
	sample.Anywhere("", func(m string) { mayAsModel(t, by(m)) })
	sample.Anywhere("aZ-", func(m string) { mayAsModel(t, by("GET", m)) })
}

// P14.1: a rule must be all of it.
func TestMayParts(t *testing.T) {
	hosts := []string{"*", "a.b", ".a.b", "1.2.3.4", "", ".", "A", ".1"}
	ports := [][2]int{{1, 65535}, {80, 80}, {0, 80}, {81, 80}, {80, 65536}}
	methods := [][]string{nil, {}, {"GET"}, {"GET", "x"}, {""}, {"GET", "a b"}, slices.Repeat([]string{"GET"}, manyMethods), slices.Repeat([]string{"GET"}, manyMethods+1)}
	for h, host := range hosts {
		for p, port := range ports {
			for m, l := range methods {
				r := api.Rule{Host: host, Low: port[0], High: port[1], Methods: l}
				may(t, r, h < 4 && p < 2 && m != 4 && m != 5 && m != 7)
			}
		}
	}
	may(t, api.Rule{}, false)
	may(t, api.Rule{Host: "a"}, false)
	may(t, api.Rule{Low: 1, High: 1}, false)
}

// P14.1: at most 16 rules, each of which may be.
func TestAll(t *testing.T) {
	all(t, nil, true)
	all(t, []api.Rule{}, true)
	for _, r := range []api.Rule{of("*"), denying(of(".a")), to(80, 80), by("GET")} {
		for count := 1; count <= 2*manyRules+2; count++ {
			all(t, slices.Repeat([]api.Rule{r}, count), count <= manyRules)
		}
	}
	if api.MaxRules != manyRules {
		t.Error(api.MaxRules)
	}
	for _, bad := range []api.Rule{{}, of(""), of("."), of("A"), to(0, 1), to(2, 1), to(1, 65536), by(""), by("a b"), by(slices.Repeat([]string{"GET"}, manyMethods+1)...), denying(of("a."))} {
		for count := 1; count <= manyRules+1; count++ {
			for at := range count { // the last one, too
				l := slices.Repeat([]api.Rule{of("a")}, count)
				l[at] = bad
				all(t, l, false)
			}
		}
	}
}

// P14.1: all short rows of rules that may be, and that may not.
func TestAllShort(t *testing.T) {
	sample.Rows(someRules, 3, func(l []api.Rule) { all(t, l, modelAll(l)) })
}

// P14.2: the Host "*".
func TestMatchesAny(t *testing.T) {
	for _, h := range []string{"a", "a.b", "1.2.3.4", "", "*", ".", ".a", "A", "a b", "\xff", "é", "a:80", strings.Repeat("a", 1000)} {
		matches(t, of("*"), h, 80, "GET", true)
	}
}

// P14.2: a host is just that one.
func TestMatchesHost(t *testing.T) {
	for _, h := range []string{"a", "b.a", "1.2.3.4", "x-y.z", host(longestHost)} {
		matches(t, of(h), h, 80, "GET", true)
		for _, other := range []string{"", "." + h, h + ".", "x" + h, h + "x", "x." + h, h + ".x", h[:len(h)-1], h[1:], "*", "*." + h, h + ":80", h + " ", " " + h, h + "\x00", h + h} {
			matches(t, of(h), other, 80, "GET", false)
		}
	}
	matches(t, of("a"), "A", 80, "GET", false)
	matches(t, of("b.a"), "b.A", 80, "GET", false)
	matches(t, of("b.a"), "bxa", 80, "GET", false)
	matches(t, of("b.a"), "b", 80, "GET", false)
	matches(t, of("b.a"), "a", 80, "GET", false)
	matches(t, of("1.2.3.4"), "1.2.3.40", 80, "GET", false)
}

// P14.2: '.' and a host: what ends with it, and has more; not the host itself, and not one that ends so by letters alone.
func TestMatchesWithin(t *testing.T) {
	for _, h := range []string{"a", "b.a", "1.2.3.4", "x-y.z"} {
		r := of("." + h)
		for _, more := range []string{"a", "b", "x.y", "-", "1", "www.example", "a.a", h, "." + h, ".", "..", "*", " ", "A", "\xff", "\x00", strings.Repeat("x", 1000)} {
			matches(t, r, more+"."+h, 80, "GET", true)
			matches(t, r, more+"."+h+".", 80, "GET", false)
			matches(t, r, more+"."+h+"x", 80, "GET", false)
			matches(t, r, more+"."+h+".x", 80, "GET", false)
		}
		for _, other := range []string{"", ".", h, "." + h, "x" + h, "-" + h, "1" + h, h + ".", h[1:], "*" + h, "x." + h[1:], "x-" + h, "xx" + h} {
			matches(t, r, other, 80, "GET", false)
		}
		matches(t, r, h+h, 80, "GET", false)
	}
	matches(t, of(".b.a"), "c.b.a", 80, "GET", true)
	matches(t, of(".b.a"), "cb.a", 80, "GET", false)
	matches(t, of(".b.a"), "c.a", 80, "GET", false)
	matches(t, of(".b.a"), "c.bxa", 80, "GET", false)
	matches(t, of(".b.a"), "c.b.A", 80, "GET", false)
	matches(t, of(".b.a"), "c.B.a", 80, "GET", false)
}

// P14.2: Hosts that may not be are asked as any others; none of their bytes has a meaning but "*" and the '.' ahead.
func TestMatchesAnyRule(t *testing.T) {
	matches(t, of(""), "", 80, "GET", true)
	matches(t, of(""), "a", 80, "GET", false)
	matches(t, of("."), "", 80, "GET", false)
	matches(t, of("."), ".", 80, "GET", false)
	matches(t, of("."), "a", 80, "GET", false)
	matches(t, of("."), "a.", 80, "GET", true)
	matches(t, of("."), "..", 80, "GET", true)
	matches(t, of("."), ".a", 80, "GET", false)
	matches(t, of(".."), "a..", 80, "GET", true)
	matches(t, of(".."), "a.", 80, "GET", false)
	matches(t, of(".."), "..", 80, "GET", false)
	matches(t, of(".."), "...", 80, "GET", true)
	matches(t, of("..a"), "b..a", 80, "GET", true)
	matches(t, of("..a"), "b.a", 80, "GET", false)
	matches(t, of("A"), "A", 80, "GET", true)
	matches(t, of("A"), "a", 80, "GET", false)
	matches(t, of(".A"), "b.A", 80, "GET", true)
	matches(t, of(".A"), "b.a", 80, "GET", false)
	matches(t, of("**"), "a", 80, "GET", false)
	matches(t, of("**"), "**", 80, "GET", true)
	matches(t, of("*a"), "a", 80, "GET", false)
	matches(t, of("*a"), "*a", 80, "GET", true)
	matches(t, of("*a"), "ba", 80, "GET", false)
	matches(t, of("*.a"), "b.a", 80, "GET", false)
	matches(t, of("*.a"), "*.a", 80, "GET", true)
	matches(t, of(".*"), "a.b", 80, "GET", false)
	matches(t, of(".*"), "a.*", 80, "GET", true)
	matches(t, of("*."), "a.", 80, "GET", false)
	matches(t, of("a."), "a", 80, "GET", false)
	matches(t, of("a."), "a.", 80, "GET", true)
	matches(t, of("a b"), "a b", 80, "GET", true)
	matches(t, of("a*"), "ab", 80, "GET", false)
	matches(t, of("a?"), "ab", 80, "GET", false)
	matches(t, of("[a"), "[a", 80, "GET", true)
	matches(t, of("\xff"), "\xff", 80, "GET", true)
	matches(t, of("\xff"), "\xfe", 80, "GET", false)
	matches(t, of("\xff"), "\ufffd", 80, "GET", false)
	matches(t, of(".\x80"), "\xff.\x80", 80, "GET", true)
	matches(t, of("\u212a"), "k", 80, "GET", false)
	long := strings.Repeat("a", 1<<20)
	matches(t, of(long), long, 80, "GET", true)
	matches(t, of(long), long+"a", 80, "GET", false)
	matches(t, of("."+long), "a."+long, 80, "GET", true)
	matches(t, of("."+long), long, 80, "GET", false)
}

// P14.2: ports from Low to High, both of them too.
func TestMatchesPort(t *testing.T) {
	for _, ports := range [][2]int{{1, 1}, {1, 2}, {80, 80}, {80, 81}, {80, 90}, {443, 8443}, {65535, 65535}, {1, 65535}, {0, 0}, {0, 65536}, {-5, 5}, {65536, 70000}} {
		r := to(ports[0], ports[1])
		for n := ports[0] - 3; n < ports[0]; n++ {
			matches(t, r, "a", n, "GET", false)
		}
		for _, n := range []int{ports[0], (ports[0] + ports[1]) / 2, ports[1]} {
			matches(t, r, "a", n, "GET", true)
		}
		for n := ports[1] + 1; n < ports[1]+4; n++ {
			matches(t, r, "a", n, "GET", false)
		}
	}
	for n := -1; n <= 100; n++ {
		matches(t, to(10, 20), "a", n, "GET", n >= 10 && n <= 20)
		matches(t, to(20, 10), "a", n, "GET", false) // from 20 to 10 there is none
		matches(t, to(11, 10), "a", n, "GET", false)
	}
	for _, n := range []int{math.MinInt, math.MinInt32, -80, 80 - 65536, 65536 + 80, 1<<32 + 80, math.MaxInt32, math.MaxInt} { // their lowest bits alone are 80
		matches(t, to(80, 80), "a", n, "GET", false)
		matches(t, to(1, greatestPort), "a", n, "GET", false)
		matches(t, to(n, n), "a", n, "GET", true)
		matches(t, to(math.MinInt, math.MaxInt), "a", n, "GET", true)
		matches(t, to(math.MaxInt, math.MinInt), "a", n, "GET", false)
	}
	matches(t, to(0, 0), "a", 0, "GET", true)
	matches(t, to(1, greatestPort), "a", 0, "GET", false)
	matches(t, to(1, greatestPort), "a", greatestPort+1, "GET", false)
	matches(t, to(1, greatestPort+1), "a", greatestPort+1, "GET", true)
}

// P14.2: no Methods are all of them; else it is one of them, wherever that stands, with just these letters.
func TestMatchesMethod(t *testing.T) {
	for _, m := range []string{"GET", "get", "", "a b", "\xff", "é", strings.Repeat("x", 1000)} {
		matches(t, by(), "a", 80, m, true)
		matches(t, by([]string{}...), "a", 80, m, true)
		matches(t, by(m), "a", 80, m, true)
		matches(t, by(m), "a", 80, m+"x", false)
		matches(t, by(m+"x"), "a", 80, m, false)
	}
	l := []string{"GET", "HEAD", "post", "Put", "CONNECT", "x", "", "a b", "GET", "nine"} // more than there may be, and none
	for _, m := range l {
		matches(t, by(l...), "a", 80, m, true)
		for _, other := range []string{strings.ToLower(m), strings.ToUpper(m), m + " ", " " + m, m + m, m + ",", m + "\x00"} {
			matches(t, by(l...), "a", 80, other, slices.Contains(l, other))
		}
	}
	for _, m := range []string{"get", "Get", "gET", "G", "GE", "GETS", "XGET", "GET,HEAD", "HEAD", "POST", "*", "\u212a"} {
		matches(t, by("GET"), "a", 80, m, false)
	}
	matches(t, by("get"), "a", 80, "get", true)
	matches(t, by("get"), "a", 80, "GET", false)
	matches(t, by("k"), "a", 80, "\u212a", false)
	matches(t, by("GET", "HEAD"), "a", 80, "", false)
	matches(t, by("*"), "a", 80, "GET", false)
	matches(t, by(""), "a", 80, "GET", false)
}

// P14.2: host, port and method must all be the rule's.
func TestMatchesParts(t *testing.T) {
	r := api.Rule{Host: ".b.a", Low: 80, High: 81, Methods: []string{"GET", "HEAD"}}
	for h, host := range []string{"c.b.a", "d.c.b.a", "b.a", "a", "c"} {
		for p, port := range []int{80, 81, 79, 82, 0} {
			for m, method := range []string{"GET", "HEAD", "get", "POST", ""} {
				matches(t, r, host, port, method, h < 2 && p < 2 && m < 2)
			}
		}
	}
}

// P14.2: each byte at each place of a host and of a method that are asked for, and of the rule's.
func TestMatchesBytes(t *testing.T) {
	for _, s := range []string{"b.a", ".a", "x.b.a", "*", ""} {
		for _, name := range []string{"b.a", ".a", ".b.a", "*", "."} {
			sample.Anywhere(s, func(s string) {
				matchesAsModel(t, of(name), ask{s, 80, "GET"})
				matchesAsModel(t, of(s), ask{name, 80, "GET"})
				matchesAsModel(t, of(s), ask{"x" + name, 80, "GET"})
			})
		}
	}
	sample.Anywhere("GET", func(m string) {
		matchesAsModel(t, by("HEAD", "GET"), ask{"a", 80, m})
		matchesAsModel(t, by("HEAD", m), ask{"a", 80, "GET"})
		matches(t, by("HEAD", m), "a", 80, m, true)
	})
}

// P14.2: all short Hosts with all short hosts.
func TestMatchesShort(t *testing.T) {
	var texts []string
	sample.Texts([]string{".", "a", "b", "*"}, 4, func(s string) { texts = append(texts, s) })
	for _, name := range texts {
		for _, host := range texts {
			a := ask{host, 80, "GET"}
			matches(t, of(name), host, 80, "GET", modelCovers(name, host))
			matchesAsModel(t, to(81, 82), a)
		}
	}
}

// P14.2: without rules, and with one; and where several match, it is the first one that says.
func TestAdmits(t *testing.T) {
	get := ask{"b.a", 80, "GET"}
	admits(t, nil, get, false)
	admits(t, []api.Rule{}, get, false)
	admits(t, nil, ask{}, false)
	hits := []api.Rule{of("*"), of("b.a"), of(".a"), to(80, 80), by("GET"), by("HEAD", "GET")}
	misses := []api.Rule{of("a"), of(".b.a"), of("c"), to(81, 443), to(1, 79), by("get"), by("HEAD")}
	for _, first := range hits {
		for _, then := range hits {
			admits(t, []api.Rule{first}, get, true)
			admits(t, []api.Rule{denying(first)}, get, false)
			admits(t, []api.Rule{first, then}, get, true)
			admits(t, []api.Rule{first, denying(then)}, get, true)
			admits(t, []api.Rule{denying(first), then}, get, false)
			admits(t, []api.Rule{denying(first), denying(then)}, get, false)
			admits(t, []api.Rule{denying(first), then, then}, get, false)
			admits(t, []api.Rule{first, denying(then), denying(then)}, get, true)
			for _, miss := range misses { // ahead of, between, and behind
				for _, miss := range []api.Rule{miss, denying(miss)} {
					admits(t, []api.Rule{miss}, get, false)
					admits(t, []api.Rule{miss, first, denying(then)}, get, true)
					admits(t, []api.Rule{first, miss, denying(then)}, get, true)
					admits(t, []api.Rule{first, denying(then), miss}, get, true)
					admits(t, []api.Rule{miss, denying(first), then}, get, false)
					admits(t, []api.Rule{denying(first), miss, then}, get, false)
					admits(t, []api.Rule{denying(first), then, miss}, get, false)
					admits(t, []api.Rule{miss, miss, miss, first, miss, denying(then), miss}, get, true)
				}
			}
		}
	}
}

// P14.2: what a tenant's rules could be, asked for what they name and what they do not.
func TestAdmitsSome(t *testing.T) {
	l := []api.Rule{
		denying(of("secret.example")),
		denying(of(".secret.example")),
		{Allow: true, Host: ".example", Low: 80, High: 80, Methods: []string{"GET", "HEAD"}},
		{Allow: true, Host: "example", Low: 8000, High: 8999},
		{Host: "10.0.0.1", Low: 22, High: 22, Methods: []string{"CONNECT"}},
		{Allow: true, Host: "*", Low: 1, High: greatestPort, Methods: []string{"CONNECT"}},
	}
	all(t, l, true)
	for a, want := range map[ask]bool{
		{"secret.example", 80, "GET"}: false, {"a.secret.example", 80, "GET"}: false, {"a.secret.example", 443, "CONNECT"}: false,
		{"notsecret.example", 80, "GET"}: true, {"www.example", 80, "HEAD"}: true, {"www.example", 80, "POST"}: false, {"www.example", 81, "GET"}: false, {"www.example", 80, "get"}: false,
		{"example", 80, "GET"}: false, {"example", 8000, "POST"}: true, {"example", 8999, ""}: true, {"example", 7999, "GET"}: false, {"example", 9000, "GET"}: false, {"example", 9000, "CONNECT"}: true,
		{"10.0.0.1", 22, "CONNECT"}: false, {"10.0.0.1", 23, "CONNECT"}: true, {"10.0.0.2", 22, "CONNECT"}: true, {"10.0.0.1", 22, "GET"}: false,
		{"other", 0, "CONNECT"}: false, {"other", 65536, "CONNECT"}: false, {"other", 65535, "CONNECT"}: true, {"other", 1, "connect"}: false,
	} {
		admits(t, l, a, want)
	}
}

// P14.2: many rules, more than there may be: the first one that matches says, wherever it stands.
func TestAdmitsMany(t *testing.T) {
	get := ask{"a", 80, "GET"}
	for _, count := range []int{1, 2, manyRules - 1, manyRules, manyRules + 1, 1000} {
		misses := slices.Repeat([]api.Rule{denying(to(81, 90))}, count)
		admits(t, misses, get, false)
		admits(t, append(slices.Clone(misses), of("a")), get, true)
		admits(t, append(slices.Clone(misses), denying(of("a")), of("a")), get, false)
		admits(t, append([]api.Rule{of("a")}, misses...), get, true)
		for at := range min(count, 20) {
			l := slices.Clone(misses)
			l[at] = of("a")
			admits(t, l, get, true)
			l = slices.Insert(l, at, denying(of("a")))
			admits(t, l, get, false)
			l = slices.Repeat([]api.Rule{of("a")}, count)
			l[at] = denying(of("a"))
			admits(t, l, get, at > 0)
		}
	}
}

// P14.2: all short rows of rules, with all asks.
func TestAdmitsShort(t *testing.T) {
	sample.Rows(someRules, 3, func(l []api.Rule) {
		for _, a := range someAsks {
			admitsAsModel(t, l, a)
		}
	})
	for _, r := range someRules {
		for _, a := range someAsks {
			matchesAsModel(t, r, a)
		}
	}
}

// lots calls f with rules and asks by lot, though the same ones in each run.
func lots(seed int64, count int, f func(l []api.Rule, a ask, lot *rand.Rand)) {
	lot := rand.New(rand.NewSource(seed))
	hosts := []string{"*", "a", "b.a", ".a", ".b.a", "c.b.a", "ba", "", ".", "A"}
	ports := []int{0, 1, 79, 80, 81, 443, 65535, 65536}
	methods := []string{"GET", "HEAD", "get", "", "a b"}
	for range count {
		l := make([]api.Rule, lot.Intn(manyRules+3))
		for i := range l {
			l[i] = api.Rule{Allow: lot.Intn(2) == 0, Host: hosts[lot.Intn(len(hosts))], Low: ports[lot.Intn(4)], High: ports[2+lot.Intn(6)]}
			for range lot.Intn(3) {
				l[i].Methods = append(l[i].Methods, methods[lot.Intn(len(methods))])
			}
		}
		f(l, ask{hosts[lot.Intn(len(hosts))], ports[lot.Intn(len(ports))], methods[lot.Intn(len(methods))]}, lot)
	}
}

// P14.1, P14.2: by lot.
func TestLots(t *testing.T) {
	told := map[bool]int{}
	lots(14, 20000, func(l []api.Rule, a ask, _ *rand.Rand) {
		admitsAsModel(t, l, a)
		all(t, l, modelAll(l))
		for _, r := range l {
			matchesAsModel(t, r, a)
			mayAsModel(t, r)
		}
		told[Admits(l, a.host, a.port, a.method)]++
	})
	if told[true] < 2000 || told[false] < 2000 {
		t.Error(told)
	}
}

// P14.3: rules behind one that matches say nothing, nor do those that do not match; without one that allows nothing is admitted.
func TestSayNothing(t *testing.T) {
	lots(143, 5000, func(l []api.Rule, a ask, lot *rand.Rand) {
		is := func(r api.Rule) bool { return Matches(r, a.host, a.port, a.method) }
		want := Admits(l, a.host, a.port, a.method)
		if at := slices.IndexFunc(l, is); at >= 0 {
			admits(t, l[:at+1], a, want)
			admits(t, slices.Concat(l[:at+1], l, l), a, want)
			admits(t, append(slices.Clone(l[:at+1]), denying(of("*"))), a, want)
			admits(t, append(slices.Clone(l[:at+1]), of("*")), a, want)
			behind := slices.Clone(l[at+1:])
			lot.Shuffle(len(behind), func(i, j int) { behind[i], behind[j] = behind[j], behind[i] })
			for i := range behind {
				behind[i].Allow = !behind[i].Allow
			}
			admits(t, slices.Concat(l[:at+1], behind), a, want)
		} else if want {
			t.Errorf("no rule of %s matches %v, which is admitted", shown(l...), a)
		}
		admits(t, slices.DeleteFunc(slices.Clone(l), func(r api.Rule) bool { return !is(r) }), a, want)
		for _, miss := range []api.Rule{{}, to(444, 445), denying(to(2, 1)), by("none"), denying(of("no.such")), of(".no.such")} {
			if is(miss) {
				continue
			}
			at := lot.Intn(len(l) + 1)
			admits(t, slices.Insert(slices.Clone(l), at, miss, denying(miss)), a, want)
		}
		none := slices.DeleteFunc(slices.Clone(l), func(r api.Rule) bool { return r.Allow })
		admits(t, none, a, false)
	})
}

// P14.4: with all that allow behind all others, what one of the others matches is not admitted.
func TestDeniedAhead(t *testing.T) {
	denied := 0
	lots(144, 20000, func(l []api.Rule, a ask, _ *rand.Rand) {
		slices.SortStableFunc(l, func(x, y api.Rule) int {
			switch {
			case x.Allow == y.Allow:
				return 0
			case x.Allow:
				return 1
			}
			return -1
		})
		one, allowing := false, false
		for _, r := range l {
			if Matches(r, a.host, a.port, a.method) {
				one, allowing = one || !r.Allow, allowing || r.Allow
			}
		}
		admits(t, l, a, !one && allowing)
		if one && allowing {
			denied++
		}
	})
	if denied < 1000 {
		t.Error(denied)
	}
}

// R3: what is handed in is only read.
func TestOnlyRead(t *testing.T) {
	deep := func(l []api.Rule) []api.Rule {
		c := slices.Clone(l)
		for i := range c {
			c[i].Methods = slices.Clone(c[i].Methods)
		}
		return c
	}
	same := func(x, y api.Rule) bool {
		return x.Allow == y.Allow && x.Host == y.Host && x.Low == y.Low && x.High == y.High && slices.Equal(x.Methods, y.Methods)
	}
	lots(3, 2000, func(l []api.Rule, a ask, _ *rand.Rand) {
		ahead := deep(l)
		for range 2 {
			admitsAsModel(t, l, a)
			all(t, l, modelAll(l))
			for _, r := range l {
				mayAsModel(t, r)
				matchesAsModel(t, r, a)
			}
		}
		if !slices.EqualFunc(l, ahead, same) {
			t.Errorf("it was %s, and is %s", shown(ahead...), shown(l...))
		}
	})
}
