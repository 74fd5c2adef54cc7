package auth

import (
	"fmt"
	"math"
	"math/rand"
	"regexp"
	"slices"
	"strings"
	"testing"
	"unsafe"

	"tollhouse/acl"
	"tollhouse/api"
	"tollhouse/head"
	"tollhouse/sample"
)

// The limits, as the chapter has them.
const (
	longestToken = 64
	manyTenants  = 8
	manySlots    = 16
	longestTime  = 1099511627776
	ownField     = "Proxy-Authorization"
)

// The model below says what tokens and credentials are by regular expressions, and which numbers may be by putting them within their limits.
var (
	tokenForm      = regexp.MustCompile(`^[A-Za-z0-9._~+/-]+=*$`)
	credentialForm = regexp.MustCompile(`^[Bb][Ee][Aa][Rr][Ee][Rr] +([^ ]*)$`)
	fieldForm      = regexp.MustCompile(`^[Pp][Rr][Oo][Xx][Yy]-[Aa][Uu][Tt][Hh][Oo][Rr][Ii][Zz][Aa][Tt][Ii][Oo][Nn]$`)
)

// numbers are a tenant's, with their limits.
var numbers = []struct {
	name        string
	least, most int
	of          func(*api.Tenant) *int
}{
	{"Bytes", 0, 262144, func(x *api.Tenant) *int { return &x.Bytes }},
	{"Entries", 0, 64, func(x *api.Tenant) *int { return &x.Entries }},
	{"Slots", 1, manySlots, func(x *api.Tenant) *int { return &x.Slots }},
	{"Conns", 1, 8, func(x *api.Tenant) *int { return &x.Conns }},
	{"Waiters", 0, 16, func(x *api.Tenant) *int { return &x.Waiters }},
	{"Rate", 1, 1000, func(x *api.Tenant) *int { return &x.Rate }},
	{"Burst", 1, 1000, func(x *api.Tenant) *int { return &x.Burst }},
}

func keeps(n, least, most int) bool { return min(max(n, least), most) == n }

func modelMay(s string) bool { return len(s) <= longestToken && tokenForm.MatchString(s) }

func modelTenant(x api.Tenant) bool {
	kept := 0
	for _, n := range numbers {
		if keeps(*n.of(&x), n.least, n.most) {
			kept++
		}
	}
	return kept == len(numbers) && modelMay(x.Token) && acl.All(x.Rules)
}

func modelConfig(c api.Config) bool {
	for i, x := range c.Tenants {
		if !modelTenant(x) {
			return false
		}
		for _, y := range c.Tenants[:i] {
			if x.Token == y.Token {
				return false
			}
		}
	}
	return keeps(len(c.Tenants), 1, manyTenants) && keeps(c.Strangers, 0, manySlots) && keeps(c.Timeout, 1, longestTime)
}

func modelCredential(value string) (string, bool) {
	if m := credentialForm.FindStringSubmatch(value); m != nil && modelMay(m[1]) {
		return m[1], true
	}
	return "", false
}

// modelHolds counts the fields of that name, and those of them that say the token.
func modelHolds(token string, l []api.Field) bool {
	count, saying := 0, 0
	for _, f := range l {
		if !fieldForm.MatchString(f.Name) {
			continue
		}
		count++
		if own, ok := modelCredential(f.Value); ok && own == token {
			saying++
		}
	}
	return count == 1 && saying == 1
}

// small is a tenant with the least of all that may be.
func small(token string) api.Tenant {
	return api.Tenant{Token: token, Slots: 1, Conns: 1, Rate: 1, Burst: 1}
}

// great is a tenant with the most of all that may be.
func great(token string) api.Tenant {
	x := api.Tenant{Token: token, Rules: slices.Repeat([]api.Rule{{Allow: true, Host: "*", Low: 1, High: 65535}}, 16)}
	for _, n := range numbers {
		*n.of(&x) = n.most
	}
	return x
}

// of is a configuration of small tenants of these tokens.
func of(tokens ...string) api.Config {
	c := api.Config{Timeout: 1}
	for _, token := range tokens {
		c.Tenants = append(c.Tenants, small(token))
	}
	return c
}

// unlikeTokens are that many, no two of them one.
func unlikeTokens(count int) []string {
	var l []string
	for n := range count {
		l = append(l, fmt.Sprintf("t%d", n))
	}
	return l
}

// said is fields with that credential alone.
func said(value string) []api.Field { return []api.Field{{Name: ownField, Value: value}} }

func shown(l []api.Field) string {
	var parts []string
	for _, f := range l {
		parts = append(parts, sample.Shown(f.Name)+": "+sample.Shown(f.Value))
	}
	return strings.Join(parts, "; ")
}

// may checks what May tells, and what Tenant and Config tell of a tenant of that token.
func may(t *testing.T, token string, want bool) {
	t.Helper()
	if May(token) != want || modelMay(token) != want {
		t.Errorf("May(%s): %v, by the model %v; want %v", sample.Shown(token), May(token), modelMay(token), want)
	}
	tenant(t, small(token), want)
}

func mayAsModel(t *testing.T, token string) {
	t.Helper()
	may(t, token, modelMay(token))
}

// tenant checks what Tenant tells, and what Config tells of it alone, and with another one ahead or behind.
func tenant(t *testing.T, x api.Tenant, want bool) {
	t.Helper()
	if Tenant(x) != want || modelTenant(x) != want {
		t.Errorf("Tenant(%+v): %v, by the model %v; want %v", x, Tenant(x), modelTenant(x), want)
	}
	other := small("~other")
	for _, l := range [][]api.Tenant{{x}, {x, other}, {other, x}} {
		config(t, api.Config{Tenants: l, Timeout: 1}, want)
	}
}

func config(t *testing.T, c api.Config, want bool) {
	t.Helper()
	if Config(c) != want || modelConfig(c) != want {
		t.Errorf("Config(%+v): %v, by the model %v; want %v", c, Config(c), modelConfig(c), want)
	}
}

// credential checks what Credential tells, and that fields of it hold that token, but none other.
func credential(t *testing.T, value, want string, ok bool) {
	t.Helper()
	for _, f := range []func(string) (string, bool){Credential, modelCredential} {
		if token, is := f(value); token != want || is != ok {
			t.Errorf("Credential(%s): %s, %v; want %s, %v", sample.Shown(value), sample.Shown(token), is, sample.Shown(want), ok)
		}
	}
	holds(t, want, said(value), ok)
	for _, other := range []string{"", "=", "a", want + "=", want + "a", "a" + want, strings.ToUpper(want) + "Z", value, value + " "} {
		if other != want {
			holds(t, other, said(value), false)
		}
	}
}

func credentialAsModel(t *testing.T, value string) {
	t.Helper()
	token, ok := modelCredential(value)
	credential(t, value, token, ok)
}

// noCredential checks that none is told.
func noCredential(t *testing.T, value string) {
	t.Helper()
	credential(t, value, "", false)
}

func holds(t *testing.T, token string, l []api.Field, want bool) {
	t.Helper()
	if Holds(token, l) != want || modelHolds(token, l) != want {
		t.Errorf("Holds(%s; %s): %v, by the model %v; want %v", sample.Shown(token), shown(l), Holds(token, l), modelHolds(token, l), want)
	}
}

func holdsAsModel(t *testing.T, token string, l []api.Field) {
	t.Helper()
	holds(t, token, l, modelHolds(token, l))
}

// tokens are some, of which many begin, or end, as others do.
var tokens = []string{"a", "A", "b", "ab", "aB", "a=", "a==", "b=", "aa", "aab", "0", "-", ".", "_", "~", "+", "/", "a/b", "a+b=", "aB1-._~+/=", strings.Repeat("a", longestToken), strings.Repeat("a", longestToken-1), strings.Repeat("a", longestToken-1) + "="}

// noTokens may not be.
var noTokens = []string{
	"", "=", "==", "=a", "=a=", "a=b", "a=b=", "a==b", " ", " a", "a ", "a b", "\t", "a\t", "a,b", "a;", "a:b", "a\"", "\"a\"", "(a)", "a@b", "a!", "#", "$", "%41", "&", "'", "*", "^", "`", "|", "a?", "[a]", "a\\b", "{a}", "<a>",
	"é", "aé", "\xff", "a\xff", "\x00", "a\x00", "a\n", "\r\na", "\x7f", "٣", "\u212a", "ａ", "\u00a0", "a\u00a0", "Bearer a", strings.Repeat("=", longestToken), strings.Repeat("a", longestToken+1), "a" + strings.Repeat("=", longestToken),
}

// P15.1 to P15.3: the chapter's examples.
func TestExamples(t *testing.T) {
	may(t, "aB1-._~+/=", true)
	may(t, "=", false)
	may(t, "a=b", false)
	may(t, "", false)
	credential(t, "Bearer  x", "x", true)
	noCredential(t, "Bearer")
	noCredential(t, "Basic x")
	noCredential(t, "Bearer x y")
	holds(t, "y", said("Bearer y"), true)
	holds(t, "y", said("Bearer Y"), false)
	holds(t, "y", nil, false)
	holds(t, "y", append(said("Bearer y"), said("Bearer y")...), false)
}

// P15.1: tokens, and texts that are none.
func TestMay(t *testing.T) {
	for _, s := range tokens {
		may(t, s, true)
	}
	for _, s := range noTokens {
		may(t, s, false)
	}
	may(t, "abcdefghijklmnopqrstuvwxyz-._~+/", true)
	may(t, "ABCDEFGHIJKLMNOPQRSTUVWXYZ0123456789", true)
}

// P15.1: each count of bytes, with each count of '='s among them.
func TestMaySize(t *testing.T) {
	for size := range 2*longestToken + 3 {
		for filled := range size + 1 {
			may(t, strings.Repeat("x", size-filled)+strings.Repeat("=", filled), size >= 1 && size <= longestToken && filled < size)
		}
	}
	for _, part := range []string{"a", "=", "a=", "\xff", " "} {
		may(t, strings.Repeat(part, 1<<20), false)
	}
	may(t, "a"+strings.Repeat("=", 1<<20), false)
}

// P15.1: a '=' stands behind all others alone.
func TestMayFilled(t *testing.T) {
	for size := 1; size <= 20; size++ {
		for at := range size {
			s := []byte(strings.Repeat("x", size))
			s[at] = '='
			may(t, string(s), at == size-1 && at > 0)
			may(t, string(s)+"=", at == size-1 && at > 0)
		}
	}
	sample.Texts([]string{"a", "=", "/", "=="}, 6, func(s string) { mayAsModel(t, s) })
}

// P15.1: each byte at each place, and all short texts of what matters.
func TestMayBytes(t *testing.T) {
	for _, s := range []string{"", "a", "Z9", "a=", "a==", "=", "-._~+/", "aB1-._~+/=", strings.Repeat("a", longestToken-1), strings.Repeat("a", longestToken), strings.Repeat("a", longestToken-2) + "=="} {
		mayAsModel(t, s)
		sample.Anywhere(s, func(s string) { mayAsModel(t, s) })
	}
	sample.Texts([]string{"a", "Z", "0", "=", "-", " ", ",", "\xc3\xa9"}, 4, func(s string) { mayAsModel(t, s) })
}

// P15.1: a tenant's token is one.
func TestTenantToken(t *testing.T) {
	for _, x := range []api.Tenant{small("a"), great("a")} {
		tenant(t, x, true)
		for _, s := range tokens {
			x.Token = s
			tenant(t, x, true)
		}
		for _, s := range noTokens {
			x.Token = s
			tenant(t, x, false)
		}
	}
	tenant(t, api.Tenant{}, false)
	tenant(t, api.Tenant{Token: "a"}, false)
}

// P15.1: each number at its limits, and beyond, whatever the others are.
func TestTenantNumbers(t *testing.T) {
	for _, x := range []api.Tenant{small("a"), great("a")} {
		for _, n := range numbers {
			tries := []int{math.MinInt, math.MinInt + 1, math.MinInt32, -n.most - 1, -n.most, -2, -1, 0, 1, 2, n.least - 1, n.least, n.least + 1, n.most - 1, n.most, n.most + 1, 2 * n.most, 2*n.most + 1, 1<<16 + 1, 1<<32 + 1, math.MaxInt32, math.MaxInt - 1, math.MaxInt}
			for k := -3; k < min(n.most+3, 1100); k++ {
				tries = append(tries, k)
			}
			for _, k := range tries {
				y := x
				*n.of(&y) = k
				tenant(t, y, k >= n.least && k <= n.most)
			}
		}
	}
}

// P15.1: one number beyond its limits is too many, whichever it is; nor do two make up for each other.
func TestTenantEach(t *testing.T) {
	for i, n := range numbers {
		for j, m := range numbers {
			for _, bad := range []func(k int) int{func(k int) int { return numbers[k].least - 1 }, func(k int) int { return numbers[k].most + 1 }} {
				x := great("a")
				*n.of(&x), *m.of(&x) = bad(i), bad(j)
				tenant(t, x, false)
				*m.of(&x) = numbers[j].least
				tenant(t, x, i == j)
			}
		}
	}
}

// P15.1: a tenant's rules may be.
func TestTenantRules(t *testing.T) {
	open := api.Rule{Host: "*", Low: 1, High: 65535}
	for _, x := range []api.Tenant{small("a"), great("a")} {
		for count := range 40 {
			x.Rules = slices.Repeat([]api.Rule{open}, count)
			tenant(t, x, count <= 16)
			for _, bad := range []api.Rule{{}, {Host: "A", Low: 1, High: 1}, {Host: "a", Low: 0, High: 1}, {Host: "a", Low: 2, High: 1}, {Host: "a", Low: 1, High: 65536}, {Host: "a", Low: 1, High: 1, Methods: []string{""}}, {Allow: true}} {
				for at := range count {
					x.Rules = slices.Repeat([]api.Rule{open}, count)
					x.Rules[at] = bad
					tenant(t, x, false)
				}
			}
		}
		for _, good := range []api.Rule{open, {Allow: true, Host: "a.b", Low: 80, High: 80, Methods: []string{"GET", "CONNECT"}}, {Host: ".b", Low: 443, High: 444}} {
			x.Rules = []api.Rule{good, open, good}
			tenant(t, x, true)
		}
	}
}

// P15.1: 1 to 8 tenants.
func TestConfigCount(t *testing.T) {
	for count := range 2*manyTenants + 4 {
		config(t, of(unlikeTokens(count)...), count >= 1 && count <= manyTenants)
		c := of()
		for _, s := range unlikeTokens(count) {
			c.Tenants = append(c.Tenants, great(s))
		}
		c.Strangers, c.Timeout = manySlots, longestTime
		config(t, c, count >= 1 && count <= manyTenants)
	}
	config(t, of(unlikeTokens(10000)...), false)
	config(t, api.Config{}, false)
	config(t, api.Config{Tenants: []api.Tenant{}, Strangers: 1, Timeout: 1}, false)
}

// P15.1: each tenant may be, wherever it stands.
func TestConfigEach(t *testing.T) {
	over, under := great("x"), small("x")
	over.Burst++
	under.Bytes--
	ruled := small("x")
	ruled.Rules = []api.Rule{{}}
	for _, bad := range []api.Tenant{{}, small(""), small("="), small("a b"), {Token: "x"}, over, under, ruled} {
		for count := 1; count <= manyTenants; count++ {
			for at := range count {
				c := of(unlikeTokens(count)...)
				c.Tenants[at] = bad
				config(t, c, false)
			}
		}
	}
}

// P15.1: the tokens are all unlike, wherever two that are one stand; capital letters are not as small ones.
func TestConfigUnlike(t *testing.T) {
	for count := 2; count <= manyTenants; count++ {
		for i := range count {
			for j := range count {
				l := unlikeTokens(count)
				l[i] = l[j]
				config(t, of(l...), i == j)
			}
		}
		config(t, of(slices.Repeat([]string{"a"}, count)...), false)
	}
	for _, a := range tokens {
		for _, b := range tokens {
			config(t, of(a, b), a != b)
			config(t, of(a, "other", b), a != b)
		}
	}
	config(t, of("a", "A", "a=", "A=", "a==", "A==", "aa", "aA"), true)
	config(t, of("a", "A", "a=", "A=", "a==", "A==", "aa", "a="), false)
	two := of("a", "a")
	two.Tenants[1] = great("a") // one token is enough, whatever else they have
	config(t, two, false)
}

// P15.1: Strangers and Timeout at their limits, and beyond.
func TestConfigNumbers(t *testing.T) {
	strangers := []int{math.MinInt, math.MinInt32, -16, -2, -1, 0, 1, 2, 8, 15, 16, 17, 18, 32, 1 << 16, 1 << 32, 1<<32 + 1, math.MaxInt}
	timeouts := []int{math.MinInt, math.MinInt32, -longestTime, -2, -1, 0, 1, 2, 1000, math.MaxInt32, math.MaxInt32 + 1, longestTime - 1, longestTime, longestTime + 1, 2 * longestTime, math.MaxInt}
	for _, s := range strangers {
		for _, n := range timeouts {
			for count := range 3 {
				c := of(unlikeTokens(count)...)
				c.Strangers, c.Timeout = s, n
				config(t, c, count > 0 && s >= 0 && s <= manySlots && n >= 1 && n <= longestTime)
			}
		}
	}
	for s := -3; s < 40; s++ {
		c := of("a")
		c.Strangers = s
		config(t, c, s >= 0 && s <= manySlots)
	}
}

// P15.2: "Bearer", with any capital letters, blanks, a token.
func TestCredential(t *testing.T) {
	for _, s := range tokens {
		for _, scheme := range []string{"Bearer", "bearer", "BEARER", "bEARER", "BeArEr"} {
			for _, blanks := range []int{1, 2, 3, 10, 1000} {
				credential(t, scheme+strings.Repeat(" ", blanks)+s, s, true)
			}
			noCredential(t, scheme+s)
			noCredential(t, scheme+"\t"+s)
			noCredential(t, scheme+" \t"+s)
			noCredential(t, scheme+"\t "+s)
			noCredential(t, scheme+"\u00a0"+s)
			noCredential(t, scheme+"\n"+s)
			noCredential(t, " "+scheme+" "+s)
			noCredential(t, "\t"+scheme+" "+s)
			noCredential(t, scheme+" "+s+" ")
			noCredential(t, scheme+" "+s+"\t")
			noCredential(t, scheme+" "+s+" "+s)
			noCredential(t, scheme+" "+s+",")
			noCredential(t, scheme+" "+s+", "+scheme+" "+s)
			noCredential(t, scheme+" "+scheme+" "+s)
			noCredential(t, scheme+": "+s)
			noCredential(t, scheme+"= "+s)
			noCredential(t, scheme+" \""+s+"\"")
			noCredential(t, scheme+" token="+s+"x")
			noCredential(t, "x "+scheme+" "+s)
			noCredential(t, "x"+scheme+" "+s)
			noCredential(t, scheme+"x "+s)
			noCredential(t, scheme[1:]+" "+s)
			noCredential(t, scheme[:5]+" "+s)
		}
		for _, scheme := range []string{"", "Basic", "Digest", "Bear er", "Bеarer", "Bearér", "Ｂearer", "Barer", "Bearre", "\"Bearer\"", "Bearer\x00", "Negotiate", "B", "X-Bearer"} {
			noCredential(t, scheme+" "+s)
		}
		noCredential(t, s)
	}
	credential(t, "Bearer Bearer", "Bearer", true) // which is a token, too
	credential(t, "bearer  bearer==", "bearer==", true)
	for _, s := range []string{"", " ", "Bearer", "Bearer ", "Bearer   ", "Bearer\t", "bearer"} {
		noCredential(t, s)
	}
	for _, s := range noTokens {
		if strings.HasPrefix(s, " ") && modelMay(s[1:]) {
			continue // that blank is one of those ahead
		}
		noCredential(t, "Bearer "+s)
		noCredential(t, "bearer  "+s)
	}
}

// P15.2: tokens of each count of bytes, and values of very many.
func TestCredentialSize(t *testing.T) {
	for size := range 2*longestToken + 3 {
		for filled := range min(size+1, 4) {
			s := strings.Repeat("x", size-filled) + strings.Repeat("=", filled)
			if ok := size >= 1 && size <= longestToken && filled < size; ok {
				credential(t, "Bearer "+s, s, true)
			} else {
				noCredential(t, "Bearer "+s)
			}
		}
	}
	many := strings.Repeat(" ", 1<<20)
	credential(t, "Bearer"+many+"x", "x", true)
	noCredential(t, "Bearer"+many)
	noCredential(t, "Bearer"+many+"x ")
	noCredential(t, many+"Bearer x")
	noCredential(t, strings.Repeat("Bearer", 1<<17)+" x")
	noCredential(t, "Bearer "+strings.Repeat("x", 1<<20))
}

// P15.2: each byte at each place, and all short rows of what matters.
func TestCredentialBytes(t *testing.T) {
	for _, s := range []string{"", "Bearer", "Bearer a", "bEARER  a=", "BEARER a==", "Bearer =", "Bearer " + strings.Repeat("a", longestToken)} {
		credentialAsModel(t, s)
		sample.Anywhere(s, func(s string) { credentialAsModel(t, s) })
	}
	sample.Texts([]string{"Bearer", "bEARER", " ", "\t", "a", "=", ",", "\x00"}, 5, func(s string) { credentialAsModel(t, s) })
}

// P15.3: just one field, among others, with any capital letters in its name.
func TestHolds(t *testing.T) {
	others := []api.Field{{Name: "Host", Value: "a"}, {Name: "Authorization", Value: "Bearer y"}, {Name: "X", Value: "Bearer y"}, {Name: "Proxy-Authenticate", Value: "Bearer y"}, {Name: "", Value: "Bearer y"}}
	for _, name := range []string{"proxy-authorization", "Proxy-Authorization", "PROXY-AUTHORIZATION", "pROXY-aUTHORIZATION", "proxy-authorizatioN"} {
		for at := range len(others) + 1 {
			l := slices.Insert(slices.Clone(others), at, api.Field{Name: name, Value: "Bearer y"})
			holds(t, "y", l, true)
			for _, s := range []string{"Y", "", "y=", "yy", "=", "Bearer y", "y ", " y"} {
				holds(t, s, l, false)
			}
			for more := range len(l) + 1 {
				for _, value := range []string{"Bearer y", "bearer  y", "Bearer Y", "Bearer z", "Basic y", ""} {
					holds(t, "y", slices.Insert(slices.Clone(l), more, api.Field{Name: ownField, Value: value}), false)
				}
			}
		}
	}
	holds(t, "y", others, false)
	holds(t, "", others, false)
	holds(t, "y", nil, false)
	holds(t, "y", []api.Field{}, false)
	holds(t, "", nil, false)
}

// P15.3: fields of other names say nothing.
func TestHoldsNames(t *testing.T) {
	for _, name := range []string{"", "Authorization", "Proxy-Authenticate", "Proxy-Authorisation", "ProxyAuthorization", "Proxy_Authorization", "Proxy-Authorization ", " Proxy-Authorization", "Proxy-Authorization:", "Proxy-Authorizatio", "roxy-Authorization", "X-Proxy-Authorization", "Proxy-Authorizations", "PROXY-AUTHORİZATİON", "prоxy-authorization", "Proxy-Authorization\x00", "\xff"} {
		other := api.Field{Name: name, Value: "Bearer y"}
		holds(t, "y", []api.Field{other}, false)
		holds(t, "y", append(said("Bearer y"), other), true)
		holds(t, "y", append([]api.Field{other}, said("Bearer y")...), true)
		holds(t, "y", append([]api.Field{other}, said("Bearer z")...), false)
	}
	sample.Anywhere(ownField, func(name string) { holdsAsModel(t, "y", []api.Field{{Name: name, Value: "Bearer y"}}) })
}

// P15.3: each token against each other one, some of which begin as others do; what is no token is never held.
func TestHoldsTokens(t *testing.T) {
	for _, own := range tokens {
		for _, asked := range tokens {
			holds(t, asked, said("Bearer "+own), asked == own)
		}
		for _, asked := range noTokens {
			holds(t, asked, said("Bearer "+own), false)
		}
	}
	for _, s := range noTokens {
		for _, value := range []string{s, "Bearer " + s, "bearer  " + s, "Bearer" + s} {
			holds(t, s, said(value), false)
		}
	}
}

// P15.3: all short rows of fields, with some tokens.
func TestHoldsShort(t *testing.T) {
	fields := []api.Field{{}, {Name: ownField, Value: "Bearer a"}, {Name: "proxy-authorization", Value: "bearer   ab"}, {Name: "PROXY-AUTHORIZATION", Value: "Bearer A"}, {Name: ownField}, {Name: ownField, Value: "Basic a"}, {Name: "Authorization", Value: "Bearer a"}, {Name: "Host", Value: "a"}, {Value: "Bearer a"}}
	sample.Rows(fields, 4, func(l []api.Field) {
		for _, s := range []string{"a", "ab", "A", "", "b"} {
			holdsAsModel(t, s, l)
		}
	})
}

// lots calls f with fields by lot, though the same ones in each run; more often than not one of them says a token.
func lots(seed int64, count int, f func(l []api.Field, lot *rand.Rand)) {
	lot := rand.New(rand.NewSource(seed))
	names := []string{"Host", "Authorization", "X", "Proxy-Connection", "", "Cookie"}
	own := []string{ownField, "proxy-authorization", "PROXY-Authorization"}
	schemes := []string{"Bearer ", "bearer ", "BEARER   ", "Bearer  ", "Bearer ", "Basic ", "", "Bearer\t"}
	pick := func(l []string) string { return l[lot.Intn(len(l))] }
	for range count {
		var l []api.Field
		for range lot.Intn(4) {
			l = append(l, api.Field{Name: pick(names), Value: pick(schemes) + pick(tokens)})
		}
		for range []int{0, 1, 1, 1, 1, 2, 3}[lot.Intn(7)] {
			said := api.Field{Name: pick(own), Value: pick(schemes) + pick(tokens)}
			if lot.Intn(10) == 0 {
				said.Value = pick(schemes) + pick(noTokens)
			}
			l = slices.Insert(l, lot.Intn(len(l)+1), said)
		}
		f(l, lot)
	}
}

// heldBy are the tokens of these that the fields hold.
func heldBy(l []api.Field, of []string) []string {
	return slices.DeleteFunc(slices.Clone(of), func(s string) bool { return !Holds(s, l) })
}

// P15.3: by lot.
func TestLots(t *testing.T) {
	told := map[bool]int{}
	lots(15, 5000, func(l []api.Field, lot *rand.Rand) {
		held := false
		for _, s := range slices.Concat(tokens, noTokens) {
			holdsAsModel(t, s, l)
			held = held || Holds(s, l)
		}
		told[held]++
	})
	if told[true] < 500 || told[false] < 500 {
		t.Error(told)
	}
}

// P15.4: fields hold at most one token; other fields have no part in it; a credential that stands twice holds none.
func TestOneToken(t *testing.T) {
	all := slices.Concat(tokens, noTokens)
	lots(154, 5000, func(l []api.Field, lot *rand.Rand) {
		held := heldBy(l, all)
		if len(held) > 1 {
			t.Errorf("%s holds %q", shown(l), held)
		}
		isOwn := func(f api.Field) bool { return strings.EqualFold(f.Name, ownField) }
		alone := slices.DeleteFunc(slices.Clone(l), func(f api.Field) bool { return !isOwn(f) })
		more := slices.Clone(l)
		for range lot.Intn(4) {
			f := api.Field{Name: []string{"Via", "", "Authorization", "Proxy-Authorizations"}[lot.Intn(4)], Value: "Bearer " + tokens[lot.Intn(len(tokens))]}
			more = slices.Insert(more, lot.Intn(len(more)+1), f)
		}
		for _, other := range [][]api.Field{alone, more} {
			if now := heldBy(other, all); !slices.Equal(now, held) {
				t.Errorf("%s holds %q, but %s %q", shown(l), held, shown(other), now)
			}
		}
		for _, f := range alone {
			twice := slices.Insert(slices.Clone(l), lot.Intn(len(l)+1), f)
			if now := heldBy(twice, all); len(now) > 0 {
				t.Errorf("%s holds %q", shown(twice), now)
			}
		}
	})
}

// P15.5: no fields hold the tokens of two tenants, and for each tenant there are fields that hold its.
func TestApart(t *testing.T) {
	lots(155, 5000, func(l []api.Field, lot *rand.Rand) {
		c := of()
		for range 1 + lot.Intn(manyTenants) {
			c.Tenants = append(c.Tenants, small(tokens[lot.Intn(len(tokens))]))
		}
		config(t, c, modelConfig(c))
		if !Config(c) {
			return
		}
		fields := [][]api.Field{l}
		for _, x := range c.Tenants {
			own := said("Bearer " + x.Token)
			holds(t, x.Token, own, true)
			if !head.May(own) {
				t.Errorf("no message can have %s", shown(own))
			}
			fields = append(fields, own, slices.Concat(own, l), slices.Concat(l, own))
		}
		for _, l := range fields {
			holding := 0
			for _, x := range c.Tenants {
				if Holds(x.Token, l) {
					holding++
				}
			}
			if holding > 1 {
				t.Errorf("%s holds the tokens of %d tenants of %+v", shown(l), holding, c)
			}
		}
	})
}

// lotOf is a configuration by lot, which may be.
func lotOf(lot *rand.Rand) api.Config {
	c := api.Config{Strangers: lot.Intn(manySlots + 1), Timeout: 1 + lot.Intn(longestTime)}
	for _, at := range lot.Perm(len(tokens))[:1+lot.Intn(manyTenants)] {
		x := small(tokens[at])
		for _, n := range numbers {
			*n.of(&x) = []int{n.least, n.most, n.least + lot.Intn(n.most-n.least+1)}[lot.Intn(3)]
		}
		for range lot.Intn(4) {
			x.Rules = append(x.Rules, api.Rule{Allow: lot.Intn(2) == 0, Host: ".a", Low: 1 + lot.Intn(80), High: 81, Methods: []string{"GET"}})
		}
		c.Tenants = append(c.Tenants, x)
	}
	return c
}

// P15.1, P15.6: a configuration that may be stays one without any of its tenants, as long as one is left; with one more, if that may be, has another token, and there are not too many.
func TestFewerAndMore(t *testing.T) {
	lot := rand.New(rand.NewSource(156))
	for range 5000 {
		c := lotOf(lot)
		config(t, c, true)
		count := len(c.Tenants)
		for at := range count {
			fewer := c
			fewer.Tenants = slices.Delete(slices.Clone(c.Tenants), at, at+1)
			config(t, fewer, count > 1)
		}
		met := func(s string) bool {
			return slices.ContainsFunc(c.Tenants, func(x api.Tenant) bool { return x.Token == s })
		}
		bad := great("new")
		bad.Rate++
		for _, one := range []api.Tenant{small("new"), great("new=="), small(tokens[lot.Intn(len(tokens))]), small(c.Tenants[0].Token + "="), small(noTokens[lot.Intn(len(noTokens))]), bad} {
			more := c
			more.Tenants = slices.Insert(slices.Clone(c.Tenants), lot.Intn(count+1), one)
			config(t, more, count < manyTenants && modelTenant(one) && !met(one.Token))
		}
	}
}

// P15.1: one thing of a configuration that may be is changed to another one, by lot.
func TestConfigLots(t *testing.T) {
	lot := rand.New(rand.NewSource(151))
	told := map[bool]int{}
	for range 20000 {
		c := lotOf(lot)
		x := &c.Tenants[lot.Intn(len(c.Tenants))]
		switch lot.Intn(5) {
		case 0:
			n := numbers[lot.Intn(len(numbers))]
			*n.of(x) = []int{n.least - 1, n.least, n.most, n.most + 1}[lot.Intn(4)]
		case 1:
			x.Token = tokens[lot.Intn(len(tokens))]
		case 2:
			x.Token = noTokens[lot.Intn(len(noTokens))]
		case 3:
			x.Rules = slices.Repeat([]api.Rule{{Host: "a", Low: 1, High: 1}}, 15+lot.Intn(3))
		case 4:
			c.Strangers, c.Timeout = lot.Intn(20)-2, []int{-1, 0, 1, longestTime, longestTime + 1}[lot.Intn(5)]
		}
		config(t, c, modelConfig(c))
		told[Config(c)]++
	}
	if told[true] < 2000 || told[false] < 2000 {
		t.Error(told)
	}
}

// R3: what is handed in is only read.
func TestOnlyRead(t *testing.T) {
	lots(3, 2000, func(l []api.Field, lot *rand.Rand) {
		ahead := slices.Clone(l)
		for range 2 {
			for _, s := range tokens {
				holdsAsModel(t, s, l)
			}
		}
		if !slices.Equal(l, ahead) {
			t.Errorf("it was %s, and is %s", shown(ahead), shown(l))
		}
		c := lotOf(lot)
		was := fmt.Sprintf("%+v", c)
		for range 2 {
			config(t, c, true)
		}
		if now := fmt.Sprintf("%+v", c); now != was {
			t.Errorf("it was %s, and is %s", was, now)
		}
	})
}

// R3: what is answered has none of an argument's memory.
func TestNewMemory(t *testing.T) {
	for _, own := range tokens {
		value := strings.Join([]string{"Bearer", own}, " ")
		token, _ := Credential(value)
		x, y := uintptr(unsafe.Pointer(unsafe.StringData(value))), uintptr(unsafe.Pointer(unsafe.StringData(token)))
		if token != own || x < y+uintptr(len(token)) && y < x+uintptr(len(value)) {
			t.Errorf("of %s: %s", sample.Shown(value), sample.Shown(token))
		}
	}
}
