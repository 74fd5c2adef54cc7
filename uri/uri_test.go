package uri

import (
	"fmt"
	"math"
	"math/rand"
	"regexp"
	"slices"
	"strconv"
	"strings"
	"testing"
	"unsafe"

	"tollhouse/api"
	"tollhouse/sample"
)

// The limits, as the chapter has them.
const (
	longestHost = 64
	longestURL  = 384
)

// The model below says what the chapter says by regular expressions, which the package has none of.
var (
	labelsForm  = regexp.MustCompile(`^[a-z0-9-]+(\.[a-z0-9-]+)*$`)
	numericForm = regexp.MustCompile(`(^|\.)([0-9]+|0x[0-9a-f]*)$`)
	fourForm    = regexp.MustCompile(`^(25[0-5]|2[0-4][0-9]|1[0-9][0-9]|[1-9]?[0-9])(\.(25[0-5]|2[0-4][0-9]|1[0-9][0-9]|[1-9]?[0-9])){3}$`)
	pathForm    = regexp.MustCompile(`^/([-a-zA-Z0-9._~!$&'()*+,;=:@/?]|%[0-9a-fA-F]{2})*$`)
	targetForm  = regexp.MustCompile(`(?s)^[Hh][Tt][Tt][Pp]://([^:/?]*)(:([^/?]*))?(.*)$`)
	portForm    = regexp.MustCompile(`^[1-9][0-9]{0,4}$`)
	pairForm    = regexp.MustCompile(`(?s)^([^:]*):(.*)$`)
)

func modelNamed(s string) bool {
	return len(s) <= longestHost && labelsForm.MatchString(s) && (!numericForm.MatchString(s) || fourForm.MatchString(s))
}

func modelHost(u api.URL) string {
	if u.Port == 80 {
		return u.Host
	}
	return u.Host + ":" + strconv.Itoa(u.Port)
}

func modelText(u api.URL) string { return "http://" + modelHost(u) + u.Path }

func modelMay(u api.URL) bool {
	return modelNamed(u.Host) && u.Port >= 1 && u.Port <= 65535 && pathForm.MatchString(u.Path) && len(modelText(u)) <= longestURL
}

// modelLower is s with small letters, byte by byte: strings.ToLower has small letters for more than A to Z.
func modelLower(s string) string {
	b := []byte(s)
	for i, c := range b {
		if at := strings.IndexByte("ABCDEFGHIJKLMNOPQRSTUVWXYZ", c); at >= 0 {
			b[i] = "abcdefghijklmnopqrstuvwxyz"[at]
		}
	}
	return string(b)
}

// modelPort is the port that a text says, or 0, which is none.
func modelPort(s string) int {
	if !portForm.MatchString(s) {
		return 0
	}
	n, _ := strconv.Atoi(s)
	return n
}

func modelParse(s string) (api.URL, api.Errno) {
	m := targetForm.FindStringSubmatch(s)
	if m == nil {
		return api.URL{}, api.ErrURL
	}
	u := api.URL{Host: modelLower(m[1]), Port: 80, Path: m[4]}
	if m[2] != "" {
		u.Port = modelPort(m[3])
	}
	if u.Path == "" || u.Path[0] == '?' {
		u.Path = "/" + u.Path
	}
	if !modelMay(u) {
		return api.URL{}, api.ErrURL
	}
	return u, api.OK
}

func modelAuthority(s string) (string, int, api.Errno) {
	m := pairForm.FindStringSubmatch(s)
	if m == nil || !modelNamed(modelLower(m[1])) || modelPort(m[2]) < 1 || modelPort(m[2]) > 65535 {
		return "", 0, api.ErrURL
	}
	return modelLower(m[1]), modelPort(m[2]), api.OK
}

func modelJoin(base api.URL, ref string) (api.URL, api.Errno) {
	if !modelMay(base) {
		return api.URL{}, api.ErrURL
	}
	if !strings.HasPrefix(ref, "/") || strings.HasPrefix(ref, "//") {
		return modelParse(ref)
	}
	u := api.URL{Host: base.Host, Port: base.Port, Path: ref}
	if !modelMay(u) {
		return api.URL{}, api.ErrURL
	}
	return u, api.OK
}

func shown(u api.URL) string {
	return fmt.Sprintf("{%s %d %s}", sample.Shown(u.Host), u.Port, sample.Shown(u.Path))
}

func named(t *testing.T, s string, want bool) {
	t.Helper()
	if Named(s) != want {
		t.Errorf("Named(%s): %v", sample.Shown(s), !want)
	}
}

// may checks what is told of a URL that may be: its text, its authority, and that both are read as it.
func may(t *testing.T, u api.URL, text, host string) {
	t.Helper()
	if !May(u) || Text(u) != text || Host(u) != host {
		t.Errorf("%s: %v, %s, %s; want %s, %s", shown(u), May(u), sample.Shown(Text(u)), sample.Shown(Host(u)), sample.Shown(text), sample.Shown(host))
	}
	parses(t, text, u)
	if u.Port != 80 {
		isAuthority(t, host, u.Host, u.Port)
	}
}

func mayNot(t *testing.T, u api.URL) {
	t.Helper()
	if May(u) || Text(u) != "" || Host(u) != "" {
		t.Errorf("%s: %v, %s, %s", shown(u), May(u), sample.Shown(Text(u)), sample.Shown(Host(u)))
	}
	joins(t, u, "/", api.URL{}, api.ErrURL)
	joins(t, u, "http://a/", api.URL{}, api.ErrURL)
}

func mayAsModel(t *testing.T, u api.URL) {
	t.Helper()
	if modelMay(u) {
		may(t, u, modelText(u), modelHost(u))
	} else {
		mayNot(t, u)
	}
}

// parses checks a target's URL, and (P10.5) that its text is read as it, too.
func parses(t *testing.T, s string, want api.URL) {
	t.Helper()
	u, e := Parse(s)
	if u != want || e != api.OK {
		t.Errorf("Parse(%s): %s, %d; want %s", sample.Shown(s), shown(u), e, shown(want))
		return
	}
	if back, e := Parse(Text(u)); !May(u) || back != u || e != api.OK {
		t.Errorf("Parse(%s): %s; its text %s, parsed: %s, %d", sample.Shown(s), shown(u), sample.Shown(Text(u)), shown(back), e)
	}
}

func noURL(t *testing.T, s string) {
	t.Helper()
	if u, e := Parse(s); u != (api.URL{}) || e != api.ErrURL {
		t.Errorf("Parse(%s): %s, %d", sample.Shown(s), shown(u), e)
	}
}

func parsesAsModel(t *testing.T, s string) {
	t.Helper()
	if u, e := modelParse(s); e == api.OK {
		parses(t, s, u)
	} else {
		noURL(t, s)
	}
}

func isAuthority(t *testing.T, s, host string, port int) {
	t.Helper()
	if h, n, e := Authority(s); h != host || n != port || e != api.OK {
		t.Errorf("Authority(%s): %s, %d, %d", sample.Shown(s), sample.Shown(h), n, e)
	}
}

func noAuthority(t *testing.T, s string) {
	t.Helper()
	if h, n, e := Authority(s); h != "" || n != 0 || e != api.ErrURL {
		t.Errorf("Authority(%s): %s, %d, %d", sample.Shown(s), sample.Shown(h), n, e)
	}
}

func authorityAsModel(t *testing.T, s string) {
	t.Helper()
	if h, n, e := modelAuthority(s); e == api.OK {
		isAuthority(t, s, h, n)
	} else {
		noAuthority(t, s)
	}
}

func joins(t *testing.T, base api.URL, ref string, want api.URL, err api.Errno) {
	t.Helper()
	if u, e := Join(base, ref); u != want || e != err {
		t.Errorf("Join(%s, %s): %s, %d; want %s, %d", shown(base), sample.Shown(ref), shown(u), e, shown(want), err)
	}
}

func joinsAsModel(t *testing.T, base api.URL, ref string) {
	t.Helper()
	u, e := modelJoin(base, ref)
	joins(t, base, ref, u, e)
}

// host is a host of that many bytes, of labels of that many.
func host(size, label int) string {
	s := strings.Repeat(strings.Repeat("a", label)+".", size)[:size]
	if strings.HasSuffix(s, ".") {
		s = s[:size-1] + "z"
	}
	return s
}

// ports is what is tried as a port's number.
var ports = []int{1, 2, 9, 10, 79, 80, 81, 99, 443, 8080, 9999, 10000, 65534, 65535}

// noPorts are numbers that are none, some of them a port where their lowest bits alone are counted.
var noPorts = []int{0, -1, -80, -65535, 65536, 65537, 65536 + 80, 99999, 1<<32 + 80, 1 << 53, 1<<53 + 80, math.MaxInt, math.MinInt, math.MinInt + 80}

// bases is what references are joined to.
var bases = []api.URL{{Host: "a", Port: 80, Path: "/"}, {Host: "a", Port: 8080, Path: "/x/y?z"}, {Host: "1.2.3.4", Port: 65535, Path: "/%41?b?c"}, {Host: "a-b.c", Port: 1, Path: "//"}}

// P10.1 to P10.4: the chapter's examples.
func TestExamples(t *testing.T) {
	u, e := Parse("http://A.b:8080/x?y")
	if want := (api.URL{Host: "a.b", Port: 8080, Path: "/x?y"}); u != want || e != api.OK || Text(u) != "http://a.b:8080/x?y" {
		t.Error(shown(u), e, Text(u))
	}
	parses(t, "HTTP://a", api.URL{Host: "a", Port: 80, Path: "/"})
	parses(t, "http://a:80?q", api.URL{Host: "a", Port: 80, Path: "/?q"})
	for _, s := range []string{"https://a/", "http:///", "http://a:080/", "http://a/%4", "http://u@a/", "http://a/#x", "/x", "http://a./", "http://a..b/", "http://127.1/", "http://0x7f/", "http://1.2.3.04/"} {
		noURL(t, s)
	}
	isAuthority(t, "A:443", "a", 443)
	noAuthority(t, "a")
	noAuthority(t, "a:0")
	base := api.URL{Host: "a", Port: 8080, Path: "/"}
	joins(t, base, "/z", api.URL{Host: "a", Port: 8080, Path: "/z"}, api.OK)
	joins(t, base, "http://c/d", api.URL{Host: "c", Port: 80, Path: "/d"}, api.OK)
	joins(t, base, "//c", api.URL{}, api.ErrURL)
	joins(t, base, "z", api.URL{}, api.ErrURL)
}

// P10.1: hosts of one label, of several, of four numbers; and labels that only look like a number, or are not the last.
func TestNamed(t *testing.T) {
	for _, s := range []string{
		"a", "z", "localhost", "a.b", "www.example.com", "a-b.c-d", "-", "--", "-a", "a-", "a.-", "-.-", "xn--bcher-kva.example",
		"1.2.3.4", "0.0.0.0", "255.255.255.255", "10.20.30.40", "127.0.0.1", "9.99.199.249", "1.10.100.200",
		"1a", "a1", "0a", "0xg", "0x1g", "x1", "00x1", "1x1", "-1", "1-", "1-2", "0-0", "0x-", "a.0xg", "1e3", "7f", "f",
		"1.a", "1.2.3.a", "1.2.3.4.a", "256.a", "0x7f.a", "01.a", "0.0x.1.b", "1.2.3.4a", "1.2.3.-4", "127.1.x",
	} {
		named(t, s, true)
	}
}

func TestNamedWrong(t *testing.T) {
	for _, s := range []string{
		"", ".", "..", "a.", ".a", "a..b", "a.b.", ".a.b", "a...b", // labels that lack
		"A", "aB", "Example.com", "1.2.3.4A", "a.B", "0Xg", // capital letters, which stand for the small ones in a text alone
		"a_b", "_", "a b", " a", "a ", "a\t", "a:1", "a:80", "a/", "a?", "a@b", "a%41", "%61", "a*", "*", "*.a", "a,b", "[::1]", "::1", "a\\b", "a\x00", "a\r\n", "\n", "é", "a.é", "\xff", "a\xffb", "ａ", "a。b", "\u212a", "\u017f", "�", // bytes that no host has
		"0", "1", "1234", "2130706433", "00", "0x", "0x7f", "0x7f000001", "0xabcdef", "a.1", "a.0", "a.b.01", "a.0x", "a.0x1", "1.0xf", "www.example.0x7f", "x.2130706433", // last labels that are numbers
		"1.2", "1.2.3", "127.1", "1.2.3.4.5", "0.1.2.3.4", "1.2.3.4.", ".1.2.3.4", "1.2.3..4", "1..2.3", "a.2.3.4", "1.b.3.4", "1.2.c.4", "-1.2.3.4", "1.-2.3.4",
		"256.1.1.1", "1.256.1.1", "1.1.256.1", "1.1.1.256", "1.1.1.999", "1.1.1.260", "1.1.1.300", "1.1.1.1000", "1.1.1.4294967297", "1.1.1.18446744073709551617", "1.1.1." + strings.Repeat("9", 58),
		"01.2.3.4", "1.02.3.4", "1.2.003.4", "1.2.3.04", "1.2.3.00", "00.0.0.0", "1.2.3.000", "1.2.3.0255",
		"0x1.2.3.4", "1.0x2.3.4", "1.2.3.0x4", "1.2.3.0x", "0x1.0x2.0x3.0x4", "1.2.3.0xff",
		"http://a", "//a", "user@a", "a#", "+1.2.3.4", "1.2.3.+4", "1.2.3. 4", "٣", "1.2.3.٣", "１.2.3.4",
	} {
		named(t, s, false)
	}
}

// P10.1: hosts of 64 bytes, and of 65, whatever their labels.
func TestHostSize(t *testing.T) {
	for label := 1; label <= 70; label++ {
		for size := 1; size <= 140; size++ {
			named(t, host(size, label), size <= longestHost)
		}
		named(t, host(longestHost, label), true)
		named(t, host(longestHost+1, label), false)
	}
	for _, s := range []string{strings.Repeat("a", 1<<20), strings.Repeat(".", 1<<20), strings.Repeat("a.", 1<<20), strings.Repeat("1", 1<<20), strings.Repeat("0", 1<<20) + ".0.0.1"} {
		named(t, s, false)
		noURL(t, "http://"+s+"/")
		noAuthority(t, s+":80")
		mayNot(t, api.URL{Host: s, Port: 80, Path: "/"})
	}
	full := host(longestHost, 7)
	may(t, api.URL{Host: full, Port: 81, Path: "/"}, "http://"+full+":81/", full+":81")
	parses(t, "http://"+strings.ToUpper(full), api.URL{Host: full, Port: 80, Path: "/"})
	isAuthority(t, strings.ToUpper(full)+":81", full, 81)
	mayNot(t, api.URL{Host: full + "a", Port: 81, Path: "/"})
	noURL(t, "http://"+full+"a")
	noAuthority(t, full+"a:81")
}

// P10.1: each number, plain, with noughts ahead, to the base 16, as each of the four.
func TestFourNumbers(t *testing.T) {
	for n := range 1100 {
		for at := range 4 {
			for _, form := range []string{"%d", "0%d", "00%d", "0x%x", "%d.", "-%d", "%da"} {
				l := []string{"1", "20", "255", "0"}
				l[at] = fmt.Sprintf(form, n)
				s := strings.Join(l, ".")
				named(t, s, modelNamed(s))
			}
			l := []string{"0", "0", "0", "0"}
			l[at] = strconv.Itoa(n)
			named(t, strings.Join(l, "."), n <= 255)
		}
		named(t, strconv.Itoa(n), false)
		named(t, fmt.Sprintf("0x%x", n), false)
		named(t, fmt.Sprintf("a.%03d", n), false)
		named(t, fmt.Sprintf("%d.a", n), true)
	}
}

// P10.1: each byte at each place of a host.
func TestHostBytes(t *testing.T) {
	for _, s := range []string{"a", "ab.c", "1.2.3.4", "a.0x1", "0xf", "a-b.1c"} {
		sample.Anywhere(s, func(s string) { named(t, s, modelNamed(s)) })
	}
}

// P10.1: all short rows of what matters in a host.
func TestShortHosts(t *testing.T) {
	sample.Texts([]string{".", "a", "g", "0", "7", "x", "0x", "-", "F"}, 6, func(s string) { named(t, s, modelNamed(s)) })
	sample.Texts([]string{".", "0", "25", "5", "6", "0x"}, 7, func(s string) { named(t, s, modelNamed(s)) })
	sample.Rows([]string{"0", "1", "00", "255", "256", "0x1", "a", ""}, 5, func(l []string) {
		s := strings.Join(l, ".")
		named(t, s, modelNamed(s))
	})
}

// P10.1: URLs that may be.
func TestMay(t *testing.T) {
	may(t, api.URL{Host: "a", Port: 80, Path: "/"}, "http://a/", "a")
	may(t, api.URL{Host: "a", Port: 81, Path: "/"}, "http://a:81/", "a:81")
	may(t, api.URL{Host: "www.example.com", Port: 8080, Path: "/x/y?z=1&w"}, "http://www.example.com:8080/x/y?z=1&w", "www.example.com:8080")
	may(t, api.URL{Host: "1.2.3.4", Port: 65535, Path: "//"}, "http://1.2.3.4:65535//", "1.2.3.4:65535")
	may(t, api.URL{Host: "-", Port: 1, Path: "/?"}, "http://-:1/?", "-:1")
	may(t, api.URL{Host: "a", Port: 443, Path: "/??/?:80@b"}, "http://a:443/??/?:80@b", "a:443")
	may(t, api.URL{Host: "a", Port: 80, Path: "/http://b:81/"}, "http://a/http://b:81/", "a")
	may(t, api.URL{Host: "a", Port: 80, Path: "/%00%fF%Ff?%25%3f"}, "http://a/%00%fF%Ff?%25%3f", "a")
	may(t, api.URL{Host: "a", Port: 80, Path: "/-._~!$&'()*+,;=:@/AZaz09"}, "http://a/-._~!$&'()*+,;=:@/AZaz09", "a")
	may(t, api.URL{Host: "a", Port: 80, Path: "/.././/./.."}, "http://a/.././/./..", "a")
}

// P10.1: of a URL that may not be the text and the authority are empty, even where its text is one of another URL.
func TestMayNot(t *testing.T) {
	mayNot(t, api.URL{})
	for _, h := range []string{"", ".", "A", "a.B", "a.", "a:81", "a:80", "b:1", "a/", "a/b", "a?", "a/?", "u@a", "a b", "http://a", "//a", "1", "0x1", "1.2.3.04", "é", "\xff", "a\r\n", host(longestHost+1, 9)} {
		for _, port := range []int{80, 81} {
			mayNot(t, api.URL{Host: h, Port: port, Path: "/"})
			mayNot(t, api.URL{Host: h, Port: port, Path: ""})
		}
	}
	for _, port := range noPorts {
		mayNot(t, api.URL{Host: "a", Port: port, Path: "/"})
	}
	for _, path := range []string{"", "?", "?q", "x", "x/", ":80/", ":81", "1/", " /", ".b/", "a", "#", "/#", "/a#b", "/ ", "/a b", "/\t", "/\r\n", "/\x00", "/\x7f", "/é", "/\xff", "/\"", "/<", "/>", "/[", "/]", "/\\", "/^", "/`", "/{", "/|", "/}", "/%", "/%4", "/%%", "/%%41", "/%4g", "/%g4", "/%4?", "/%?4", "/% 4", "/%+4", "/%-4", "/%4/1", "/%%4141%", "/?%", "/?%4", "/?q#", "/%u0041", "/%é", "/%a\xe9"} {
		for _, port := range []int{80, 1, 65535} {
			mayNot(t, api.URL{Host: "a", Port: port, Path: path})
		}
	}
}

// P10.1: all of these hosts, ports and paths with one another.
func TestMayAsModel(t *testing.T) {
	for _, h := range []string{"a", "a.b", "1.2.3.4", "A", "", "a:1", "1", "a/", "a?", host(64, 8), host(65, 8)} {
		for _, port := range slices.Concat(ports, noPorts) {
			for _, path := range []string{"/", "", "?", "/?", "//", "/a/b?c?d", "/%41", "/%4", "/ ", "x", ":1/"} {
				mayAsModel(t, api.URL{Host: h, Port: port, Path: path})
			}
		}
	}
}

// P10.1: texts of 384 bytes, and of 385, with and without a port.
func TestURLSize(t *testing.T) {
	for _, u := range []api.URL{{Host: "a", Port: 80}, {Host: "a", Port: 1}, {Host: "a", Port: 65535}, {Host: host(longestHost, 5), Port: 80}, {Host: host(longestHost, 5), Port: 8080}} {
		room := longestURL - len("http://"+modelHost(u))
		for _, part := range []string{"a", ":", "?"} { // no '/': a reference that begins with two is no path
			path := "/" + strings.Repeat(part, room)
			u.Path = path[:room]
			text := modelText(u)
			if len(text) != longestURL {
				t.Fatalf("%d bytes", len(text))
			}
			may(t, u, text, modelHost(u))
			parses(t, text, u)
			parses(t, text[:longestURL-1], api.URL{Host: u.Host, Port: u.Port, Path: path[:room-1]})
			joins(t, u, u.Path, u, api.OK)
			joins(t, bases[0], text, u, api.OK)
			u.Path = path
			mayNot(t, u)
			noURL(t, text+part)
			u.Path = "/"
			joins(t, u, path, api.URL{}, api.ErrURL)
			joins(t, bases[0], text+part, api.URL{}, api.ErrURL)
		}
	}
	path := "/" + strings.Repeat("%41", (longestURL-len("http://a/"))/len("%41"))
	may(t, api.URL{Host: "a", Port: 80, Path: path}, "http://a"+path, "a") // 384 to the byte
	mayNot(t, api.URL{Host: "aa", Port: 80, Path: path})
}

// P10.2: it is the text that has its limit, not the target: the port 80 goes, and the '/' comes.
func TestTargetSize(t *testing.T) {
	path := "/" + strings.Repeat("x", longestURL-len("http://a/"))
	parses(t, "http://a:80"+path, api.URL{Host: "a", Port: 80, Path: path})
	noURL(t, "http://a:80"+path+"x")
	noURL(t, "http://a:81"+path)
	parses(t, "http://a:81"+path[:len(path)-3], api.URL{Host: "a", Port: 81, Path: path[:len(path)-3]})
	query := "?" + strings.Repeat("q", longestURL-len("http://a/?"))
	parses(t, "http://a"+query, api.URL{Host: "a", Port: 80, Path: "/" + query})
	parses(t, "http://a:80"+query, api.URL{Host: "a", Port: 80, Path: "/" + query})
	noURL(t, "http://a"+query+"q")
	for _, part := range []string{"a", "/", "?", "%", "%41", ":", ".", "\x00", "é"} {
		long := strings.Repeat(part, 1<<20)
		noURL(t, long)
		noURL(t, "http://"+long)
		noURL(t, "http://a"+long)
		noURL(t, "http://a/"+long)
		noURL(t, "http://a:"+long)
		noAuthority(t, long)
		noAuthority(t, "a:"+long)
		mayNot(t, api.URL{Host: "a", Port: 80, Path: "/" + long})
		joins(t, bases[0], "/"+long, api.URL{}, api.ErrURL)
		joins(t, bases[0], long, api.URL{}, api.ErrURL)
	}
}

// P10.2.
func TestParse(t *testing.T) {
	for s, want := range map[string]api.URL{
		"http://a":                       {Host: "a", Port: 80, Path: "/"},
		"http://a/":                      {Host: "a", Port: 80, Path: "/"},
		"hTtP://A.bC":                    {Host: "a.bc", Port: 80, Path: "/"},
		"HTTP://WWW.EXAMPLE.COM/A?B":     {Host: "www.example.com", Port: 80, Path: "/A?B"},
		"http://A-Z.0XG/":                {Host: "a-z.0xg", Port: 80, Path: "/"},
		"http://a:80":                    {Host: "a", Port: 80, Path: "/"},
		"http://a:1/x":                   {Host: "a", Port: 1, Path: "/x"},
		"http://a:65535":                 {Host: "a", Port: 65535, Path: "/"},
		"http://a:8080?":                 {Host: "a", Port: 8080, Path: "/?"},
		"http://a?":                      {Host: "a", Port: 80, Path: "/?"},
		"http://a?/":                     {Host: "a", Port: 80, Path: "/?/"},
		"http://a?b?c":                   {Host: "a", Port: 80, Path: "/?b?c"},
		"http://a?:81/":                  {Host: "a", Port: 80, Path: "/?:81/"},
		"http://a?b@c:81":                {Host: "a", Port: 80, Path: "/?b@c:81"},
		"http://a/:81":                   {Host: "a", Port: 80, Path: "/:81"},
		"http://a/?b?c??":                {Host: "a", Port: 80, Path: "/?b?c??"},
		"http://a//b//":                  {Host: "a", Port: 80, Path: "//b//"},
		"http://a/../b":                  {Host: "a", Port: 80, Path: "/../b"},
		"http://a/u@b":                   {Host: "a", Port: 80, Path: "/u@b"},
		"http://a/http://b/":             {Host: "a", Port: 80, Path: "/http://b/"},
		"http://http:81/":                {Host: "http", Port: 81, Path: "/"},
		"http://1.2.3.4:443/%00%fF?%7e~": {Host: "1.2.3.4", Port: 443, Path: "/%00%fF?%7e~"},
		"http://a/-._~!$&'()*+,;=:@":     {Host: "a", Port: 80, Path: "/-._~!$&'()*+,;=:@"},
	} {
		parses(t, s, want)
		parsesAsModel(t, s)
	}
}

func TestParseWrong(t *testing.T) {
	for _, s := range []string{
		"", "h", "http", "http:", "http:/", "http://", "HTTP://", "http:///", "http://?", "http://?q", "http:///a", "http:////", "http://:80", "http://:80/", "http://:", // no host
		"/", "/x", "//a", "//a/", "*", "a", "a:80", "a/b", "?q", "?", "://a", "http:a", "http:/a", "http:a/", "http//a", "http.//a", "http:\\\\a", "http:/\\a/", // no scheme
		"https://a/", "HTTPS://a", "ftp://a/", "ws://a/", "httpx://a/", "xhttp://a/", "http+x://a/", "http ://a/", " http://a/", "http: //a/", "http:// a/", "http://a/ ", "http://a ", "\thttp://a", "http\x00://a", "hTTP\u200b://a", "ｈttp://a/", // others
		"http://a:", "http://a:/", "http://a:?", "http://a:0", "http://a:0/", "http://a:00", "http://a:01", "http://a:080/", "http://a:0080", "http://a:65536", "http://a:65616/", "http://a:99999", "http://a:100000", "http://a:4294967376", "http://a:18446744073709551696", "http://a:9007199254741072",
		"http://a:-1", "http://a:+80", "http://a:80x", "http://a:x", "http://a:0x50", "http://a:8 0", "http://a: 80", "http://a:80 ", "http://a:80:80", "http://a::80", "http://a:80:/", "http://a:8.0", "http://a:\u0668\u0660", "http://a:http", "http://a:8%30", // ports
		"http://u@a/", "http://u:p@a/", "http://@a/", "http://a@/", "http://a@:80/", "http://a b/", "http://a_/", "http://a%2e/", "http://%61/", "http://[::1]/", "http://[a]/", "http://a,b/", "http://*/", "http://a\\/", "http://a#", "http://a#x", "http://a;x/", "http://é/", "http://\xff/", "http://a\r\n/", "http://\u212a/", "http://a。b/",
		"http://./", "http://a./", "http://.a/", "http://a..b/", "http://A./", "http://a.:80/",
		"http://1/", "http://127.1/", "http://0x7f/", "http://0X7F/", "http://0x", "http://0X/", "http://a.0XfF/", "http://a.B.1", "http://1.2.3.04/", "http://256.0.0.0/", "http://1.2.3.4.5/", "http://1.2.3.0X4/", "http://1.2.3.4./",
		"http://a/#", "http://a/#x", "http://a?#", "http://a/%", "http://a/%4", "http://a/%g0", "http://a/%0g", "http://a/%%", "http://a/%%30", "http://a?%", "http://a?%4", "http://a?%zz", "http://a/[", "http://a/]", "http://a/\\", "http://a/^", "http://a/`", "http://a/{", "http://a/|", "http://a/}", "http://a/\"", "http://a/<", "http://a/>", "http://a/ b", "http://a/b\t", "http://a/\r\n", "http://a/\x00", "http://a/\x7f", "http://a/é", "http://a/\x80", "http://a/\xff", "http://a?[", "http://a? ", // paths
	} {
		noURL(t, s)
		if _, e := modelParse(s); e != api.ErrURL {
			t.Errorf("the model parses %q", s)
		}
	}
}

// P10.2: '%' with two, one and no digits behind it, wherever it stands.
func TestEscapes(t *testing.T) {
	for a := range 256 {
		for b := range 256 {
			two := string([]byte{byte(a), byte(b)})
			parsesAsModel(t, "http://a/%"+two)
			parsesAsModel(t, "http://a?x%"+two+"y")
		}
		one := string([]byte{byte(a)})
		noURL(t, "http://a/%"+one)
		noURL(t, "http://a/x?%"+one)
		parsesAsModel(t, "http://a/%4"+one+"%41")
		parsesAsModel(t, "http://a/%"+one+"%41")
	}
	noURL(t, "http://a/%")
	noURL(t, "http://a/%41%")
	noURL(t, "http://a?%")
	parses(t, "http://a/%41", api.URL{Host: "a", Port: 80, Path: "/%41"})
	parses(t, "http://a?%aF", api.URL{Host: "a", Port: 80, Path: "/?%aF"}) // and no letter of it is made a small one
}

// P10.2, P10.3: each port, and what is about, plain and with noughts ahead.
func TestPorts(t *testing.T) {
	for n := -3; n <= 66000; n++ {
		s := strconv.Itoa(n)
		u := api.URL{Host: "a", Port: n, Path: "/"}
		if n < 1 || n > 65535 {
			noURL(t, "http://a:"+s)
			noAuthority(t, "a:"+s)
			mayNot(t, u)
			continue
		}
		parses(t, "http://a:"+s, u)
		isAuthority(t, "a:"+s, "a", n)
		noURL(t, "http://a:0"+s)
		noAuthority(t, "a:0"+s)
		noAuthority(t, "a:00000"+s)
	}
	for _, n := range noPorts {
		noURL(t, "http://a:"+strconv.Itoa(n)+"/")
		noAuthority(t, "a:"+strconv.Itoa(n))
	}
	for _, s := range []string{strings.Repeat("0", 1000), strings.Repeat("0", 1000) + "80", "8" + strings.Repeat("0", 1000)} {
		noURL(t, "http://a:"+s)
		noAuthority(t, "a:"+s)
	}
}

// P10.2, P10.3: each byte at each place.
func TestBytes(t *testing.T) {
	for _, s := range []string{"http://a", "http://a.b:80/c?d", "HTTP://1.2.3.4?%41"} {
		parsesAsModel(t, s)
		sample.Anywhere(s, func(s string) { parsesAsModel(t, s) })
	}
	for _, s := range []string{"a:1", "a.B:443", "1.2.3.4:65535"} {
		authorityAsModel(t, s)
		sample.Anywhere(s, func(s string) { authorityAsModel(t, s) })
	}
	for n := range 256 {
		one := string([]byte{byte(n)})
		for _, path := range []string{one, "/" + one, "/a" + one + "b", "/?" + one, one + "/"} {
			mayAsModel(t, api.URL{Host: "a", Port: 80, Path: path})
			mayAsModel(t, api.URL{Host: "a", Port: 8080, Path: path})
		}
		mayAsModel(t, api.URL{Host: one, Port: 80, Path: "/"})
		mayAsModel(t, api.URL{Host: "a" + one, Port: 81, Path: "/"})
	}
}

// P10.2 to P10.4: all short rows of what matters.
func TestShort(t *testing.T) {
	sample.Texts([]string{"http://", "A", ".", ":", "80", "0", "/", "?", "%4"}, 6, func(s string) {
		parsesAsModel(t, s)
		authorityAsModel(t, s)
		joinsAsModel(t, bases[1], s)
	})
	sample.Texts([]string{"a", "1", "0x", ".", ":", "8", "/", "?", "%", "@", "#"}, 5, func(s string) {
		parsesAsModel(t, "hTTp://"+s)
		authorityAsModel(t, s)
	})
}

// P10.3.
func TestAuthority(t *testing.T) {
	for s, want := range map[string]struct {
		host string
		port int
	}{
		"a:443": {"a", 443}, "A:443": {"a", 443}, "a:80": {"a", 80}, "a:1": {"a", 1}, "a:65535": {"a", 65535}, "WWW.Example.COM:8443": {"www.example.com", 8443},
		"1.2.3.4:5": {"1.2.3.4", 5}, "-:9": {"-", 9}, "1.a:22": {"1.a", 22}, "0XG:1": {"0xg", 1}, "http:80": {"http", 80},
	} {
		isAuthority(t, s, want.host, want.port)
		authorityAsModel(t, s)
	}
	for _, s := range []string{
		"", ":", "a", "A.b", "1.2.3.4", "443", "a:", "a.b:", ":1", ":443", "::", "::1", "a::1", "a:1:", "a:1:1", "a:1:80", // parts that lack, or are too many
		"a:0", "a:00", "a:01", "a:0443", "a:65536", "a:65979", "a:99999", "a:-1", "a:+1", "a: 1", "a:1 ", "a:1x", "a:x", "a:0x1", "a:1.", "a:\u0661", "a:4294967739", "a:18446744073709552059", "a:443\r\n", "a:443\x00", // ports
		"a.:1", ".a:1", ".:1", "a..b:1", "a_:1", "a b:1", " a:1", "a :1", "u@a:1", "u:p@a:1", "[a]:1", "[::1]:1", "*:1", "é:1", "\xff:1", "a%41:1", "1:1", "0x1:1", "0X1:1", "127.1:80", "1.2.3.04:80", "256.1.1.1:1", "1.2.3.4.5:6", "\u212a:1", // hosts
		"a/:1", "a:1/", "a:443/", "a:443?", "a:443#", "/a:1", "//a:1", "http://a:1", "http://a:1/", "https://a:443", "a:443/x", // more than that
	} {
		noAuthority(t, s)
		if _, _, e := modelAuthority(s); e != api.ErrURL {
			t.Errorf("the model reads %q", s)
		}
	}
}

// P10.4: a reference that begins with '/'; one that is a URL; and what is none of both.
func TestJoin(t *testing.T) {
	for _, base := range bases {
		for _, ref := range []string{"/", "/z", "/z?y", "/?", "/?q", "/a//", "/a//b", "/.", "/../x", "/%41", "/:81", "/http://c/", "/u@c", "/a?//b", "/?//"} {
			joins(t, base, ref, api.URL{Host: base.Host, Port: base.Port, Path: ref}, api.OK)
		}
		for ref, want := range map[string]api.URL{
			"http://c/d": {Host: "c", Port: 80, Path: "/d"}, "HTTP://C": {Host: "c", Port: 80, Path: "/"}, "http://c:81?x": {Host: "c", Port: 81, Path: "/?x"},
			"http://A": {Host: "a", Port: 80, Path: "/"}, "http://a:8080//x": {Host: "a", Port: 8080, Path: "//x"}, "http://1.2.3.4:80/": {Host: "1.2.3.4", Port: 80, Path: "/"},
		} {
			joins(t, base, ref, want, api.OK)
		}
		for _, ref := range []string{
			"", "//", "//c", "//c/", "//c/d", "///", "///c", "//a:8080/z", "z", "z/", "./z", "../z", ".", "?q", "?", "#x", "a:8080/z", ":80/", "*", " /z", "\\z", "%2f",
			"/ ", "/z#x", "/#", "/%", "/%4", "/%g4", "/[", "/é", "/\xff", "/\x00", "/\r\n", "/\\c", "/z\t",
			"https://c/", "http://", "http:///z", "http:/z", "http:z", "http://c:0/", "http://c./", "http://u@c/", "http://c/#", "mailto:x", "javascript:x", "ttp://c/",
		} {
			joins(t, base, ref, api.URL{}, api.ErrURL)
			joinsAsModel(t, base, ref)
		}
	}
}

// P10.4: to a base that may not be nothing is joined, not even a whole URL.
func TestJoinBase(t *testing.T) {
	for _, base := range []api.URL{
		{}, {Host: "a", Port: 80}, {Host: "a", Path: "/"}, {Port: 80, Path: "/"}, {Host: "A", Port: 80, Path: "/"}, {Host: "a", Port: 65536, Path: "/"}, {Host: "a", Port: -1, Path: "/"},
		{Host: "a", Port: 80, Path: "x"}, {Host: "a", Port: 80, Path: "?q"}, {Host: "a", Port: 80, Path: "/ "}, {Host: "a", Port: 80, Path: "/%4"}, {Host: "1", Port: 80, Path: "/"}, {Host: "a:81", Port: 80, Path: "/"},
		{Host: host(65, 9), Port: 80, Path: "/"}, {Host: "a", Port: 80, Path: "/" + strings.Repeat("a", longestURL)},
	} {
		for _, ref := range []string{"", "/", "/z", "//c", "z", "http://c/d", "http://c", "https://c/"} {
			joins(t, base, ref, api.URL{}, api.ErrURL)
		}
	}
}

// P10.4: a reference needs no room beside base's own path, which it takes the place of.
func TestJoinSize(t *testing.T) {
	base := api.URL{Host: "a", Port: 80, Path: "/" + strings.Repeat("p", longestURL-len("http://a/"))}
	ref := "/" + strings.Repeat("r", len(base.Path)-1)
	joins(t, base, ref, api.URL{Host: "a", Port: 80, Path: ref}, api.OK)
	joins(t, base, ref+"r", api.URL{}, api.ErrURL)
	base = api.URL{Host: "a", Port: 81, Path: "/"}
	joins(t, base, ref[:len(ref)-3], api.URL{Host: "a", Port: 81, Path: ref[:len(ref)-3]}, api.OK)
	joins(t, base, ref[:len(ref)-2], api.URL{}, api.ErrURL)
}

// P10.5: URLs that may be, of all kinds: their text is read as they are, and joined to any base is they.
func TestBack(t *testing.T) {
	some := rand.New(rand.NewSource(10))
	pick := func(l []string) string { return l[some.Intn(len(l))] }
	hosts := []string{"a", "b.c", "0.0.0.0", "255.1.20.3", "x-1.y", "-", "1.z", host(64, 3), host(63, 20)}
	parts := []string{"/", "a", "Z", "9", "?", "%41", "%fF", ":", "@", "//", "..", "-._~!$&'()*+,;=", "http://b/"}
	for range 20000 {
		u := api.URL{Host: pick(hosts), Port: ports[some.Intn(len(ports))], Path: "/"}
		for range some.Intn(40) {
			u.Path += pick(parts)
		}
		if len(modelText(u)) > longestURL {
			mayNot(t, u)
			continue
		}
		may(t, u, modelText(u), modelHost(u))
		for _, base := range bases {
			joins(t, base, Text(u), u, api.OK)
		}
		joins(t, u, Text(u), u, api.OK)
		joinsAsModel(t, u, strings.ToUpper("http://"+u.Host)+":8080?"+u.Path)
	}
}

// R3: what is answered has none of an argument's memory, and no two texts of an answer have one another's.
func TestNewMemory(t *testing.T) {
	share := func(a, b string) bool {
		x, y := uintptr(unsafe.Pointer(unsafe.StringData(a))), uintptr(unsafe.Pointer(unsafe.StringData(b)))
		return x < y+uintptr(len(b)) && y < x+uintptr(len(a))
	}
	of := func(u api.URL, s string) bool { return share(u.Host, s) || share(u.Path, s) || share(u.Host, u.Path) }
	for _, port := range []string{"", ":80", ":81"} {
		target := strings.Join([]string{"http://ab.c", port, "/xy"}, "")
		u, _ := Parse(target)
		text, host := Text(u), Host(u)
		if of(u, target) || of(u, text) || of(u, host) || share(text, host) {
			t.Errorf("of %q", target)
		}
		ref := strings.Join([]string{"", "z"}, "/")
		v, _ := Join(u, ref)
		w, _ := Join(u, target)
		if of(v, ref) || of(v, u.Host) || of(v, u.Path) || of(w, target) || of(w, u.Host) || of(w, u.Path) {
			t.Errorf("joined to %q", target)
		}
	}
	pair := strings.Join([]string{"ab.c", "443"}, ":")
	if h, _, _ := Authority(pair); share(h, pair) {
		t.Error("Authority")
	}
}
