package start

import (
	"fmt"
	"math"
	"regexp"
	"strconv"
	"strings"
	"testing"
	"unsafe"

	"tollhouse/api"
	"tollhouse/sample"
)

// The limits, as the chapter has them.
const (
	longestLine   = 512
	longestMethod = 32
)

// The models below take each line as a whole, by its grammar. (A byte above 7f that is no part of a rune is one of those from 80 on to them.)
var (
	asking  = regexp.MustCompile("^([!#$%&'*+.^_`|~0-9A-Za-z-]{1,32}) ([\\x21-\\x7e]+) HTTP/1\\.([01])$")
	telling = regexp.MustCompile("^HTTP/1\\.([01]) ([1-5][0-9]{2}) ([\\t\\x20-\\x7e\\x{80}-\\x{10ffff}]*)$")
)

// The statuses that have a reason.
var reasons = map[int]string{
	200: "OK", 304: "Not Modified", 400: "Bad Request", 403: "Forbidden", 407: "Proxy Authentication Required", 413: "Content Too Large",
	429: "Too Many Requests", 431: "Request Header Fields Too Large", 501: "Not Implemented", 502: "Bad Gateway", 503: "Service Unavailable", 504: "Gateway Timeout",
}

type request struct {
	method, target string
	minor          int
}

type status struct {
	minor, status int
	reason        string
}

func modelRequest(line string) (request, bool) {
	m := asking.FindStringSubmatch(line)
	if m == nil || len(line) > longestLine {
		return request{}, false
	}
	return request{m[1], m[2], int(m[3][0] - '0')}, true
}

func modelStatus(line string) (status, bool) {
	m := telling.FindStringSubmatch(line)
	if m == nil || len(line) > longestLine {
		return status{}, false
	}
	code, _ := strconv.Atoi(m[2])
	return status{int(m[1][0] - '0'), code, m[3]}, true
}

// isRequest checks what is told of a request's line, and that it is put again as it was (P6.4).
func isRequest(t *testing.T, line string, want request) {
	t.Helper()
	method, target, minor, e := Request(line)
	if (request{method, target, minor}) != want || e != api.OK {
		t.Errorf("Request(%s): %q, %q, %d, %d; want %v", sample.Shown(line), method, target, minor, e, want)
	}
	if got, e := PutRequest(want.method, want.target, want.minor); got != line || e != api.OK {
		t.Errorf("PutRequest of %v: %s, %d", want, sample.Shown(got), e)
	}
}

func noRequest(t *testing.T, line string) {
	t.Helper()
	if method, target, minor, e := Request(line); method != "" || target != "" || minor != 0 || e != api.ErrForm {
		t.Errorf("Request(%s): %q, %q, %d, %d", sample.Shown(line), method, target, minor, e)
	}
}

func noPutRequest(t *testing.T, r request) {
	t.Helper()
	if line, e := PutRequest(r.method, r.target, r.minor); line != "" || e != api.ErrArg {
		t.Errorf("PutRequest of %s, %s, %d: %s, %d", sample.Shown(r.method), sample.Shown(r.target), r.minor, sample.Shown(line), e)
	}
}

// isStatus checks what is told of a response's line, and that it is put again as it was (P6.4).
func isStatus(t *testing.T, line string, want status) {
	t.Helper()
	minor, code, reason, e := Status(line)
	if (status{minor, code, reason}) != want || e != api.OK {
		t.Errorf("Status(%s): %d, %d, %q, %d; want %v", sample.Shown(line), minor, code, reason, e, want)
	}
	if got, e := PutStatus(want.minor, want.status, want.reason); got != line || e != api.OK {
		t.Errorf("PutStatus of %v: %s, %d", want, sample.Shown(got), e)
	}
}

func noStatus(t *testing.T, line string) {
	t.Helper()
	if minor, code, reason, e := Status(line); minor != 0 || code != 0 || reason != "" || e != api.ErrForm {
		t.Errorf("Status(%s): %d, %d, %q, %d", sample.Shown(line), minor, code, reason, e)
	}
}

func noPutStatus(t *testing.T, s status) {
	t.Helper()
	if line, e := PutStatus(s.minor, s.status, s.reason); line != "" || e != api.ErrArg {
		t.Errorf("PutStatus of %d, %d, %s: %s, %d", s.minor, s.status, sample.Shown(s.reason), sample.Shown(line), e)
	}
}

// asModel checks what both readers tell of a line.
func asModel(t *testing.T, line string) {
	t.Helper()
	r, asks := modelRequest(line)
	s, tells := modelStatus(line)
	if asks {
		isRequest(t, line, r)
	} else {
		noRequest(t, line)
	}
	if tells {
		isStatus(t, line, s)
	} else {
		noStatus(t, line)
	}
}

// putAsModel checks what is put of a request's parts: as they would be written, if that is a line that has them.
func putAsModel(t *testing.T, r request) {
	t.Helper()
	line := fmt.Sprintf("%s %s HTTP/1.%d", r.method, r.target, r.minor)
	if got, ok := modelRequest(line); ok && got == r {
		isRequest(t, line, r)
	} else {
		noPutRequest(t, r)
	}
}

func putStatusAsModel(t *testing.T, s status) {
	t.Helper()
	line := fmt.Sprintf("HTTP/1.%d %d %s", s.minor, s.status, s.reason)
	if got, ok := modelStatus(line); ok && got == s {
		isStatus(t, line, s)
	} else {
		noPutStatus(t, s)
	}
}

// P6.1.
func TestRequest(t *testing.T) {
	for line, want := range map[string]request{
		"GET http://a/ HTTP/1.1":            {"GET", "http://a/", 1},
		"GET http://a/ HTTP/1.0":            {"GET", "http://a/", 0},
		"CONNECT a:443 HTTP/1.1":            {"CONNECT", "a:443", 1},
		"OPTIONS * HTTP/1.0":                {"OPTIONS", "*", 0},
		"get / HTTP/1.1":                    {"get", "/", 1},
		"x ! HTTP/1.1":                      {"x", "!", 1},
		"0 ~ HTTP/1.0":                      {"0", "~", 0},
		"!#$%&'*+-.^_`|~ \"\\{}<> HTTP/1.1": {"!#$%&'*+-.^_`|~", "\"\\{}<>", 1},
		"HTTP HTTP/1.1 HTTP/1.0":            {"HTTP", "HTTP/1.1", 0},
		"200 200 HTTP/1.1":                  {"200", "200", 1},
		"A a%20b?c=d&e#f HTTP/1.1":          {"A", "a%20b?c=d&e#f", 1},
	} {
		isRequest(t, line, want)
		noStatus(t, line)
	}
}

func TestRequestWrong(t *testing.T) {
	for _, line := range []string{
		"", " ", "  ", "GET", "GET ", "GET /", "GET / ", "HTTP/1.1", " HTTP/1.1", "  HTTP/1.1", "GET HTTP/1.1", "/ HTTP/1.1", // parts that lack
		"GET  HTTP/1.1", " / HTTP/1.1",
		"GET  / HTTP/1.1", "GET /  HTTP/1.1", " GET / HTTP/1.1", "GET / HTTP/1.1 ", "GET / HTTP/1.1  ", "GET\t/ HTTP/1.1", "GET /\tHTTP/1.1", // blanks
		"G T / HTTP/1.1", "GET a b HTTP/1.1", "GET a\tb HTTP/1.1", "GET / HTTP /1.1", "GET / HTTP/1. 1", "GET / HTTP/1.1 x", "GET / HTTP/1.1 HTTP/1.1",
		"GET / HTTP/1.2", "GET / HTTP/1.", "GET / HTTP/1", "GET / HTTP/1.11", "GET / HTTP/1.01", "GET / HTTP/01.1", "GET / HTTP/2.0", "GET / HTTP/0.9", // versions
		"GET / http/1.1", "GET / Http/1.1", "GET / HTTP/1,1", "GET / HTTP/+1.1", "GET / HTTP/1.+1", "GET / HTTP/1.-1", "GET / HTTP/1.a", "GET / HTTPS/1.1", "GET / XHTTP/1.1", "GET / HTTP1.1", "GET / HTTP/1.\u0661",
		"G\tT / HTTP/1.1", "G/T / HTTP/1.1", "G:T / HTTP/1.1", "\"G\" / HTTP/1.1", "GÉT / HTTP/1.1", "G\xffT / HTTP/1.1", "G\x00 / HTTP/1.1", "(G) / HTTP/1.1", // methods
		"GET /\x00 HTTP/1.1", "GET /\x1f HTTP/1.1", "GET /\x7f HTTP/1.1", "GET /\x80 HTTP/1.1", "GET /é HTTP/1.1", "GET /\xff HTTP/1.1", // targets
		"GET / HTTP/1.1\r\n", "GET / HTTP/1.1\n", "GET / HTTP/1.1\r", "\r\nGET / HTTP/1.1", "GET /\r HTTP/1.1", "GET /\n HTTP/1.1", // ends
		"HTTP/1.1 200 OK", "HTTP/1.1 / HTTP/1.1", "HTTP/1.1 200 HTTP/1.1",
	} {
		noRequest(t, line)
	}
}

// P6.1: what no request's line has.
func TestPutRequestWrong(t *testing.T) {
	for _, minor := range []int{-1, 2, 3, 10, 11, 256, 257, math.MaxInt, math.MinInt} {
		noPutRequest(t, request{"GET", "/", minor})
	}
	for _, method := range []string{"", " ", "G T", " GET", "GET ", "GET /", "G\tT", "G/T", "G:", "G,T", "É", "\xff", "G\x00", "GET\r\n", "HTTP/1.1"} {
		noPutRequest(t, request{method, "/", 1})
	}
	for _, target := range []string{"", " ", "/ ", " /", "a b", "a\tb", "/\r", "/\n", "\x00", "\x1f", "\x20", "\x7f", "\x80", "é", "\xff", "/ HTTP/1.1", "/ HTTP/1.1\r\nX: y"} {
		noPutRequest(t, request{"GET", target, 0})
	}
}

// P6.1: a method of 32 bytes, and of one more; a target of one byte, and of none.
func TestRequestParts(t *testing.T) {
	for size := range longestMethod + 8 {
		method := strings.Repeat("m", size)
		asModel(t, method+" / HTTP/1.1")
		putAsModel(t, request{method, "/", 1})
		asModel(t, "GET "+strings.Repeat("/", size)+" HTTP/1.0")
		putAsModel(t, request{"GET", strings.Repeat("/", size), 0})
	}
	full := strings.Repeat("M", longestMethod)
	isRequest(t, full+" / HTTP/1.1", request{full, "/", 1})
	noRequest(t, full+"M / HTTP/1.1")
	noPutRequest(t, request{full + "M", "/", 1})
}

// P6.1: lines of just 512 bytes, and of one more.
func TestRequestLine(t *testing.T) {
	for _, method := range []string{"A", "GET", strings.Repeat("m", longestMethod)} {
		for minor := range 2 {
			target := strings.Repeat("t", longestLine-len(method)-len("  HTTP/1.0"))
			line := fmt.Sprintf("%s %s HTTP/1.%d", method, target, minor)
			if len(line) != longestLine {
				t.Fatalf("%d bytes", len(line))
			}
			isRequest(t, line, request{method, target, minor})
			isRequest(t, line[:len(method)+1]+line[len(method)+2:], request{method, target[1:], minor})
			noRequest(t, line[:len(method)+1]+"t"+line[len(method)+1:])
			noPutRequest(t, request{method, target + "t", minor})
		}
	}
	long := strings.Repeat("t", 1<<20)
	noRequest(t, "GET "+long+" HTTP/1.1")
	noRequest(t, long)
	noRequest(t, strings.Repeat(" ", 1<<20))
	noPutRequest(t, request{"GET", long, 1})
	noPutRequest(t, request{long, "/", 1})
}

// P6.2.
func TestStatus(t *testing.T) {
	for line, want := range map[string]status{
		"HTTP/1.1 200 OK":                {1, 200, "OK"},
		"HTTP/1.0 200 OK":                {0, 200, "OK"},
		"HTTP/1.1 204 ":                  {1, 204, ""},
		"HTTP/1.0 599 ":                  {0, 599, ""},
		"HTTP/1.1 100 Continue":          {1, 100, "Continue"},
		"HTTP/1.0 404 Not Found at all":  {0, 404, "Not Found at all"},
		"HTTP/1.1 200  ":                 {1, 200, " "},
		"HTTP/1.1 200  a  b ":            {1, 200, " a  b "},
		"HTTP/1.1 200 \t":                {1, 200, "\t"},
		"HTTP/1.1 200 a\tb\t":            {1, 200, "a\tb\t"},
		"HTTP/1.1 200 \x80\xff\xc3":      {1, 200, "\x80\xff\xc3"},
		"HTTP/1.1 200 é\u2028�":          {1, 200, "é\u2028�"},
		"HTTP/1.1 599 ~!\"\\:/":          {1, 599, "~!\"\\:/"},
		"HTTP/1.1 200 200 OK":            {1, 200, "200 OK"},
		"HTTP/1.1 200 HTTP/1.1":          {1, 200, "HTTP/1.1"},
		"HTTP/1.1 200 / HTTP/1.1":        {1, 200, "/ HTTP/1.1"},
		"HTTP/1.0 299 whatever: a, b; c": {0, 299, "whatever: a, b; c"},
	} {
		isStatus(t, line, want)
		noRequest(t, line)
	}
}

func TestStatusWrong(t *testing.T) {
	for _, line := range []string{
		"", " ", "  ", "HTTP/1.1", "HTTP/1.1 ", "HTTP/1.1  ", "HTTP/1.1 200", "HTTP/1.1 204", "HTTP/1.1200 OK", "200 OK", " 200 OK", "HTTP/1.1 OK", "HTTP/1.1  OK", // parts that lack
		"HTTP/1.1  200 OK", " HTTP/1.1 200 OK", "HTTP/1.1\t200 OK", "HTTP/1.1 200\tOK", "HTTP/1.1 20 0 OK", "HTTP/1.1 2 00 OK", "HTTP /1.1 200 OK", // blanks
		"HTTP/1.2 200 OK", "HTTP/1. 200 OK", "HTTP/1 200 OK", "HTTP/1.11 200 OK", "HTTP/1.01 200 OK", "HTTP/2.0 200 OK", "HTTP/0.9 200 OK", "http/1.1 200 OK", "HTTp/1.1 200 OK", "XHTTP/1.1 200 OK", "HTTP/1.+1 200 OK", "HTTP/1.-0 200 OK", "ICY 200 OK", // versions
		"HTTP/1.1 99 x", "HTTP/1.1 099 x", "HTTP/1.1 600 x", "HTTP/1.1 000 x", "HTTP/1.1 999 x", "HTTP/1.1 20 x", "HTTP/1.1 2 x", "HTTP/1.1 2000 x", "HTTP/1.1 0200 x", "HTTP/1.1 00200 x", // statuses
		"HTTP/1.1 +20 x", "HTTP/1.1 -20 x", "HTTP/1.1 +200 x", "HTTP/1.1 -200 x", "HTTP/1.1 0x0 x", "HTTP/1.1 2_0 x", "HTTP/1.1 2_00 x", "HTTP/1.1 1e2 x", "HTTP/1.1 20a x", "HTTP/1.1 abc x", "HTTP/1.1 2.0 x", "HTTP/1.1 \u0662 x", "HTTP/1.1 \xff\xff\xff x", "HTTP/1.1 200, x", "HTTP/1.1 18446744073709551816 x",
		"HTTP/1.1 200 \x00", "HTTP/1.1 200 a\x1f", "HTTP/1.1 200 \x7f", "HTTP/1.1 200 \x1b", "HTTP/1.1 200 \vb", "HTTP/1.1 200 \x08", // reasons
		"HTTP/1.1 200 OK\r\n", "HTTP/1.1 200 OK\r", "HTTP/1.1 200 OK\n", "HTTP/1.1 200 \r\n", "\r\nHTTP/1.1 200 OK", "HTTP/1.1 200\r\n", // ends
		"GET / HTTP/1.1", "GET 200 OK", "GET 200 HTTP/1.1",
	} {
		noStatus(t, line)
	}
}

// P6.2: what no response's line has.
func TestPutStatusWrong(t *testing.T) {
	for _, minor := range []int{-1, 2, 3, 10, 11, 256, 257, math.MaxInt, math.MinInt} {
		noPutStatus(t, status{minor, 200, "OK"})
	}
	for _, code := range []int{-1, 0, 1, 20, 99, 600, 999, 1000, 2000, -200, 1<<32 + 200, math.MaxInt, math.MinInt} {
		noPutStatus(t, status{1, code, "OK"})
	}
	for _, reason := range []string{"\r", "\n", "OK\r\n", "OK\r\nX: y", "\x00", "\x08", "\x0b", "\x1f", "\x7f", "a\x7fb"} {
		noPutStatus(t, status{1, 200, reason})
	}
}

// P6.2: each status of three digits, and those about.
func TestStatuses(t *testing.T) {
	for n := -1100; n <= 1100; n++ {
		for _, reason := range []string{"", "x"} {
			putStatusAsModel(t, status{1, n, reason})
			asModel(t, fmt.Sprintf("HTTP/1.0 %d %s", n, reason))
			asModel(t, fmt.Sprintf("HTTP/1.0 %03d %s", n, reason))
			asModel(t, fmt.Sprintf("HTTP/1.1 %04d %s", n, reason))
		}
	}
	isStatus(t, "HTTP/1.1 100 ", status{1, 100, ""})
	isStatus(t, "HTTP/1.1 599 ", status{1, 599, ""})
	for _, n := range []int{99, 600} {
		noStatus(t, fmt.Sprintf("HTTP/1.1 %d ", n))
		noPutStatus(t, status{1, n, ""})
	}
}

// P6.2: lines of just 512 bytes, and of one more.
func TestStatusLine(t *testing.T) {
	for _, part := range []string{"r", " ", "\t", "\xff"} {
		for minor := range 2 {
			reason := strings.Repeat(part, longestLine-len("HTTP/1.1 200 "))
			line := fmt.Sprintf("HTTP/1.%d 200 %s", minor, reason)
			if len(line) != longestLine {
				t.Fatalf("%d bytes", len(line))
			}
			isStatus(t, line, status{minor, 200, reason})
			isStatus(t, line[:longestLine-1], status{minor, 200, reason[1:]})
			noStatus(t, line+part)
			noPutStatus(t, status{minor, 200, reason + part})
		}
	}
	long := strings.Repeat("é", 1<<19)
	noStatus(t, "HTTP/1.1 200 "+long)
	noStatus(t, "HTTP/1.1 "+strings.Repeat("2", 1<<20)+" OK")
	noPutStatus(t, status{1, 200, long})
}

// P6.3.
func TestReason(t *testing.T) {
	for n := -1000; n <= 2000; n++ {
		if got := Reason(n); got != reasons[n] {
			t.Errorf("Reason(%d): %q, want %q", n, got, reasons[n])
		}
	}
	for _, n := range []int{math.MinInt, math.MaxInt, 1<<32 + 200, 1<<16 + 200, 256 + 200} {
		if got := Reason(n); got != "" {
			t.Errorf("Reason(%d): %q", n, got)
		}
	}
	for n, want := range reasons {
		line := "HTTP/1.1 " + strconv.Itoa(n) + " " + want
		isStatus(t, line, status{1, n, Reason(n)})
	}
}

// P6.1, P6.2: each byte, at each place, laid between and in another one's stead.
func TestBytes(t *testing.T) {
	for _, line := range []string{"GET / HTTP/1.1", "a http://b/c HTTP/1.0", "HTTP/1.1 200 OK", "HTTP/1.0 599 ", "HTTP/1.1 100 a b"} {
		for n := range 256 {
			one := string([]byte{byte(n)})
			for at := range len(line) + 1 {
				asModel(t, line[:at]+one+line[at:])
				if at < len(line) {
					asModel(t, line[:at]+one+line[at+1:])
				}
			}
		}
	}
	for n := range 256 {
		one := string([]byte{byte(n)})
		for _, s := range []string{one, one + "a", "a" + one, "a" + one + "z", one + one} {
			putAsModel(t, request{s, "/", 1})
			putAsModel(t, request{"GET", s, 0})
			putStatusAsModel(t, status{0, 200, s})
		}
	}
}

// P6.1, P6.2: each beginning and each end of a line, and a line with a byte less.
func TestPieces(t *testing.T) {
	for _, line := range []string{"GET / HTTP/1.1", "CONNECT a:443 HTTP/1.0", "HTTP/1.1 200 OK", "HTTP/1.0 304 Not Modified", "HTTP/1.1 204 "} {
		for at := range len(line) {
			asModel(t, line[:at])
			asModel(t, line[at:])
			asModel(t, line[:at]+line[at+1:])
			asModel(t, line[:at]+strings.ToLower(line[at:at+1])+line[at+1:])
		}
		asModel(t, line+line)
		asModel(t, line+" "+line)
	}
}

// P6.1, P6.2, P6.4: all short rows of what matters.
func TestShort(t *testing.T) {
	sample.Texts([]string{"GET", " ", "/", "HTTP/1.1", "HTTP/1.0", "200", "OK"}, 6, func(s string) { asModel(t, s) })
	sample.Texts([]string{" ", "\t", "1", "é", "HTTP/1.1", " HTTP/1.1", "HTTP/1.1 ", "\r\n", "\x7f", "99", "599"}, 5, func(s string) { asModel(t, s) })
	for _, ahead := range []string{"HTTP/1.1 ", "HTTP/1.0"} {
		sample.Texts([]string{"0", "1", "5", "6", "9", "+", "-", " ", "a"}, 5, func(s string) { asModel(t, ahead+s) })
	}
	parts := []string{"", " ", "\t", "/", "a", "HTTP/1.1", "\xff", "\x7f", "a b", "a ", " a"}
	for _, a := range parts {
		for _, b := range parts {
			for minor := -1; minor <= 2; minor++ {
				putAsModel(t, request{a, b, minor})
				putStatusAsModel(t, status{minor, 200, a + b})
			}
		}
	}
}

// P6.4: no line is both.
func TestNotBoth(t *testing.T) {
	both := func(line string) {
		_, _, _, asks := Request(line)
		_, _, _, tells := Status(line)
		if asks == api.OK && tells == api.OK {
			t.Errorf("%q is both", line)
		}
	}
	sample.Texts([]string{"HTTP/1.1", "HTTP/1.0", "HTTP", " ", "200", "/"}, 7, both)
}

// R3: what is answered has none of an argument's memory, and no two answers have one another's.
func TestNewMemory(t *testing.T) {
	share := func(a, b string) bool {
		x, y := uintptr(unsafe.Pointer(unsafe.StringData(a))), uintptr(unsafe.Pointer(unsafe.StringData(b)))
		return x < y+uintptr(len(b)) && y < x+uintptr(len(a))
	}
	line := strings.Join([]string{"GET", "http://a/", "HTTP/1.1"}, " ")
	method, target, _, _ := Request(line)
	if share(line, method) || share(line, target) || share(method, target) {
		t.Error("Request")
	}
	put, _ := PutRequest(method, target, 1)
	if share(put, method) || share(put, target) {
		t.Error("PutRequest")
	}
	line = strings.Join([]string{"HTTP/1.1", "200", "OK"}, " ")
	_, _, reason, _ := Status(line)
	if share(line, reason) {
		t.Error("Status")
	}
	if put, _ := PutStatus(1, 200, reason); share(put, reason) {
		t.Error("PutStatus")
	}
}
