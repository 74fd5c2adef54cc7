package message

import (
	"bytes"
	"fmt"
	"math/rand"
	"slices"
	"strconv"
	"strings"
	"testing"

	"tollhouse/api"
	"tollhouse/chunk"
	"tollhouse/frame"
	"tollhouse/head"
	"tollhouse/sample"
	"tollhouse/start"
)

// The limits, as the chapter has them.
const (
	mostLine   = 512
	mostHead   = 2048
	mostBody   = 4096
	mostFields = 32
)

// way is how bytes are read: as a request, or as a response to a request with that method.
type way struct {
	request bool
	method  string
	ended   bool
}

var (
	asRequest = way{request: true}
	open      = way{method: "GET"}
	closed    = way{method: "GET", ended: true}
)

// ways that differ from one another by what they may tell.
var ways = []way{asRequest, open, closed, {method: "HEAD"}, {method: "CONNECT", ended: true}}

// answer is what is told: of the message, if one is told, its line, fields and body.
type answer struct {
	line, fields, body string
	n                  int
	e                  api.Errno
}

func lineOf(method, target string, minor int) string {
	return fmt.Sprintf("%q %q %d", method, target, minor)
}

func statusOf(minor, status int, reason string) string {
	return fmt.Sprintf("%d %d %q", minor, status, reason)
}

func fieldsOf(l []api.Field) string {
	s := ""
	for _, f := range l {
		s += fmt.Sprintf("%q=%q;", f.Name, f.Value)
	}
	return s
}

// tell is what is told of s; beside an error there must be nothing, and s must only be read.
func (w way) tell(t *testing.T, s string) answer {
	t.Helper()
	in := []byte(s)
	var a answer
	if w.request {
		r, n, e := Request(in)
		a = answer{lineOf(r.Method, r.Target, r.Minor), fieldsOf(r.Fields), string(r.Body), n, e}
	} else {
		r, n, e := Response(in, w.method, w.ended)
		a = answer{statusOf(r.Minor, r.Status, r.Reason), fieldsOf(r.Fields), string(r.Body), n, e}
	}
	if string(in) != s {
		t.Errorf("%v made %s to %s", w, sample.Shown(s), sample.Shown(string(in)))
	}
	if a.e != api.OK {
		if a.line != lineOf("", "", 0) && a.line != statusOf(0, 0, "") {
			t.Errorf("%v of %s: beside error %d the line %s", w, sample.Shown(s), a.e, a.line)
		}
		a.line = ""
	}
	return a
}

func (a answer) String() string {
	return fmt.Sprintf("%s, %s, %s; %d, error %d", sample.Shown(a.line), sample.Shown(a.fields), sample.Shown(a.body), a.n, a.e)
}

func tells(t *testing.T, w way, s string, want answer) {
	t.Helper()
	if got := w.tell(t, s); got != want {
		t.Errorf("%v of %s: %v; want %v", w, sample.Shown(s), got, want)
	}
}

func failed(e api.Errno) answer { return answer{e: e} }

// refuses checks that s is told that error, whatever stands behind.
func refuses(t *testing.T, w way, s string, e api.Errno) {
	t.Helper()
	for _, behind := range []string{"", "a", "\r\n", "\n", "\x00", "\r\n\r\n", strings.Repeat("x", 5000), s} {
		tells(t, w, s+behind, failed(e))
	}
}

// wants checks that s is told ErrMore.
func wants(t *testing.T, w way, s string) {
	t.Helper()
	tells(t, w, s, failed(api.ErrMore))
}

// beginnings checks that each beginning of s is told ErrMore: all of them, or, if they are many, some of them, the last one among them.
func beginnings(t *testing.T, w way, s string) {
	t.Helper()
	for n := 0; n < len(s); n += 1 + len(s)/300 {
		wants(t, w, s[:n])
	}
	wants(t, w, s[:len(s)-1])
}

// whole checks that s, and no beginning of it, is told to be this message, whatever stands behind.
func whole(t *testing.T, w way, s string, line, fields, body string) {
	t.Helper()
	for _, behind := range []string{"", "a", "\r\n", "\n", "\x00", "\r\n\r\n", strings.Repeat("x", 5000), s} {
		tells(t, w, s+behind, answer{line, fields, body, len(s), api.OK})
	}
	beginnings(t, w, s)
}

// The model below reads by the chapter's words, over strings, and asks the layers below what they tell.

func modelHead(s string, first func(string) (string, bool)) (string, []api.Field, int, api.Errno) {
	window := s[:min(len(s), mostLine)]
	ahead, _, ok := strings.Cut(window, "\n")
	if !ok && len(s) >= mostLine {
		return "", nil, 0, api.ErrBig
	}
	if !ok {
		return "", nil, 0, api.ErrMore
	}
	if !strings.HasSuffix(ahead, "\r") {
		return "", nil, 0, api.ErrBad
	}
	line, ok := first(ahead[:len(ahead)-1])
	if !ok {
		return "", nil, 0, api.ErrBad
	}
	from := len(ahead) + 1
	l, n, e := head.Parse([]byte(s[from:min(len(s), mostHead)]))
	if e == api.ErrMore && len(s) >= mostHead {
		e = api.ErrBig
	}
	return line, l, from + n, e
}

func modelBody(rest string, kind int, size uint64, ended bool) (string, int, api.Errno) {
	switch {
	case kind == frame.None:
		return "", 0, api.OK
	case kind == frame.Length && len(rest) < int(size):
		return "", 0, api.ErrMore
	case kind == frame.Length:
		return rest[:size], int(size), api.OK
	case kind == frame.Chunked:
		b, n, e := chunk.Take([]byte(rest))
		return string(b), n, e
	case len(rest) > mostBody:
		return "", 0, api.ErrBig
	case !ended:
		return "", 0, api.ErrMore
	}
	return rest, len(rest), api.OK
}

func (w way) model(s string) answer {
	var kinds func(l []api.Field) (int, uint64, api.Errno)
	line, l, n, e := modelHead(s, func(line string) (string, bool) {
		if w.request {
			method, target, minor, e := start.Request(line)
			kinds = func(l []api.Field) (int, uint64, api.Errno) { return frame.Request(minor, l) }
			return lineOf(method, target, minor), e == api.OK
		}
		minor, status, reason, e := start.Status(line)
		kinds = func(l []api.Field) (int, uint64, api.Errno) { return frame.Response(status, w.method, minor, l) }
		return statusOf(minor, status, reason), e == api.OK
	})
	if e != api.OK {
		return failed(e)
	}
	kind, size, e := kinds(l)
	if e != api.OK {
		return failed(e)
	}
	body, used, e := modelBody(s[n:], kind, size, w.ended)
	if e != api.OK {
		return failed(e)
	}
	return answer{line, fieldsOf(l), body, n + used, api.OK}
}

// asModel checks what is told of s.
func asModel(t *testing.T, w way, s string) {
	t.Helper()
	tells(t, w, s, w.model(s))
}

// list is a list of fields by their lines, each parted at its first ": ".
func list(lines ...string) []api.Field {
	var l []api.Field
	for _, line := range lines {
		name, value, _ := strings.Cut(line, ": ")
		l = append(l, api.Field{Name: name, Value: value})
	}
	return l
}

// listOf is the list of plain lines.
func listOf(lines string) []api.Field {
	return list(strings.FieldsFunc(lines, func(r rune) bool { return r == '\r' || r == '\n' })...)
}

// P9.1: no body, a length, chunks; with bytes behind, and of each beginning.
func TestRequest(t *testing.T) {
	get := lineOf("GET", "/", 1)
	post := lineOf("POST", "/a?b", 0)
	whole(t, asRequest, "GET / HTTP/1.1\r\n\r\n", get, "", "")
	whole(t, asRequest, "GET / HTTP/1.1\r\nHost: x\r\n\r\n", get, `"Host"="x";`, "")
	whole(t, asRequest, "POST /a?b HTTP/1.0\r\nX:\r\nhost:\t a, b \r\nX: c\r\n\r\n", post, `"X"="";"host"="a, b";"X"="c";`, "")
	whole(t, asRequest, "POST /a?b HTTP/1.0\r\ncontent-length: 3\r\n\r\nabc", post, `"content-length"="3";`, "abc")
	whole(t, asRequest, "GET / HTTP/1.1\r\nContent-Length: 0\r\n\r\n", get, `"Content-Length"="0";`, "")
	whole(t, asRequest, "GET / HTTP/1.1\r\nContent-Length: 2, 02\r\nA: b\r\nContent-Length: 2\r\n\r\n\r\n", get, `"Content-Length"="2, 02";"A"="b";"Content-Length"="2";`, "\r\n")
	whole(t, asRequest, "GET / HTTP/1.1\r\nContent-Length: 4\r\n\r\n\x00\xff\n\r", get, `"Content-Length"="4";`, "\x00\xff\n\r")
	whole(t, asRequest, "GET / HTTP/1.1\r\nTransfer-Encoding: Chunked\r\n\r\n0\r\n\r\n", get, `"Transfer-Encoding"="Chunked";`, "")
	whole(t, asRequest, "GET / HTTP/1.1\r\nTransfer-Encoding: chunked\r\nA: b\r\n\r\n2;x\r\nab\r\n1\r\nc\r\n0\r\nContent-Length: 9\r\n\r\n", get, `"Transfer-Encoding"="chunked";"A"="b";`, "abc")
	for _, method := range []string{"HEAD", "CONNECT", "get"} { // of a request they have a body as all do
		whole(t, asRequest, method+" a:1 HTTP/1.1\r\nContent-Length: 1\r\n\r\na", lineOf(method, "a:1", 1), `"Content-Length"="1";`, "a")
	}
}

// P9.1: what the chapter's examples tell.
func TestRequestExamples(t *testing.T) {
	tells(t, asRequest, "GET / HTTP/1.1\r\nHost: x\r\n\r\n", answer{lineOf("GET", "/", 1), `"Host"="x";`, "", 27, api.OK})
	tells(t, asRequest, "POST / HTTP/1.1\r\nContent-Length: 2\r\n\r\nabc", answer{lineOf("POST", "/", 1), `"Content-Length"="2";`, "ab", 40, api.OK})
	tells(t, asRequest, "GET / HTTP/1.1\nHost: x\n\n", failed(api.ErrBad))
	tells(t, asRequest, "GET / HTTP/1.1\r\nContent-Length: 1\r\nContent-Length: 2\r\n\r\n", failed(api.ErrFrame))
	wants(t, asRequest, "")
	if r, n, e := Request(nil); !SameRequest(r, api.Request{}) || n != 0 || e != api.ErrMore {
		t.Error(r, n, e)
	}
}

// P9.2: no body, a length, chunks, and all up to the connection's end.
func TestResponse(t *testing.T) {
	ok := statusOf(1, 200, "OK")
	for _, w := range []way{open, closed, {method: ""}, {method: "head", ended: true}} {
		whole(t, w, "HTTP/1.1 200 OK\r\nContent-Length: 2\r\nA: b\r\n\r\nab", ok, `"Content-Length"="2";"A"="b";`, "ab")
		whole(t, w, "HTTP/1.1 200 OK\r\nContent-Length: 0\r\n\r\n", ok, `"Content-Length"="0";`, "")
		whole(t, w, "HTTP/1.0 404 \r\nContent-Length: 1\r\n\r\n\n", statusOf(0, 404, ""), `"Content-Length"="1";`, "\n")
		whole(t, w, "HTTP/1.1 200 OK\r\nTransfer-Encoding: chunked\r\n\r\n1\r\na\r\n0\r\nT: v\r\n\r\n", ok, `"Transfer-Encoding"="chunked";`, "a")
		whole(t, w, "HTTP/1.1 204 No \xff\r\n\r\n", statusOf(1, 204, "No \xff"), "", "")
	}
	for _, body := range []string{"", "ab", "\r\n", "\x00\xff\n", "HTTP/1.1 200 OK\r\n\r\n"} {
		for _, minor := range []int{0, 1} {
			s := fmt.Sprintf("HTTP/1.%d 200 OK\r\nA: b\r\n\r\n%s", minor, body)
			tells(t, closed, s, answer{statusOf(minor, 200, "OK"), `"A"="b";`, body, len(s), api.OK})
			wants(t, open, s)
		}
	}
	if r, n, e := Response(nil, "", true); !SameResponse(r, api.Response{}) || n != 0 || e != api.ErrMore {
		t.Error(r, n, e)
	}
}

// P9.2: what is not whole is ErrMore still, if the connection has ended.
func TestResponseEnded(t *testing.T) {
	for _, s := range []string{
		"", "HTTP", "HTTP/1.1 200 OK\r\n", "HTTP/1.1 200 OK\r\nA: b\r\n", "HTTP/1.1 204 OK\r\n\r",
		"HTTP/1.1 200 OK\r\nContent-Length: 2\r\n\r\na", "HTTP/1.1 200 OK\r\nContent-Length: 2\r\n\r\n",
		"HTTP/1.1 200 OK\r\nTransfer-Encoding: chunked\r\n\r\n1\r\na\r\n0\r\n\r",
	} {
		wants(t, open, s)
		wants(t, closed, s)
	}
}

// P9.2: which responses have no body, whatever their fields say, and whatever is behind.
func TestResponseNone(t *testing.T) {
	for status := 100; status <= 599; status++ {
		for _, method := range []string{"GET", "HEAD", "CONNECT", "head", "connect", "POST"} {
			none := method == "HEAD" || status < 200 || status == 204 || status == 304 || method == "CONNECT" && status < 300
			for _, w := range []way{{method: method}, {method: method, ended: true}} {
				ahead := fmt.Sprintf("HTTP/1.1 %d x\r\n", status)
				line := statusOf(1, status, "x")
				if none {
					tells(t, w, ahead+"\r\nab", answer{line, "", "", len(ahead) + 2, api.OK})
					tells(t, w, ahead+"Content-Length: 2\r\n\r\nab", answer{line, `"Content-Length"="2";`, "", len(ahead) + 21, api.OK})
					tells(t, w, ahead+"Content-Length: 5000\r\n\r\n", answer{line, `"Content-Length"="5000";`, "", len(ahead) + 24, api.OK})
					tells(t, w, ahead+"Transfer-Encoding: chunked\r\n\r\ng", answer{line, `"Transfer-Encoding"="chunked";`, "", len(ahead) + 30, api.OK})
					continue
				}
				tells(t, w, ahead+"Content-Length: 2\r\n\r\nabc", answer{line, `"Content-Length"="2";`, "ab", len(ahead) + 23, api.OK})
				tells(t, w, ahead+"Content-Length: 5000\r\n\r\n", failed(api.ErrBig))
				tells(t, w, ahead+"Transfer-Encoding: chunked\r\n\r\ng\r\n", failed(api.ErrBad))
				if w.ended {
					tells(t, w, ahead+"\r\nabc", answer{line, "", "abc", len(ahead) + 5, api.OK})
				} else {
					wants(t, w, ahead+"\r\nabc")
				}
			}
		}
	}
}

// P9.1, P9.2: start lines of 512 bytes with their ends, and of more.
func TestFirstLine(t *testing.T) {
	target := "/" + strings.Repeat("x", mostLine-len("GET / HTTP/1.1\r\n"))
	whole(t, asRequest, "GET "+target+" HTTP/1.1\r\n\r\n", lineOf("GET", target, 1), "", "")
	refuses(t, asRequest, "GET "+target+"x HTTP/1.1\r", api.ErrBig)
	tells(t, asRequest, "GET "+target+"x HTTP/1.1\r\n\r\n", failed(api.ErrBig))
	refuses(t, asRequest, "GET "+target+" HTTP/1.2\r\n", api.ErrBad)
	refuses(t, asRequest, "GET "+target+"\x00HTTP/1.1\r\n", api.ErrBad)
	reason := strings.Repeat("x", mostLine-len("HTTP/1.1 204 \r\n"))
	whole(t, open, "HTTP/1.1 204 "+reason+"\r\n\r\n", statusOf(1, 204, reason), "", "")
	refuses(t, open, "HTTP/1.1 204 "+reason+"x\r", api.ErrBig)
	tells(t, open, "HTTP/1.1 204 "+reason+"x\r\n\r\n", failed(api.ErrBig))
	for _, w := range ways {
		for n := range 256 {
			if n != '\n' { // a line is judged at its end, or at its limit
				wants(t, w, strings.Repeat(string([]byte{byte(n)}), mostLine-1))
				refuses(t, w, strings.Repeat(string([]byte{byte(n)}), mostLine), api.ErrBig)
				refuses(t, w, strings.Repeat(string([]byte{byte(n)}), mostLine-1)+"\n", api.ErrBad)
				tells(t, w, strings.Repeat(string([]byte{byte(n)}), mostLine)+"\n", failed(api.ErrBig))
			}
		}
	}
}

// P9.1, P9.2: lines that are none, with an end and without.
func TestFirstLineBad(t *testing.T) {
	for _, line := range []string{"", "GET", "GET /", "GET  / HTTP/1.1", " GET / HTTP/1.1", "GET / HTTP/1.1 ", "GET / HTTP/1.2", "GET / http/1.1", "GET / HTTP/1.1\r", "G(T / HTTP/1.1",
		"HTTP/1.1 200", "HTTP/1.1 099 a", "HTTP/1.1 600 a", "HTTP/1.1 20 a", "HTTP/1.2 200 OK", "HTTP/1.1  200 OK", "HTTP/1.1 200 \x00", "HTTP/1.1 200 OK\r", "\r", "\x00"} {
		for _, w := range ways {
			refuses(t, w, line+"\r\n", api.ErrBad)
			refuses(t, w, strings.TrimSuffix(line, "\r")+"\n", api.ErrBad)
			wants(t, w, line)
			wants(t, w, line+"\r")
		}
	}
	for _, w := range ways {
		refuses(t, w, "\n", api.ErrBad)
		refuses(t, w, "GET / HTTP/1.1\n", api.ErrBad)
		refuses(t, w, "HTTP/1.1 200 OK\n", api.ErrBad)
		refuses(t, w, "GET / HTTP/1.1\n\r\n", api.ErrBad)
		refuses(t, w, "\r\nGET / HTTP/1.1\r\n\r\n", api.ErrBad) // no empty lines ahead
	}
	refuses(t, asRequest, "HTTP/1.1 200 OK\r\n", api.ErrBad)
	refuses(t, open, "GET / HTTP/1.1\r\n", api.ErrBad)
}

// P9.1, P9.2: fields that head.Parse doesn't take.
func TestFieldsBad(t *testing.T) {
	for _, first := range []string{"GET / HTTP/1.1\r\n", "HTTP/1.1 200 OK\r\n"} {
		for _, w := range []way{asRequest, open, closed} {
			if w.request != (first[0] == 'G') {
				continue
			}
			for _, fields := range []string{"Host : x", " a: b", "a: b\n", "\n", "a\r", ":", "a: \x00", "a: b\r\r", "\rx", "A: b\r\n c"} {
				refuses(t, w, first+fields, api.ErrBad)
			}
			refuses(t, w, first+"a: "+strings.Repeat("x", mostLine-2), api.ErrBig)
			refuses(t, w, first+strings.Repeat("a: b\r\n", mostFields)+"a", api.ErrBig)
			wants(t, w, first+strings.Repeat("a: b\r\n", mostFields)+"\r")
		}
	}
}

// lines are fields of just n bytes together, n not below 60, with the empty line, in no more lines than may be.
func lines(n int) string {
	s := ""
	for n > 2 {
		one := min(n-2, 400)
		if rest := n - 2 - one; rest > 0 && rest < 20 {
			one -= 20
		}
		s += "X: " + strings.Repeat("v", one-5) + "\r\n"
		n -= one
	}
	return s + "\r\n"
}

// P9.1, P9.2, P9.8: heads of 2048 bytes, and of more.
func TestHead(t *testing.T) {
	for _, first := range []string{"GET / HTTP/1.1\r\n", "GET /" + strings.Repeat("y", 496) + " HTTP/1.1\r\n"} {
		rest := mostHead - len(first)
		fields := lines(rest)
		if len(first+fields) != mostHead || len(lines(60)) != 60 || len(lines(rest+1)) != rest+1 {
			t.Fatal("the test's own fields are wrong")
		}
		_, target, _, _ := start.Request(first[:len(first)-2])
		whole(t, asRequest, first+fields, lineOf("GET", target, 1), fieldsOf(listOf(fields)), "")
		refuses(t, asRequest, first+lines(rest + 1)[:rest], api.ErrBig)
		tells(t, asRequest, first+lines(rest+1), failed(api.ErrBig))
		tells(t, asRequest, first+lines(rest+2), failed(api.ErrBig))
		refuses(t, asRequest, first+fields[:rest-1]+"x", api.ErrBad) // the 2048th byte is looked at
		refuses(t, asRequest, first+fields[:rest-2]+"xy", api.ErrBig)
		const length = "Content-Length: 1\r\n"
		fields = strings.TrimSuffix(lines(rest-len(length)), "\r\n") + length
		whole(t, asRequest, first+fields+"\r\na", lineOf("GET", target, 1), fieldsOf(listOf(fields)), "a")
	}
	first := "HTTP/1.1 200 OK\r\n"
	fields := lines(mostHead - len(first))
	l := listOf(fields)
	for _, body := range []string{"", "abc", strings.Repeat("x", mostBody)} {
		tells(t, closed, first+fields+body, answer{statusOf(1, 200, "OK"), fieldsOf(l), body, mostHead + len(body), api.OK})
		wants(t, open, first+fields+body)
	}
	for _, w := range []way{open, closed} {
		tells(t, w, first+lines(mostHead-len(first)+1), failed(api.ErrBig))
		refuses(t, w, first+lines(mostHead - len(first) + 1)[:mostHead-len(first)], api.ErrBig)
		wants(t, w, first+lines(mostHead - len(first) + 1)[:mostHead-len(first)-1])
	}
}

// P9.1, P9.2: which error is met first.
func TestReadOrder(t *testing.T) {
	get := "GET / HTTP/1.1\r\n"
	refuses(t, asRequest, "GET / HTTP/1.2\r\nHost : x\r\n", api.ErrBad)
	tells(t, asRequest, "GET / HTTP/1.1\n"+strings.Repeat("x", 3000), failed(api.ErrBad))
	tells(t, asRequest, "GET / HTTP/2\r\n"+strings.Repeat("x: y\r\n", 3000), failed(api.ErrBad))
	refuses(t, asRequest, get+"Content-Length: 1\r\nContent-Length: 2\r\nHost : x", api.ErrBad) // head ahead of frame
	refuses(t, asRequest, get+"Content-Length: 1\r\nContent-Length: 2\r\n"+lines(3000), api.ErrBig)
	wants(t, asRequest, get+"Content-Length: 1\r\nContent-Length: 2\r\n")
	refuses(t, asRequest, get+"Content-Length: 1\r\nContent-Length: 2\r\n\r\n", api.ErrFrame)
	refuses(t, asRequest, get+"Content-Length: 5000\r\nContent-Length: 5001\r\n\r\n", api.ErrFrame)
	refuses(t, asRequest, get+"Transfer-Encoding: gzip\r\n\r\ng\r\n", api.ErrFrame) // frame ahead of the body
	refuses(t, asRequest, get+"Content-Length: 4\r\nTransfer-Encoding: chunked\r\n\r\n", api.ErrFrame)
	refuses(t, asRequest, "GET / HTTP/1.0\r\nTransfer-Encoding: chunked\r\n\r\n", api.ErrFrame)
	refuses(t, asRequest, get+"Content-Length: \r\n\r\n", api.ErrFrame)
	refuses(t, asRequest, get+"Content-Length: +1\r\n\r\n", api.ErrFrame)
	refuses(t, asRequest, get+"Content-Length: 4097\r\n\r\n", api.ErrBig)
	refuses(t, asRequest, get+"Content-Length: 99999999999999999999999999\r\n\r\n", api.ErrBig)
	for _, w := range []way{open, closed, {method: "HEAD"}, {method: "CONNECT"}} {
		refuses(t, w, "HTTP/1.1 200 OK\r\nContent-Length: 1\r\ncontent-length: 2\r\n\r\n", api.ErrFrame)
		refuses(t, w, "HTTP/1.1 304 OK\r\nContent-Length: 1\r\nTransfer-Encoding: chunked\r\n\r\n", api.ErrFrame)
		refuses(t, w, "HTTP/1.0 200 OK\r\nTransfer-Encoding: chunked\r\n\r\n", api.ErrFrame)
	}
}

// P9.1, P9.2, P9.8: bodies of 0, 4096 and 4097 bytes, of each kind, ended and not.
func TestBody(t *testing.T) {
	most := strings.Repeat("b", mostBody)
	for _, first := range []string{"GET / HTTP/1.1\r\n", "HTTP/1.1 200 OK\r\n"} {
		for _, w := range []way{asRequest, open, closed} {
			if w.request != (first[0] == 'G') {
				continue
			}
			line := lineOf("GET", "/", 1)
			if !w.request {
				line = statusOf(1, 200, "OK")
			}
			whole(t, w, first+"Content-Length: 4096\r\n\r\n"+most, line, `"Content-Length"="4096";`, most)
			refuses(t, w, first+"Content-Length: 4097\r\n\r\n", api.ErrBig)
			coded := first + "Transfer-Encoding: chunked\r\n\r\n"
			whole(t, w, coded+"1000\r\n"+most+"\r\n0\r\n\r\n", line, `"Transfer-Encoding"="chunked";`, most)
			whole(t, w, coded+strings.Repeat("1\r\nb\r\n", mostBody)+"0\r\n\r\n", line, `"Transfer-Encoding"="chunked";`, most)
			refuses(t, w, coded+"1001\r\n", api.ErrBig)
			refuses(t, w, coded+"1000\r\n"+most+"\r\n1\r\n", api.ErrBig)
			refuses(t, w, coded+"1\r\nab\n", api.ErrBad)
			refuses(t, w, coded+"1\n", api.ErrBad)
			refuses(t, w, coded+"0\r\nT : v", api.ErrBad)
			refuses(t, w, coded+"0\r\n"+lines(mostHead + 1)[:mostHead+1], api.ErrBig)
			refuses(t, w, coded+strings.Repeat("0", chunk.Most), api.ErrBig)
		}
	}
	ahead := "HTTP/1.1 200 OK\r\n\r\n"
	for n := mostBody - 2; n <= mostBody; n++ {
		wants(t, open, ahead+most[:n])
		tells(t, closed, ahead+most[:n], answer{statusOf(1, 200, "OK"), "", most[:n], len(ahead) + n, api.OK})
	}
	for _, w := range []way{open, closed} {
		refuses(t, w, ahead+most+"b", api.ErrBig)
		tells(t, w, ahead+most+"\n", failed(api.ErrBig))
	}
}

// P9.1, P9.2, P9.7: each byte, at each place, instead of what stands there, ahead of it, and as the last one; then also that a sure answer stays.
func TestBytes(t *testing.T) {
	for _, s := range []string{
		"PUT /a HTTP/1.1\r\nContent-Length: 2\r\nA: b\r\n\r\nab",
		"GET / HTTP/1.1\r\nTransfer-Encoding: chunked\r\n\r\n1\r\na\r\n0\r\n\r\n",
		"HTTP/1.1 200 OK\r\nContent-Length: 1\r\n\r\na", "HTTP/1.0 200 OK\r\n\r\nab",
	} {
		for _, w := range ways {
			if w.request != (s[0] != 'H') {
				continue
			}
			for at := range len(s) {
				for n := range 256 {
					one := string([]byte{byte(n)})
					stays(t, w, s[:at]+one+s[at+1:])
					stays(t, w, s[:at]+one+s[at:])
					stays(t, w, s[:at]+one)
				}
				stays(t, w, s[:at]+s[at+1:])
			}
		}
	}
}

// stays checks what is told of s, and by P9.7 what is told with more behind.
func stays(t *testing.T, w way, s string) {
	t.Helper()
	a := w.model(s)
	tells(t, w, s, a)
	if w.closes(s) {
		return
	}
	if a.e != api.ErrMore {
		for _, behind := range []string{"a", "\r\n", "\n"} {
			tells(t, w, s+behind, a)
		}
	}
}

// closes tells whether s is a response with a head whose body ends with the connection.
func (w way) closes(s string) bool {
	if w.request {
		return false
	}
	var status, minor int
	_, l, _, e := modelHead(s, func(line string) (string, bool) {
		var e api.Errno
		minor, status, _, e = start.Status(line)
		return "", e == api.OK
	})
	if e != api.OK {
		return false
	}
	kind, _, e := frame.Response(status, w.method, minor, l)
	return e == api.OK && kind == frame.Close
}

// P9.1, P9.2, P9.7: all short texts of what matters.
func TestShort(t *testing.T) {
	for _, w := range ways {
		first := "HTTP/1.1 200 OK"
		if w.request {
			first = "GET / HTTP/1.1"
		}
		sample.Texts([]string{first, "\r\n", "\r", "\n", "Content-Length: 2", "Transfer-Encoding: chunked", "a", "0"}, 5, func(s string) { stays(t, w, s) })
		sample.Texts([]string{"\r\n", "Content-Length: 2\r\n", "content-length: 02\r\n", "transfer-encoding: chunked\r\n", "Content-Length: x\r\n", "0\r\n", "2\r\nab\r\n", "a"}, 5, func(s string) {
			stays(t, w, first+"\r\n"+s)
		})
	}
}

// P9.7: a stream is parted into the messages that were put, one behind the other.
func TestStream(t *testing.T) {
	parts := []string{
		"GET / HTTP/1.1\r\n\r\n", "POST /b HTTP/1.1\r\nContent-Length: 3\r\n\r\nGET", "PUT /c HTTP/1.0\r\nContent-Length: 0\r\nA: b\r\n\r\n",
		"POST /d HTTP/1.1\r\nTransfer-Encoding: chunked\r\n\r\n5\r\n\r\n0\r\n\r\n0\r\nA: b\r\n\r\n", "GET /e HTTP/1.1\r\nHost: x\r\n\r\n",
	}
	stream := strings.Join(parts, "")
	for cut := range len(stream) + 1 { // whatever of it has come first
		var got []string
		rest := ""
		for _, come := range []string{stream[:cut], stream[cut:]} {
			rest += come
			for {
				_, n, e := Request([]byte(rest))
				if e != api.OK {
					if e != api.ErrMore {
						t.Errorf("cut at %d: error %d of %q", cut, e, rest)
					}
					break
				}
				got = append(got, rest[:n])
				rest = rest[n:]
			}
		}
		if !slices.Equal(got, parts) || rest != "" {
			t.Errorf("cut at %d: %q, and %q", cut, got, rest)
		}
	}
}

// P9.7: of responses likewise, each with the method that it is for.
func TestStreamResponses(t *testing.T) {
	methods := []string{"GET", "HEAD", "GET", "GET", "CONNECT", "POST"}
	parts := []string{
		"HTTP/1.1 100 Continue\r\n\r\n", "HTTP/1.1 200 OK\r\nContent-Length: 9\r\n\r\n", "HTTP/1.1 200 OK\r\nContent-Length: 9\r\n\r\nHTTP/1.1 ",
		"HTTP/1.1 304 \r\nTransfer-Encoding: chunked\r\n\r\n", "HTTP/1.1 200 OK\r\n\r\n", "HTTP/1.1 500 x\r\nTransfer-Encoding: chunked\r\n\r\n1\r\n\n\r\n0\r\n\r\n",
	}
	rest := strings.Join(parts, "")
	for i, method := range methods {
		_, n, e := Response([]byte(rest), method, i%2 == 0)
		if e != api.OK || rest[:n] != parts[i] {
			t.Fatalf("response %d: %d, %d of %q", i, n, e, rest)
		}
		rest = rest[n:]
	}
}

// putRequest checks what PutRequest tells, and that what it is handed is only read.
func putRequest(t *testing.T, r api.Request, want string, e api.Errno) {
	t.Helper()
	ahead := api.Request{Method: r.Method, Target: r.Target, Minor: r.Minor, Fields: slices.Clone(r.Fields), Body: bytes.Clone(r.Body)}
	b, got := PutRequest(r)
	if string(b) != want || got != e {
		t.Errorf("PutRequest(%s %s %d, %d fields, %d bytes): %s, %d; want %s, %d", r.Method, sample.Shown(r.Target), r.Minor, len(r.Fields), len(r.Body), sample.Shown(string(b)), got, sample.Shown(want), e)
	}
	if !SameRequest(r, ahead) {
		t.Errorf("PutRequest made %v to %v", ahead, r)
	}
	if got == api.OK {
		l := fieldsOf(r.Fields)
		if len(r.Body) > 0 {
			l += fmt.Sprintf("%q=\"%d\";", "Content-Length", len(r.Body))
		}
		whole(t, asRequest, string(b), lineOf(r.Method, r.Target, r.Minor), l, string(r.Body))
	}
}

// putResponse likewise.
func putResponse(t *testing.T, r api.Response, method string, want string, e api.Errno) {
	t.Helper()
	ahead := api.Response{Status: r.Status, Reason: r.Reason, Minor: r.Minor, Fields: slices.Clone(r.Fields), Body: bytes.Clone(r.Body)}
	b, got := PutResponse(r, method)
	if string(b) != want || got != e {
		t.Errorf("PutResponse(%d %s %d, %d fields, %d bytes, %s): %s, %d; want %s, %d", r.Status, sample.Shown(r.Reason), r.Minor, len(r.Fields), len(r.Body), method, sample.Shown(string(b)), got, sample.Shown(want), e)
	}
	if !SameResponse(r, ahead) {
		t.Errorf("PutResponse made %v to %v", ahead, r)
	}
	if got == api.OK {
		l := fieldsOf(r.Fields)
		if mayHave(r.Status, method) {
			l += fmt.Sprintf("%q=\"%d\";", "Content-Length", len(r.Body))
		}
		whole(t, way{method: method}, string(b), statusOf(r.Minor, r.Status, r.Reason), l, string(r.Body))
		whole(t, way{method: method, ended: true}, string(b), statusOf(r.Minor, r.Status, r.Reason), l, string(r.Body))
	}
}

// mayHave is the chapter's list of which responses may have a body.
func mayHave(status int, method string) bool {
	return !(method == "HEAD" || status >= 100 && status <= 199 || status == 204 || status == 304 || method == "CONNECT" && status/100 == 2)
}

// P9.3, P9.6: with a body, and without; whatever stands behind; of each beginning.
func TestPutRequest(t *testing.T) {
	putRequest(t, api.Request{Method: "GET", Target: "/", Minor: 1}, "GET / HTTP/1.1\r\n\r\n", api.OK)
	putRequest(t, api.Request{Method: "GET", Target: "http://a/", Minor: 0, Fields: list("Host: a", "x: ", "X: b, c")}, "GET http://a/ HTTP/1.0\r\nHost: a\r\nx: \r\nX: b, c\r\n\r\n", api.OK)
	putRequest(t, api.Request{Method: "POST", Target: "*", Minor: 1, Body: []byte("ab")}, "POST * HTTP/1.1\r\nContent-Length: 2\r\n\r\nab", api.OK)
	putRequest(t, api.Request{Method: "HEAD", Target: "/", Minor: 0, Fields: list("A: b"), Body: []byte("0123456789\x00\xff")}, "HEAD / HTTP/1.0\r\nA: b\r\nContent-Length: 12\r\n\r\n0123456789\x00\xff", api.OK)
	putRequest(t, api.Request{Method: "CONNECT", Target: "a:1", Minor: 1, Fields: []api.Field{}, Body: []byte{}}, "CONNECT a:1 HTTP/1.1\r\n\r\n", api.OK)
	putRequest(t, api.Request{Method: "GET", Target: "/", Minor: 1, Fields: list("Content-Lengths: 3", "Content_Length: 3", "X-Content-Length: 3", "Transfer-Encodings: x")},
		"GET / HTTP/1.1\r\nContent-Lengths: 3\r\nContent_Length: 3\r\nX-Content-Length: 3\r\nTransfer-Encodings: x\r\n\r\n", api.OK)
	most := strings.Repeat("b", mostBody)
	putRequest(t, api.Request{Method: "PUT", Target: "/", Minor: 1, Body: []byte(most)}, "PUT / HTTP/1.1\r\nContent-Length: 4096\r\n\r\n"+most, api.OK)
	putRequest(t, api.Request{Method: "PUT", Target: "/", Minor: 1, Body: []byte(most + "b")}, "", api.ErrBig)
}

// P9.3: what start, head, or the fields' own names refuse, with whatever body.
func TestPutRequestArg(t *testing.T) {
	wrong := []api.Request{
		{}, {Target: "/", Minor: 1}, {Method: "GET", Minor: 1}, {Method: "G T", Target: "/", Minor: 1}, {Method: "GET", Target: "/ a", Minor: 1}, {Method: "GET", Target: "/\xff", Minor: 1},
		{Method: "GET", Target: "/", Minor: 2}, {Method: "GET", Target: "/", Minor: -1}, {Method: strings.Repeat("G", 33), Target: "/", Minor: 1},
		{Method: "GET", Target: strings.Repeat("x", 500), Minor: 1}, // a line of 513 bytes without its end
	}
	for _, f := range []api.Field{{}, {Name: "a b"}, {Name: "a", Value: " b"}, {Name: "a", Value: "b\t"}, {Name: "a", Value: "b\r\nc: d"}, {Name: "a", Value: "\x00"}, {Name: "a:"},
		{Name: "a", Value: strings.Repeat("x", mostLine)}} {
		wrong = append(wrong, api.Request{Method: "GET", Target: "/", Minor: 1, Fields: []api.Field{{Name: "A", Value: "b"}, f}})
	}
	for _, name := range []string{"Content-Length", "content-length", "CONTENT-LENGTH", "cONTENT-lENGTH", "Transfer-Encoding", "transfer-encoding", "TRANSFER-ENCODING"} {
		for _, value := range []string{"", "0", "2", "chunked", "identity"} {
			wrong = append(wrong, api.Request{Method: "GET", Target: "/", Minor: 1, Fields: []api.Field{{Name: name, Value: value}}})
			wrong = append(wrong, api.Request{Method: "GET", Target: "/", Minor: 1, Fields: []api.Field{{Name: "A", Value: "b"}, {Name: name, Value: value}, {Name: "B"}}})
		}
	}
	wrong = append(wrong, api.Request{Method: "GET", Target: "/", Minor: 1, Fields: make([]api.Field, 40)})
	for _, r := range wrong {
		for _, size := range []int{0, 2, mostBody, mostBody + 1, 1 << 20} { // ahead of ErrBig
			r.Body = bytes.Repeat([]byte("a"), size)
			putRequest(t, r, "", api.ErrArg)
		}
	}
}

// many is n short fields.
func many(n int) []api.Field { return slices.Repeat(list("a: b"), n) }

// sized are fields whose plain lines, with the empty one, have just n bytes.
func sized(n int) []api.Field { return listOf(lines(n)) }

// P9.3: fields that leave no room for the one of the length.
func TestPutRequestNoRoom(t *testing.T) {
	get := api.Request{Method: "GET", Target: "/", Minor: 1}
	get.Fields = many(mostFields)
	putRequest(t, get, "GET / HTTP/1.1\r\n"+strings.Repeat("a: b\r\n", mostFields)+"\r\n", api.OK)
	get.Body = []byte("x")
	putRequest(t, get, "", api.ErrArg)
	get.Body = make([]byte, mostBody+1)
	putRequest(t, get, "", api.ErrBig) // ahead of it
	get.Fields, get.Body = many(mostFields-1), []byte("x")
	putRequest(t, get, "GET / HTTP/1.1\r\n"+strings.Repeat("a: b\r\n", mostFields-1)+"Content-Length: 1\r\n\r\nx", api.OK)
	line := len("GET / HTTP/1.1\r\n")
	for _, body := range []string{"", "x", strings.Repeat("x", 10), strings.Repeat("x", mostBody)} {
		own := 0
		if body != "" {
			own = len("Content-Length: \r\n") + len(strconv.Itoa(len(body)))
		}
		get.Body = []byte(body)
		for _, test := range []struct {
			size int
			e    api.Errno
		}{{mostHead - own - line - 1, api.OK}, {mostHead - own - line, api.OK}, {mostHead - own - line + 1, api.ErrBig}, {mostHead - own, api.ErrBig}, {mostHead - own + 1, api.ErrArg}} {
			get.Fields = sized(test.size)
			want := ""
			if test.e == api.OK {
				want = "GET / HTTP/1.1\r\n" + lines(test.size)
				if body != "" {
					want = strings.TrimSuffix(want, "\r\n") + "Content-Length: " + strconv.Itoa(len(body)) + "\r\n\r\n" + body
				}
			}
			putRequest(t, get, want, test.e)
		}
	}
}

// P9.3: start lines of 512 bytes with their end, and of more, which start still takes.
func TestPutLine(t *testing.T) {
	target := strings.Repeat("x", mostLine-len("GET  HTTP/1.1\r\n"))
	for _, body := range []string{"", "x"} {
		fields := ""
		if body != "" {
			fields = "Content-Length: 1\r\n"
		}
		putRequest(t, api.Request{Method: "GET", Target: target, Minor: 1, Body: []byte(body)}, "GET "+target+" HTTP/1.1\r\n"+fields+"\r\n"+body, api.OK)
		putRequest(t, api.Request{Method: "GET", Target: target + "x", Minor: 1, Body: []byte(body)}, "", api.ErrBig)
		putRequest(t, api.Request{Method: "GET", Target: target + "xx", Minor: 1, Body: []byte(body)}, "", api.ErrBig)
		putRequest(t, api.Request{Method: "GET", Target: target + "xxx", Minor: 1, Body: []byte(body)}, "", api.ErrArg)
	}
	for _, long := range []string{"x", "xx"} {
		r := api.Request{Method: "GET", Target: target + long, Minor: 1, Fields: many(mostFields)}
		putRequest(t, r, "", api.ErrBig)
		r.Body = []byte("x")
		putRequest(t, r, "", api.ErrArg) // the field that is one too many is ahead
		r.Fields = many(mostFields + 1)
		putRequest(t, r, "", api.ErrArg)
	}
	reason := strings.Repeat("x", mostLine-len("HTTP/1.1 204 \r\n"))
	putResponse(t, api.Response{Status: 204, Reason: reason, Minor: 1}, "GET", "HTTP/1.1 204 "+reason+"\r\n\r\n", api.OK)
	putResponse(t, api.Response{Status: 204, Reason: reason + "x", Minor: 1}, "GET", "", api.ErrBig)
	putResponse(t, api.Response{Status: 204, Reason: reason + "xx", Minor: 1}, "GET", "", api.ErrBig)
	putResponse(t, api.Response{Status: 204, Reason: reason + "xxx", Minor: 1}, "GET", "", api.ErrArg)
}

// P9.4, P9.6: the field of the length stands wherever a body may be; where none may be, a body is refused.
func TestPutResponse(t *testing.T) {
	for status := 100; status <= 599; status++ {
		for _, method := range []string{"GET", "HEAD", "CONNECT", "head", "Connect", "", "\x00"} {
			for _, minor := range []int{0, 1} {
				first := fmt.Sprintf("HTTP/1.%d %d r s\r\nA: b\r\n", minor, status)
				r := api.Response{Status: status, Reason: "r s", Minor: minor, Fields: list("A: b")}
				if !mayHave(status, method) {
					want := first + "\r\n"
					if b, e := PutResponse(r, method); string(b) != want || e != api.OK {
						t.Errorf("PutResponse(%d, %s): %q, %d", status, method, b, e)
					}
					for _, size := range []int{1, mostBody, mostBody + 1} {
						r.Body = make([]byte, size)
						putResponse(t, r, method, "", api.ErrArg)
					}
					continue
				}
				for _, body := range []string{"", "a", "0123456789"} {
					r.Body = []byte(body)
					want := fmt.Sprintf("%sContent-Length: %d\r\n\r\n%s", first, len(body), body)
					if b, e := PutResponse(r, method); string(b) != want || e != api.OK {
						t.Errorf("PutResponse(%d, %s): %q, %d", status, method, b, e)
					}
				}
			}
		}
	}
	for _, status := range []int{100, 199, 200, 204, 299, 300, 304, 404, 599} {
		for _, method := range []string{"GET", "HEAD", "CONNECT"} {
			first, r := fmt.Sprintf("HTTP/1.1 %d \r\nx: y\r\n", status), api.Response{Status: status, Minor: 1, Fields: list("x: y")}
			if !mayHave(status, method) {
				putResponse(t, r, method, first+"\r\n", api.OK)
				continue
			}
			putResponse(t, r, method, first+"Content-Length: 0\r\n\r\n", api.OK)
			most := strings.Repeat("\n", mostBody)
			r.Body = []byte(most)
			putResponse(t, r, method, first+"Content-Length: 4096\r\n\r\n"+most, api.OK)
			r.Body = append(r.Body, '\n')
			putResponse(t, r, method, "", api.ErrBig)
		}
	}
}

// P9.4: what start, head, or the fields' own names refuse, with whatever body.
func TestPutResponseArg(t *testing.T) {
	wrong := []api.Response{{}, {Status: 99, Minor: 1}, {Status: 600, Minor: 1}, {Status: -1, Minor: 1}, {Status: 1 << 40, Minor: 1}, {Status: 200, Minor: 2}, {Status: 200, Minor: -1}, {Status: 200, Minor: 1, Reason: "a\r\nb: c"},
		{Status: 200, Minor: 1, Fields: list("a b: c")}, {Status: 200, Minor: 1, Fields: list("a: \tb")}, {Status: 200, Minor: 1, Fields: many(mostFields + 1)}, {Status: 204, Minor: 1, Fields: sized(mostHead + 1)}}
	for _, line := range []string{"Content-Length: 0", "content-length: 2", "CONTENT-LENGTH: ", "Transfer-Encoding: chunked", "tRANSFER-eNCODING: x"} {
		for _, status := range []int{100, 200, 204, 304} {
			wrong = append(wrong, api.Response{Status: status, Minor: 1, Fields: list("A: b", line)})
		}
	}
	for _, r := range wrong {
		for _, size := range []int{0, 2, mostBody + 1} {
			for _, method := range []string{"GET", "HEAD", "CONNECT"} {
				r.Body = bytes.Repeat([]byte("a"), size)
				putResponse(t, r, method, "", api.ErrArg)
			}
		}
	}
}

// P9.4: fields that leave no room for the one of the length, which a response has even without a body.
func TestPutResponseNoRoom(t *testing.T) {
	first := "HTTP/1.1 200 OK\r\n"
	r := api.Response{Status: 200, Reason: "OK", Minor: 1, Fields: many(mostFields)}
	putResponse(t, r, "GET", "", api.ErrArg)
	putResponse(t, r, "CONNECT", first+strings.Repeat("a: b\r\n", mostFields)+"\r\n", api.OK)
	r.Body = []byte("x")
	putResponse(t, r, "HEAD", "", api.ErrArg)
	r.Body = make([]byte, mostBody+1)
	putResponse(t, r, "GET", "", api.ErrBig)
	r = api.Response{Status: 200, Reason: "OK", Minor: 1, Fields: many(mostFields - 1)}
	putResponse(t, r, "GET", first+strings.Repeat("a: b\r\n", mostFields-1)+"Content-Length: 0\r\n\r\n", api.OK)
	own := len("Content-Length: 0\r\n")
	for _, test := range []struct {
		size   int
		method string
		e      api.Errno
	}{
		{mostHead - len(first) - own, "GET", api.OK}, {mostHead - len(first) - own + 1, "GET", api.ErrBig}, {mostHead - own, "GET", api.ErrBig}, {mostHead - own + 1, "GET", api.ErrArg},
		{mostHead - len(first), "HEAD", api.OK}, {mostHead - len(first) + 1, "HEAD", api.ErrBig}, {mostHead, "HEAD", api.ErrBig}, {mostHead + 1, "HEAD", api.ErrArg},
	} {
		r.Fields = sized(test.size)
		want := ""
		if test.e == api.OK {
			want = first + lines(test.size)
			if test.method == "GET" {
				want = strings.TrimSuffix(want, "\r\n") + "Content-Length: 0\r\n\r\n"
			}
		}
		putResponse(t, r, test.method, want, test.e)
	}
}

// P9.6: messages of all kinds, there and back.
func TestBack(t *testing.T) {
	r := rand.New(rand.NewSource(9))
	for range 300 {
		var l []api.Field
		for range r.Intn(8) {
			l = append(l, api.Field{Name: []string{"A", "a", "Via", "X-Y"}[r.Intn(4)], Value: []string{"", "b", "c, \"d\"", "\xff"}[r.Intn(4)]})
		}
		body := make([]byte, r.Intn(40))
		for i := range body {
			body[i] = "\r\n0 :\x00\xff"[r.Intn(7)]
		}
		fields, behind := "", ""
		for _, f := range l {
			fields += f.Name + ": " + f.Value + "\r\n"
		}
		if len(body) > 0 {
			behind = fmt.Sprintf("Content-Length: %d\r\n", len(body))
		}
		minor := r.Intn(2)
		putRequest(t, api.Request{Method: "PUT", Target: "/x", Minor: minor, Fields: l}, fmt.Sprintf("PUT /x HTTP/1.%d\r\n%s\r\n", minor, fields), api.OK)
		putRequest(t, api.Request{Method: "PUT", Target: "/x", Minor: 1, Fields: l, Body: body}, "PUT /x HTTP/1.1\r\n"+fields+behind+"\r\n"+string(body), api.OK)
		putResponse(t, api.Response{Status: 404, Reason: "No", Minor: 1, Fields: l, Body: body}, "GET", fmt.Sprintf("HTTP/1.1 404 No\r\n%sContent-Length: %d\r\n\r\n%s", fields, len(body), body), api.OK)
	}
}

// P9.5: each part counts, letter by letter; nil and empty are one.
func TestSameRequest(t *testing.T) {
	rows := []api.Request{
		{}, {Method: "a"}, {Method: "A"}, {Target: "a"}, {Target: "A"}, {Minor: 1}, {Minor: 2}, {Fields: make([]api.Field, 1)}, {Fields: make([]api.Field, 2)},
		{Fields: list("a: b")}, {Fields: list("A: b")}, {Fields: list("a: B")}, {Fields: list("b: a")}, {Fields: list("a: b", "a: c")}, {Fields: list("a: c", "a: b")}, {Fields: list("a: b, c")},
		{Body: []byte("a")}, {Body: []byte("A")}, {Body: []byte("ab")}, {Body: []byte{0}}, {Method: "a", Target: "a", Minor: 1, Fields: list("a: b"), Body: []byte("a")},
		{Method: "a", Target: "a", Minor: 1, Fields: list("a: b"), Body: []byte("b")},
	}
	for i, a := range rows {
		for j, b := range rows {
			if got := SameRequest(a, b); got != (i == j) {
				t.Errorf("SameRequest(%v, %v): %v", a, b, got)
			}
		}
		other := a
		other.Fields = append([]api.Field{}, a.Fields...)
		other.Body = append([]byte{}, a.Body...)
		if !SameRequest(a, other) || !SameRequest(other, a) {
			t.Errorf("SameRequest(%v, %v): false", a, other)
		}
	}
}

// P9.5: likewise.
func TestSameResponse(t *testing.T) {
	rows := []api.Response{
		{}, {Status: 1}, {Status: 2}, {Reason: "a"}, {Reason: "A"}, {Minor: 1}, {Minor: 2}, {Fields: make([]api.Field, 1)}, {Fields: list("a: b")}, {Fields: list("A: b")}, {Fields: list("a: B")},
		{Fields: list("a: b", "a: c")}, {Fields: list("a: c", "a: b")}, {Body: []byte("a")}, {Body: []byte("A")}, {Body: []byte("ab")}, {Body: []byte{0}},
		{Status: 1, Reason: "a", Minor: 1, Fields: list("a: b"), Body: []byte("a")}, {Status: 1, Reason: "a", Minor: 1, Fields: list("a: b"), Body: []byte("b")},
	}
	for i, a := range rows {
		for j, b := range rows {
			if got := SameResponse(a, b); got != (i == j) {
				t.Errorf("SameResponse(%v, %v): %v", a, b, got)
			}
		}
		other := a
		other.Fields = append([]api.Field{}, a.Fields...)
		other.Body = append([]byte{}, a.Body...)
		if !SameResponse(a, other) || !SameResponse(other, a) {
			t.Errorf("SameResponse(%v, %v): false", a, other)
		}
	}
}

// R3: what is answered is memory of its own.
func TestOwnMemory(t *testing.T) {
	for _, s := range []string{"GET / HTTP/1.1\r\nContent-Length: 2\r\n\r\nab", "GET / HTTP/1.1\r\nTransfer-Encoding: chunked\r\n\r\n2\r\nab\r\n0\r\n\r\n"} {
		in := []byte(s)
		r, _, _ := Request(in)
		clear(in)
		if string(r.Body) != "ab" || r.Method != "GET" || r.Fields[0].Name != list(strings.Split(s, "\r\n")[1])[0].Name {
			t.Errorf("%q became %v", s, r)
		}
	}
	for _, s := range []string{"HTTP/1.1 200 OK\r\nContent-Length: 2\r\n\r\nab", "HTTP/1.1 200 OK\r\nA: b\r\n\r\nab"} {
		in := []byte(s)
		r, _, _ := Response(in, "GET", true)
		clear(in)
		if string(r.Body) != "ab" || r.Reason != "OK" || len(r.Fields) != 1 {
			t.Errorf("%q became %v", s, r)
		}
	}
	body := []byte("ab")
	room := append(make([]api.Field, 0, 4), api.Field{Name: "A", Value: "b"})
	b, _ := PutRequest(api.Request{Method: "GET", Target: "/", Minor: 1, Fields: room, Body: body})
	clear(body)
	if string(b) != "GET / HTTP/1.1\r\nA: b\r\nContent-Length: 2\r\n\r\nab" {
		t.Errorf("%q", b)
	}
	if room[:2][1] != (api.Field{}) {
		t.Errorf("the list's room has %q", room[:2][1])
	}
}
