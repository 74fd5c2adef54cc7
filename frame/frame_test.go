package frame

import (
	"fmt"
	"math"
	"math/big"
	"slices"
	"strings"
	"testing"

	"tollhouse/api"
	"tollhouse/sample"
)

// answer is what both calls tell.
type answer struct {
	kind int
	n    uint64
	e    api.Errno
}

// The kinds by the numbers that the chapter has.
var (
	none   = answer{0, 0, api.OK}
	chunks = answer{2, 0, api.OK}
	closes = answer{3, 0, api.OK}
	wrong  = answer{0, 0, api.ErrArg}
	tooBig = answer{0, 0, api.ErrBig}
	unsure = answer{0, 0, api.ErrFrame}
)

// Methods that matter, and such as are only like them.
var methods = []string{"GET", "POST", "HEAD", "CONNECT", "head", "Connect", "HEADS", "HEAD ", "CONNECTS", ""}

const (
	most    = "9007199254740991" // the greatest number
	tooLong = "9007199254740992"
)

func length(n uint64) answer { return answer{1, n, api.OK} }

// fields is a list by its lines.
var fields = sample.Fields

// The model below judges all of a message's parts at once. It parts values at each ',', within quotes, too: a '"' is then in a part of both ways, and such a part is neither length nor coding.

func small(s string) string {
	return strings.Map(func(r rune) rune {
		if r >= 'A' && r <= 'Z' {
			return r - 'A' + 'a'
		}
		return r
	}, s)
}

// parts is how many fields of a name there are, and what they say.
func parts(l []api.Field, name string) (int, []string) {
	count, said := 0, []string(nil)
	for _, f := range l {
		if small(f.Name) != name {
			continue
		}
		count++
		for _, part := range strings.Split(f.Value, ",") {
			if part = strings.Trim(part, "\x20\x09"); part != "" {
				said = append(said, part)
			}
		}
	}
	return count, said
}

func digits(s string) bool { return s != "" && strings.Trim(s, "0123456789") == "" }

func modelLength(said []string) answer {
	if len(said) == 0 || slices.ContainsFunc(said, func(s string) bool { return !digits(s) }) {
		return unsure
	}
	first, _ := new(big.Int).SetString(said[0], 10)
	long := first.Cmp(big.NewInt(1<<53-1)) > 0
	for _, s := range said {
		n, _ := new(big.Int).SetString(s, 10)
		if n.Cmp(first) != 0 || long && s != said[0] {
			return unsure
		}
	}
	if first.Cmp(big.NewInt(4096)) > 0 {
		return tooBig
	}
	return length(first.Uint64())
}

func modelRequest(minor int, l []api.Field) answer {
	lengths, sizes := parts(l, "content-length")
	codings, names := parts(l, "transfer-encoding")
	switch {
	case minor < 0 || minor > 1:
		return wrong
	case codings == 0 && lengths == 0:
		return none
	case codings == 0:
		return modelLength(sizes)
	case lengths == 0 && minor == 1 && len(names) == 1 && small(names[0]) == "chunked":
		return chunks
	}
	return unsure
}

func modelResponse(status int, method string, minor int, l []api.Field) answer {
	a := modelRequest(minor, l)
	switch {
	case a == wrong || status < 100 || status > 599:
		return wrong
	case a == unsure:
		return unsure
	case method == "HEAD" || status/100 == 1 || status == 204 || status == 304 || method == "CONNECT" && status/100 == 2:
		return none
	case a == none:
		return closes
	}
	return a
}

func request(minor int, l []api.Field) answer {
	kind, n, e := Request(minor, l)
	return answer{kind, n, e}
}

func response(status int, method string, minor int, l []api.Field) answer {
	kind, n, e := Response(status, method, minor, l)
	return answer{kind, n, e}
}

// isRequest checks what is told of a request, and that the list is left as it is (R3).
func isRequest(t *testing.T, minor int, l []api.Field, want answer) {
	t.Helper()
	ahead := slices.Clone(l)
	if got := request(minor, l); got != want {
		t.Errorf("Request(%d, %s): %v; want %v", minor, shown(l), got, want)
	}
	if !slices.Equal(l, ahead) {
		t.Errorf("Request(%d, %s): the list is %s now", minor, shown(ahead), shown(l))
	}
}

func isResponse(t *testing.T, status int, method string, minor int, l []api.Field, want answer) {
	t.Helper()
	ahead := slices.Clone(l)
	if got := response(status, method, minor, l); got != want {
		t.Errorf("Response(%d, %q, %d, %s): %v; want %v", status, method, minor, shown(l), got, want)
	}
	if !slices.Equal(l, ahead) {
		t.Errorf("Response(%d, %q, %d, %s): the list is %s now", status, method, minor, shown(ahead), shown(l))
	}
}

// both checks what is told of a request of minor 1, and of a response to a GET, with these fields.
func both(t *testing.T, want answer, lines ...string) {
	t.Helper()
	isRequest(t, 1, fields(lines...), want)
	if want == none {
		want = closes
	}
	isResponse(t, 200, "GET", 1, fields(lines...), want)
}

// asModel checks what is told of a list, of messages of all kinds.
func asModel(t *testing.T, l []api.Field) {
	t.Helper()
	for _, minor := range []int{-1, 0, 1, 2} {
		isRequest(t, minor, l, modelRequest(minor, l))
		for _, status := range []int{99, 100, 199, 200, 204, 299, 300, 304, 502, 600} {
			for _, method := range []string{"GET", "HEAD", "CONNECT"} {
				isResponse(t, status, method, minor, l, modelResponse(status, method, minor, l))
			}
		}
	}
}

// shown is a list, short enough to be read.
func shown(l []api.Field) string {
	s := fmt.Sprintf("%q", l)
	if len(s) > 200 {
		return fmt.Sprintf("%s .. %s (%d)", s[:100], s[len(s)-100:], len(s))
	}
	return s
}

func TestKinds(t *testing.T) {
	if None != 0 || Length != 1 || Chunked != 2 || Close != 3 {
		t.Error(None, Length, Chunked, Close)
	}
}

// P7.1: the chapter's examples, and ordinary messages.
func TestRequest(t *testing.T) {
	for minor := range 2 {
		isRequest(t, minor, nil, none)
		isRequest(t, minor, []api.Field{}, none)
		isRequest(t, minor, fields("Host:a", "X-Length:5", "Accept:chunked"), none)
		isRequest(t, minor, fields("Content-Length:5"), length(5))
		isRequest(t, minor, fields("Host:a", "content-length:5, 05", "X:6"), length(5))
		isRequest(t, minor, fields("Content-Length:5", "X:6", "CONTENT-LENGTH:5"), length(5))
		isRequest(t, minor, fields("Content-Length:5", "Content-Length:6"), unsure)
		isRequest(t, minor, fields("Content-Length:+5"), unsure)
		isRequest(t, minor, fields("Content-Length:"), unsure)
		isRequest(t, minor, fields("Transfer-Encoding:gzip, chunked"), unsure)
		isRequest(t, minor, fields("Transfer-Encoding:chunked", "Content-Length:5"), unsure)
		isRequest(t, minor, fields("Content-Length:4097"), tooBig)
	}
	isRequest(t, 1, fields("Transfer-Encoding:Chunked"), chunks)
	isRequest(t, 1, fields("Host:a", "X:gzip", "TRANSFER-encoding:chunked", "Y:5"), chunks)
	isRequest(t, 0, fields("Transfer-Encoding:chunked"), unsure)
}

// P7.2: ordinary messages.
func TestResponse(t *testing.T) {
	for minor := range 2 {
		isResponse(t, 200, "GET", minor, nil, closes)
		isResponse(t, 200, "GET", minor, []api.Field{}, closes)
		isResponse(t, 404, "POST", minor, fields("Host:a", "X-Length:5"), closes)
		isResponse(t, 200, "GET", minor, fields("Content-Length:5"), length(5))
		isResponse(t, 502, "CONNECT", minor, fields("X:6", "content-length:5, 05"), length(5))
		isResponse(t, 200, "GET", minor, fields("Content-Length:4097"), tooBig)
		isResponse(t, 200, "GET", minor, fields("Content-Length:5", "Content-Length:6"), unsure)
		isResponse(t, 200, "HEAD", minor, fields("Content-Length:5"), none)
		isResponse(t, 200, "HEAD", minor, nil, none)
		isResponse(t, 304, "GET", minor, fields("Content-Length:9999"), none)
		isResponse(t, 204, "GET", minor, nil, none)
		isResponse(t, 100, "POST", minor, nil, none)
		isResponse(t, 200, "CONNECT", minor, nil, none)
	}
	isResponse(t, 200, "GET", 1, fields("Transfer-Encoding:chunked"), chunks)
	isResponse(t, 300, "CONNECT", 1, fields("Transfer-Encoding:chunked"), chunks)
	isResponse(t, 200, "HEAD", 1, fields("Transfer-Encoding:chunked"), none)
	isResponse(t, 200, "CONNECT", 1, fields("Transfer-Encoding:chunked"), none)
	isResponse(t, 200, "GET", 0, fields("Transfer-Encoding:chunked"), unsure)
}

// P7.1, P7.2: what of all is met first: minors and statuses that may not be, lengths that are not sure, messages without a body, lengths that are too big.
func TestOrder(t *testing.T) {
	lists := [][]api.Field{
		nil, fields("Content-Length:5"), fields("Content-Length:4097"), fields("Content-Length:" + tooLong), fields("Content-Length:x"),
		fields("Content-Length:5, 6"), fields("Transfer-Encoding:chunked"), fields("Transfer-Encoding:x"), fields("Content-Length:5", "Transfer-Encoding:chunked"),
	}
	for _, l := range lists {
		for _, minor := range []int{-1, 2, 3, 10, 256, 257, math.MaxInt, math.MinInt} {
			isRequest(t, minor, l, wrong)
			for _, method := range methods {
				for _, status := range []int{99, 100, 200, 204, 304, 600} {
					isResponse(t, status, method, minor, l, wrong)
				}
			}
		}
		for _, status := range []int{99, 600, 0, -1, -200, 1000, 2000, 456 + 1<<16, math.MaxInt, math.MinInt} {
			for _, method := range methods {
				for minor := range 2 {
					isResponse(t, status, method, minor, l, wrong)
				}
			}
		}
	}
	for _, bare := range []struct {
		status int
		method string
	}{{200, "HEAD"}, {502, "HEAD"}, {100, "GET"}, {199, "GET"}, {204, "GET"}, {304, "GET"}, {200, "CONNECT"}, {299, "CONNECT"}} {
		for minor := range 2 {
			isResponse(t, bare.status, bare.method, minor, fields("Content-Length:4097"), none)
			isResponse(t, bare.status, bare.method, minor, fields("Content-Length:"+tooLong), none)
			isResponse(t, bare.status, bare.method, minor, fields("Content-Length:"+tooLong, "Content-Length:"+tooLong), none)
			isResponse(t, bare.status, bare.method, minor, fields("Content-Length:"+tooLong+", 0"+tooLong), unsure)
			isResponse(t, bare.status, bare.method, minor, fields("Content-Length:5, 4097"), unsure)
			isResponse(t, bare.status, bare.method, minor, fields("Content-Length:"), unsure)
			isResponse(t, bare.status, bare.method, minor, fields("Transfer-Encoding:gzip"), unsure)
			isResponse(t, bare.status, bare.method, minor, fields("Transfer-Encoding:chunked", "Content-Length:4097"), unsure)
		}
		isResponse(t, bare.status, bare.method, 1, fields("Transfer-Encoding:chunked"), none)
		isResponse(t, bare.status, bare.method, 0, fields("Transfer-Encoding:chunked"), unsure)
	}
}

// P7.2: every status, for methods that matter and such as are only like them.
func TestStatuses(t *testing.T) {
	lists := [][]api.Field{
		nil, fields("Content-Length:0"), fields("Content-Length:4096"), fields("Content-Length:4097"), fields("Content-Length:5, 6"),
		fields("Transfer-Encoding:chunked"), fields("Transfer-Encoding:x"),
	}
	for status := range 700 {
		for _, method := range methods {
			for minor := range 2 {
				for _, l := range lists {
					isResponse(t, status, method, minor, l, modelResponse(status, method, minor, l))
				}
			}
		}
	}
	for _, x := range []struct {
		status int
		method string
		want   answer
	}{
		{100, "GET", none}, {101, "GET", none}, {199, "GET", none}, {200, "GET", closes}, {203, "GET", closes}, {204, "GET", none}, {205, "GET", closes},
		{303, "GET", closes}, {304, "GET", none}, {305, "GET", closes}, {599, "GET", closes},
		{199, "CONNECT", none}, {200, "CONNECT", none}, {299, "CONNECT", none}, {300, "CONNECT", closes}, {407, "CONNECT", closes}, {304, "CONNECT", none},
		{200, "connect", closes}, {200, "CONNECT ", closes}, {299, "Connect", closes},
		{200, "HEAD", none}, {404, "HEAD", none}, {599, "HEAD", none}, {200, "head", closes}, {200, "Head", closes}, {200, "HEADER", closes}, {200, "", closes},
	} {
		isResponse(t, x.status, x.method, 1, nil, x.want)
	}
}

// P7.1: one length, about its edges.
func TestLength(t *testing.T) {
	for n := uint64(0); n <= 5000; n++ {
		want := length(n)
		if n > 4096 {
			want = tooBig
		}
		both(t, want, fmt.Sprintf("Content-Length:%d", n))
		both(t, want, fmt.Sprintf("Content-Length:%020d", n))
		both(t, unsure, fmt.Sprintf("Content-Length:%d, %d", n, n+1))
		both(t, unsure, fmt.Sprintf("Content-Length:%d", n+1), fmt.Sprintf("Content-Length:%d", n))
	}
	for _, long := range []string{
		"4294967295", "4294967296", "4294967301", most, tooLong, "0" + tooLong, "9223372036854775808", "18446744073709551615", "18446744073709551616",
		"18446744073709551621", "36893488147419103237", "340282366920938463463374607431768211461", strings.Repeat("9", 1<<16), "1" + strings.Repeat("0", 1<<16),
	} {
		both(t, tooBig, "Content-Length:"+long)
		both(t, tooBig, "Content-Length: "+long+" ,, "+long+",")
		both(t, tooBig, "Content-Length:"+long, "content-length:"+long)
		both(t, unsure, "Content-Length:"+long, "Content-Length:5")
		both(t, unsure, "Content-Length:5", "Content-Length:"+long)
		both(t, unsure, "Content-Length:"+long+"x")
	}
	noughts := strings.Repeat("0", 1<<16)
	both(t, length(0), "Content-Length:"+noughts)
	both(t, length(4096), "Content-Length:"+noughts+"4096")
	both(t, tooBig, "Content-Length:"+noughts+"4097")
	both(t, tooBig, "Content-Length:"+noughts+tooLong)
}

// P7.1: several lengths that say the same number, or not; of those that are too long it is the texts that count.
func TestLengths(t *testing.T) {
	both(t, length(5), "Content-Length:5", "Content-Length:05", "Content-Length:005, 0005")
	both(t, length(0), "Content-Length:0, 00, 000")
	both(t, length(4096), "Content-Length:4096,4096", "content-length: 04096\t")
	both(t, tooBig, "Content-Length:4097, 04097")
	both(t, tooBig, "Content-Length:"+most+", 0"+most)
	both(t, tooBig, "Content-Length:"+tooLong+", "+tooLong, "Content-Length:"+tooLong)
	both(t, unsure, "Content-Length:"+tooLong+", 0"+tooLong)
	both(t, unsure, "Content-Length:0"+tooLong, "Content-Length:"+tooLong)
	both(t, unsure, "Content-Length:"+tooLong+", 9007199254740993")
	both(t, unsure, "Content-Length:"+tooLong, "Content-Length:"+tooLong+"0")
	both(t, unsure, "Content-Length:"+tooLong, "Content-Length:"+most)
	both(t, unsure, "Content-Length:"+most+", "+tooLong)
	both(t, unsure, "Content-Length:"+tooLong+", 0")
	both(t, unsure, "Content-Length:0, "+tooLong)
	both(t, unsure, "Content-Length:18446744073709551621, 5")
	both(t, unsure, "Content-Length:5, 5, 6")
	both(t, unsure, "Content-Length:6, 5, 5")
	both(t, unsure, "Content-Length:5, 6, 5")
	both(t, unsure, "Content-Length:5", "Content-Length:5", "X:5", "Content-Length:6")
	both(t, unsure, "Content-Length:0, 4096")
	both(t, unsure, "Content-Length:4097, 4098")
	both(t, unsure, "Content-Length:5, 50")
}

// P7.1: elements that are empty are none; a field without an element says nothing, but it is there.
func TestEmptyElements(t *testing.T) {
	for _, value := range []string{"5,", ",5", ",,5,,", "5,,5", " ,\t, 5 ,\t5\t,", " 5", "5\t"} {
		both(t, length(5), "Content-Length:"+value)
		both(t, length(5), "Content-Length:"+value, "Content-Length:")
		both(t, length(5), "Content-Length: , ", "Content-Length:"+value)
	}
	for _, value := range []string{"chunked,", ",chunked", ",, chunked ,\t,", "\tchunked "} {
		both(t, chunks, "Transfer-Encoding:"+value)
		both(t, chunks, "Transfer-Encoding:"+value, "Transfer-Encoding:")
		both(t, chunks, "Transfer-Encoding:,,", "Transfer-Encoding:"+value)
	}
	for _, value := range []string{"", " ", "\t", ",", ",,,", " , \t,"} {
		both(t, unsure, "Content-Length:"+value)
		both(t, unsure, "Content-Length:"+value, "Content-Length:"+value)
		both(t, unsure, "Transfer-Encoding:"+value)
		both(t, unsure, "Transfer-Encoding:"+value, "Transfer-Encoding:"+value)
		both(t, unsure, "Content-Length:"+value, "Transfer-Encoding:chunked")
		both(t, unsure, "Transfer-Encoding:"+value, "Content-Length:5")
		both(t, unsure, "Transfer-Encoding:"+value, "Content-Length:"+value)
	}
}

// P7.1: texts that are no lengths, alone and beside one that is.
func TestLengthWrong(t *testing.T) {
	for _, value := range []string{
		"+5", "-5", "-0", "+0", "5 5", "5\t5", "5;5", "5; 5", "5;", "0x5", "5a", "a5", "a", "five", "5.0", "5.", ".5", "5e0", "5_0", "1 000", "\"5\"", "\"5", "5\"", "\"5, 5\"", "\"\"", "\\5", "'5'",
		"5\r", "5\n", "\n5", "\v5", "5\f", "5\x00", "\x005", "5\u00a0", "\u00a05", "\u0665", "\uff15", "5\xff", "\x85", "\xb2", "²", "5=5", "chunked", "=", ":5", "#5", "5h", "F",
		tooLong + "x", "-" + tooLong, tooLong + " " + tooLong,
	} {
		both(t, unsure, "Content-Length:"+value)
		both(t, unsure, "Content-Length:"+value+", "+value)
		both(t, unsure, "Content-Length:"+value, "Content-Length:"+value)
		both(t, unsure, "Content-Length:5, "+value)
		both(t, unsure, "Content-Length:5", "Content-Length:"+value)
		both(t, unsure, "Content-Length:"+value, "Content-Length:5")
		both(t, unsure, "Content-Length:0", "Content-Length:"+value)
		both(t, unsure, "Content-Length:"+tooLong, "Content-Length:"+value)
	}
}

// P7.1: codings that are not one, or not chunked.
func TestCodingWrong(t *testing.T) {
	for _, value := range []string{
		"gzip", "identity", "deflate", "compress", "trailers", "x-chunked", "chunked-x", "xchunked", "chunkedx", "chunke", "hunked", "c", "5", "0", "*",
		"chunked;q=1", "chunked;", "chunked ;x=y", "chunked=1", "\"chunked\"", "\"chunked", "chunked\"", "\\chunked", "chunked chunked", "chunked gzip", "chunk ed",
		"chunked\r", "chunked\n", "\vchunked", "chunked\f", "chunked\x00", "\x00chunked", "chunked\u00a0", "\u00a0chunked", "chun\u212aed", "chunked\xff", "\uff43hunked",
		"chunked, chunked", "chunked,chunked", "Chunked, CHUNKED", "gzip, chunked", "chunked, gzip", "identity, chunked", "chunked, identity", "gzip, gzip", "\"x, chunked", "\"\", chunked", "\"a\",chunked",
	} {
		both(t, unsure, "Transfer-Encoding:"+value)
		both(t, unsure, "Transfer-Encoding:"+value, "Transfer-Encoding:chunked")
		both(t, unsure, "Transfer-Encoding:chunked", "Transfer-Encoding:"+value)
	}
	both(t, unsure, "Transfer-Encoding:chunked", "Transfer-Encoding:chunked")
	both(t, unsure, "Transfer-Encoding:chunked", "X:y", "transfer-encoding:Chunked")
	both(t, unsure, "Transfer-Encoding:chunked, chunked, chunked")
}

// P7.1: names of fields that are only like those of lengths and codings.
func TestOtherNames(t *testing.T) {
	for _, name := range []string{
		"", "Content", "Length", "Content-Lengt", "Content-Lengths", "Content-Length ", " Content-Length", "\tContent-Length", "Content_Length", "ContentLength", "Content--Length", "X-Content-Length", "Content-Length\x00",
		"Transfer", "Encoding", "Transfer-Encodin", "Transfer-Encodings", "Transfer-Encoding ", " Transfer-Encoding", "Transfer_Encoding", "X-Transfer-Encoding", "Tran\u017ffer-Encoding", "Transfer-Encoding\xff",
		"TE", "Trailer", "Content-Encoding", "Connection",
	} {
		for _, value := range []string{"5", "6, 7", "x", "", "chunked", "gzip, chunked"} {
			f := api.Field{Name: name, Value: value}
			for minor := range 2 {
				isRequest(t, minor, []api.Field{f}, none)
				isResponse(t, 200, "GET", minor, []api.Field{f}, closes)
				isRequest(t, minor, append(fields("Content-Length:5"), f), length(5))
			}
			isRequest(t, 1, append(fields("Transfer-Encoding:chunked"), f), chunks)
		}
	}
}

// P7.1, P7.2: each byte at each place of a name and a value.
func TestBytes(t *testing.T) {
	for _, f := range fields("Content-Length:50", "Transfer-Encoding:chunked") {
		for c := range 256 {
			b := string([]byte{byte(c)})
			for at := range len(f.Value) + 1 {
				asModel(t, []api.Field{{Name: f.Name, Value: f.Value[:at] + b + f.Value[at:]}})
				if at < len(f.Value) {
					asModel(t, []api.Field{{Name: f.Name, Value: f.Value[:at] + b + f.Value[at+1:]}})
				}
			}
			for at := range len(f.Name) {
				asModel(t, []api.Field{{Name: f.Name[:at] + b + f.Name[at+1:], Value: f.Value}})
			}
		}
	}
}

// P7.1, P7.2: all short values of the signs that matter.
func TestShortValues(t *testing.T) {
	sample.Rows([]string{"0", "5", "4096", tooLong, ",", " ", "\t", "\"", "\\", "-", "x"}, 4, func(row []string) {
		l := []api.Field{{Name: "Content-Length", Value: strings.Join(row, "")}}
		isRequest(t, 1, l, modelRequest(1, l))
		isResponse(t, 200, "GET", 0, l, modelResponse(200, "GET", 0, l))
	})
	sample.Rows([]string{"chunked", "CHUNKED", "gzip", ",", " ", "\t", "\"", "\\", ";"}, 4, func(row []string) {
		l := []api.Field{{Name: "Transfer-Encoding", Value: strings.Join(row, "")}}
		isRequest(t, 1, l, modelRequest(1, l))
		isResponse(t, 200, "GET", 1, l, modelResponse(200, "GET", 1, l))
	})
}

// lists calls f with all short lists of the fields that matter.
func lists(f func([]api.Field)) {
	sample.Rows(fields(
		"Content-Length:5", "content-length: 05 ,", "Content-Length:5, 5", "CONTENT-LENGTH:6", "Content-Length:", "Content-Length:-5", "Content-Length:0", "Content-Length:4096", "Content-Length:4097",
		"Content-Length:"+tooLong, "Content-Length:0"+tooLong, "Transfer-Encoding:chunked", "transfer-encoding:,Chunked", "Transfer-Encoding:gzip", "TRANSFER-ENCODING:", "Transfer-Encoding:chunked, chunked", "X:5",
	), 3, f)
}

func TestLists(t *testing.T) {
	lists(func(l []api.Field) { asModel(t, l) })
}

// P7.1: more fields than a message has, and more elements.
func TestMany(t *testing.T) {
	var l []api.Field
	for range 1000 {
		l = append(l, fields("X:y", "Content-Length:"+strings.Repeat("5, 05,", 50))...)
	}
	isRequest(t, 1, l, length(5))
	isResponse(t, 200, "GET", 0, l, length(5))
	isRequest(t, 1, append(slices.Clone(l), fields("Content-Length:6")...), unsure)
	isRequest(t, 1, append(slices.Clone(l), fields("Transfer-Encoding:chunked")...), unsure)
	l[1].Value = "6"
	isRequest(t, 1, l, unsure)
	isRequest(t, 1, fields("Transfer-Encoding:"+strings.Repeat(",", 1<<16)+"chunked"), chunks)
	isRequest(t, 1, fields("Transfer-Encoding:"+strings.Repeat("chunked,", 1<<16)), unsure)
}

// P7.3: where a body is told of, there is one of both, and the first and the last of its lengths are that one; with both, or unlike ones, it is ErrFrame, whatever else.
func TestNoSmuggling(t *testing.T) {
	statuses := []int{100, 200, 204, 304, 404}
	lists(func(l []api.Field) {
		lengths, sizes := parts(l, "content-length")
		codings, names := parts(l, "transfer-encoding")
		bad := lengths > 0 && codings > 0 || codings > 0 && (len(names) != 1 || small(names[0]) != "chunked")
		for _, size := range sizes {
			bad = bad || strings.TrimLeft(size, "0") != strings.TrimLeft(sizes[0], "0")
		}
		for minor := range 2 {
			told := []answer{request(minor, l)}
			for _, status := range statuses {
				for _, method := range methods {
					told = append(told, response(status, method, minor, l))
				}
			}
			for _, a := range told {
				if bad && a != unsure {
					t.Errorf("%s: %v", shown(l), a)
				}
				if a.e == api.OK && a.kind == Chunked && (lengths > 0 || minor == 0) {
					t.Errorf("%s: chunked, beside lengths", shown(l))
				}
				if a.e == api.OK && a.kind == Length && (codings > 0 || !reads(sizes[0], a.n) || !reads(sizes[len(sizes)-1], a.n)) {
					t.Errorf("%s: %d, which others read otherwise", shown(l), a.n)
				}
			}
		}
	})
}

// reads tells whether a length says n.
func reads(s string, n uint64) bool {
	m, ok := new(big.Int).SetString(s, 10)
	return ok && m.Cmp(new(big.Int).SetUint64(n)) == 0
}

// P7.4: fields of other names, wherever they stand, in whatever order, and capital letters, change nothing.
func TestNothingElseCounts(t *testing.T) {
	others := fields("Host:a", "X:5, 6", "TE:chunked")
	written := func(f api.Field, as func(string) string) api.Field {
		f.Name = as(f.Name)
		if small(f.Name) == "transfer-encoding" {
			f.Value = as(f.Value)
		}
		return f
	}
	lists(func(l []api.Field) {
		want := request(1, l)
		answers := response(200, "GET", 1, l)
		for first := range others {
			more := append(slices.Clone(others[first:]), others[:first]...)
			for at := range len(l) + 1 {
				with := slices.Insert(slices.Clone(l), at, more...)
				isRequest(t, 1, with, want)
				isResponse(t, 200, "GET", 1, with, answers)
			}
			between := []api.Field{more[0]}
			for _, f := range l {
				between = append(between, f, more[1], more[2])
			}
			isRequest(t, 1, between, want)
			isResponse(t, 200, "GET", 1, between, answers)
		}
		for _, as := range []func(string) string{small, strings.ToUpper, mixed} {
			var other []api.Field
			for _, f := range l {
				other = append(other, written(f, as))
			}
			isRequest(t, 1, other, want)
			isResponse(t, 200, "GET", 1, other, answers)
		}
	})
}

// mixed is s with every other byte a capital letter.
func mixed(s string) string {
	b := []byte(s)
	for i := 0; i < len(b); i += 2 {
		b[i] = strings.ToUpper(string(b[i]))[0]
	}
	return string(b)
}
