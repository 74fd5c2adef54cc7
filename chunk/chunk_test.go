package chunk

import (
	"bytes"
	"fmt"
	"math/big"
	"math/rand"
	"regexp"
	"strings"
	"testing"

	"tollhouse/api"
	"tollhouse/head"
	"tollhouse/sample"
)

// The limits, as the chapter has them.
const (
	mostLine = 64
	mostBody = 4096
)

// The model below holds whole size lines against a pattern, and reads their numbers without bounds.

// sizePattern is of runes that stand for one byte each.
var sizePattern = regexp.MustCompile(`\A([0-9a-fA-F]+)(;[\x{09}\x{20}-\x{7e}\x{80}-\x{ff}]*)?\r\n\z`)

func modelSize(line string) (*big.Int, bool) {
	var runes []rune
	for _, c := range []byte(line) {
		runes = append(runes, rune(c))
	}
	found := sizePattern.FindStringSubmatch(string(runes))
	if found == nil {
		return nil, false
	}
	return new(big.Int).SetString(found[1], 16)
}

func modelTake(s string) (string, int, api.Errno) {
	body, rest := "", s
	for {
		line, _, ok := strings.Cut(rest[:min(len(rest), mostLine)], "\n")
		if !ok && len(rest) < mostLine {
			return "", 0, api.ErrMore
		}
		if !ok {
			return "", 0, api.ErrBig
		}
		number, ok := modelSize(line + "\n")
		if !ok {
			return "", 0, api.ErrBad
		}
		if number.Cmp(big.NewInt(int64(mostBody-len(body)))) > 0 {
			return "", 0, api.ErrBig
		}
		rest = rest[len(line)+1:]
		size := int(number.Int64())
		if size == 0 {
			break
		}
		if len(rest) < size+2 {
			return "", 0, api.ErrMore
		}
		if rest[size:size+2] != "\r\n" {
			return "", 0, api.ErrBad
		}
		body, rest = body+rest[:size], rest[size+2:]
	}
	_, used, e := head.Parse([]byte(rest))
	if e != api.OK {
		return "", 0, e
	}
	return body, len(s) - len(rest) + used, api.OK
}

func modelPut(parts []string) string {
	s := ""
	for _, part := range parts {
		if part != "" {
			s += fmt.Sprintf("%x\r\n%s\r\n", len(part), part)
		}
	}
	return s + "0\r\n\r\n"
}

// takes checks what is told of s, and that s is only read.
func takes(t *testing.T, s, body string, used int, err api.Errno) {
	t.Helper()
	in := []byte(s)
	b, n, e := Take(in)
	if string(b) != body || n != used || e != err {
		t.Errorf("Take(%s): %s, %d, %d; want %s, %d, %d", sample.Shown(s), sample.Shown(string(b)), n, e, sample.Shown(body), used, err)
	}
	if string(in) != s {
		t.Errorf("Take(%s) made it %s", sample.Shown(s), sample.Shown(string(in)))
	}
}

// sure checks that this is told of s, whatever stands behind, and ErrMore of its beginnings: each, or, if they are many, some of them.
func sure(t *testing.T, s, body string, used int, err api.Errno) {
	t.Helper()
	for _, behind := range []string{"", "0\r\n\r\n", "\r\n\r\n", "\n", "a\x00", s} {
		takes(t, s+behind, body, used, err)
	}
	for n := 0; n < len(s); n += 1 + len(s)/500 {
		takes(t, s[:n], "", 0, api.ErrMore)
	}
	takes(t, s[:len(s)-1], "", 0, api.ErrMore)
}

// whole checks that all of s is a coded body of that body.
func whole(t *testing.T, s, body string) {
	t.Helper()
	sure(t, s, body, len(s), api.OK)
}

// refused checks that s is told that error, and not before its last byte is there.
func refused(t *testing.T, s string, err api.Errno) {
	t.Helper()
	sure(t, s, "", 0, err)
}

// asModel checks what is told of s, and by P8.4 what follows of it.
func asModel(t *testing.T, s string) {
	t.Helper()
	body, n, e := modelTake(s)
	takes(t, s, body, n, e)
	if e != api.ErrMore {
		for _, behind := range []string{"a", ";", "\r", "\n", "\r\n", "\x00"} {
			takes(t, s+behind, body, n, e)
		}
	}
}

// chunked is a chunk of these bytes; none, if there are none.
func chunked(s string) string { return strings.TrimSuffix(modelPut([]string{s}), "0\r\n\r\n") }

// P8.1: bodies, what stands behind sizes, trailers, and what stands behind it all.
func TestTake(t *testing.T) {
	whole(t, "0\r\n\r\n", "")
	whole(t, "000\r\n\r\n", "")
	whole(t, "2\r\nab\r\n0\r\n\r\n", "ab")
	whole(t, "02\r\nab\r\n00\r\n\r\n", "ab")
	whole(t, "2\r\nab\r\n1\r\nc\r\n3\r\ndef\r\n0\r\n\r\n", "abcdef")
	whole(t, "a\r\n0123456789\r\nA\r\nabcdefghij\r\n0\r\n\r\n", "0123456789abcdefghij")
	whole(t, "1f\r\n"+strings.Repeat("x", 31)+"\r\n1F\r\n"+strings.Repeat("y", 31)+"\r\n0\r\n\r\n", strings.Repeat("x", 31)+strings.Repeat("y", 31))
	whole(t, "2;x=y\r\nab\r\n0\r\n\r\n", "ab")
	whole(t, "2;\r\nab\r\n0;\r\n\r\n", "ab")
	whole(t, "2; \t;;\"\xff\r\nab\r\n0;last\r\n\r\n", "ab")
	whole(t, "0\r\nT: v\r\n\r\n", "")
	whole(t, "2\r\nab\r\n0\r\nT: v\r\nU:\r\n\r\n", "ab")
	whole(t, "2;x=y\r\nab\r\n0;z\r\nContent-Length: 9\r\n\r\n", "ab")
	whole(t, "4\r\n\r\n\r\n\r\n0\r\n\r\n", "\r\n\r\n")
	whole(t, "5\r\n0\r\n\r\n\r\n1\r\n\n\r\n0\r\n\r\n", "0\r\n\r\n\n")
	whole(t, "3\r\n\x00\x7f\xff\r\n0\r\n\r\n", "\x00\x7f\xff")
}

// P8.1: what the chapter's examples tell.
func TestTakeExamples(t *testing.T) {
	takes(t, "2\r\nab\r\n0\r\n\r\n", "ab", 12, api.OK)
	takes(t, "2;x=y\r\nab\r\n0\r\nT: v\r\n\r\nrest", "ab", 22, api.OK)
	takes(t, "2\r\nabc\r\n", "", 0, api.ErrBad)
	takes(t, "g\r\n", "", 0, api.ErrBad)
	takes(t, "2\nab\r\n0\r\n\r\n", "", 0, api.ErrBad)
	takes(t, "1001\r\n", "", 0, api.ErrBig)
	takes(t, "2\r\na", "", 0, api.ErrMore)
	takes(t, "", "", 0, api.ErrMore)
	if b, n, e := Take(nil); len(b) != 0 || n != 0 || e != api.ErrMore {
		t.Errorf("Take(nil): %q, %d, %d", b, n, e)
	}
}

// P8.1: size lines that are none, as the first one, behind a chunk, and whether or not a body would follow.
func TestTakeSizeBad(t *testing.T) {
	for _, line := range []string{
		"\r\n", "\n", "2\n", "0\n", "2;x\n", "\r\r\n", "2\r\r\n", "2\rx\n", "\r2\n", // without a number, or an end
		";\r\n", ";x\r\n", ";2\r\n", " \r\n", "g\r\n", "x\r\n", "2g\r\n", "g2\r\n", "0x2\r\n", "2h\r\n", // no number
		" 2\r\n", "2 \r\n", "2 ;x\r\n", "2\t;x\r\n", "\t2\r\n", "+2\r\n", "-2\r\n", "-0\r\n", "2_0\r\n", "2,2\r\n", "2.0\r\n", "2:\r\n", "2=\r\n", "2 x\r\n", "\u0662\r\n",
		"2;\x00\r\n", "2;\x7f\r\n", "2;x\x1f\r\n", "2;\r\r\n", "2;x\ry\r\n", "0;\x00\r\n", "\x00\r\n", "2\x00\r\n", "2;\v\r\n", // what may not be shown
	} {
		refused(t, line, api.ErrBad)
		refused(t, "3\r\nabc\r\n"+line, api.ErrBad)
		refused(t, "3\r\nabc\r\n1;x\r\nd\r\n"+line, api.ErrBad)
	}
}

// P8.1: what stands up to a byte 0a is told wrong ahead of its number being too big.
func TestTakeSizeOrder(t *testing.T) {
	for _, number := range []string{"1001", "ffffffffffffffffffffffff", "20000000000000"} {
		refused(t, number+"\r\n", api.ErrBig)
		refused(t, number+";x\r\n", api.ErrBig)
		refused(t, number+"\n", api.ErrBad)
		refused(t, number+";\x00\r\n", api.ErrBad)
		refused(t, number+"g\r\n", api.ErrBad)
		refused(t, "g"+number+"\r\n", api.ErrBad)
		refused(t, number+" \r\n", api.ErrBad)
		refused(t, number+"\r\r\n", api.ErrBad)
	}
}

// P8.1: size lines of just 64 bytes, and of more; lines without an end.
func TestTakeSizeLine(t *testing.T) {
	for _, ahead := range []string{"", "3\r\nabc\r\n", "1\r\nd\r\n2;xx\r\nef\r\n"} {
		body, _, _ := modelTake(ahead + "0\r\n\r\n")
		for _, line := range []string{"2;" + strings.Repeat("x", mostLine-4), strings.Repeat("0", mostLine-3) + "2", strings.Repeat("0", mostLine-10) + "2;abcdef"} {
			whole(t, ahead+line+"\r\nab\r\n0\r\n\r\n", body+"ab")
			refused(t, ahead+line+"x\r", api.ErrBig)
			takes(t, ahead+line+"x\r\nab\r\n0\r\n\r\n", "", 0, api.ErrBig)
			takes(t, ahead+"0"+line+"\r\nab\r\n0\r\n\r\n", "", 0, api.ErrBig)
			takes(t, ahead+line+"\r", "", 0, api.ErrMore)
			refused(t, ahead+line+"\rx", api.ErrBig)
			refused(t, ahead+line+"x\n", api.ErrBad)
		}
		whole(t, ahead+strings.Repeat("0", mostLine-2)+"\r\n\r\n", body)
		whole(t, ahead+"0;"+strings.Repeat("x", mostLine-4)+"\r\n\r\n", body)
		refused(t, ahead+strings.Repeat("0", mostLine-1)+"\r", api.ErrBig)
		for n := range 256 {
			if n != '\n' { // whatever it is, it is told nothing till the line's end, or its limit, is there
				refused(t, ahead+strings.Repeat(string([]byte{byte(n)}), mostLine), api.ErrBig)
			}
		}
	}
	refused(t, strings.Repeat("f", mostLine-2)+"\r\n", api.ErrBig)
	refused(t, strings.Repeat("g", mostLine-2)+"\r\n", api.ErrBad)
	refused(t, strings.Repeat("g", mostLine-1)+"\n", api.ErrBad)
	takes(t, strings.Repeat("f", 1<<20), "", 0, api.ErrBig)
	takes(t, strings.Repeat("0", 1<<20)+"2\r\nab\r\n0\r\n\r\n", "", 0, api.ErrBig)
}

// P8.1: sizes that are too long would go round to sizes that may be.
func TestTakeSizeLong(t *testing.T) {
	for _, zeros := range []int{4, 8, 12, 13, 15, 16, 17, 31, 32, 50} {
		for _, digits := range []string{"1", "2", "3", "f", "10"} {
			for _, behind := range []string{"0", "2", "a"} {
				line := digits + strings.Repeat("0", zeros) + behind
				refused(t, line+"\r\n", api.ErrBig)
				refused(t, "1\r\na\r\n"+line+";x\r\n", api.ErrBig)
				takes(t, line+"\r\nab\r\n0\r\n\r\n", "", 0, api.ErrBig)
			}
		}
	}
	for _, size := range []string{"1fffffffffffff", "20000000000000", "7fffffffffffffff", "8000000000000000", "ffffffffffffffff", "fffffffffffffffe", "80000000", "ffffffff", "7fffffff", "FFFF", "1001", "2000"} {
		refused(t, size+"\r\n", api.ErrBig)
		refused(t, "00000"+size+"\r\n", api.ErrBig)
	}
}

// P8.1: bodies of just 4096 bytes, and of one more, in one chunk and in several.
func TestTakeBody(t *testing.T) {
	all := strings.Repeat("0123456789abcdef", mostBody/16)
	end := "0\r\n\r\n"
	takes(t, "1000\r\n"+all+"\r\n"+end, all, mostBody+13, api.OK)
	takes(t, "0001000;x\r\n"+all+"\r\n"+end+"more", all, mostBody+18, api.OK)
	takes(t, "1000\r\n"+all+"\r", "", 0, api.ErrMore)
	takes(t, "1000\r\n"+all+"\r\n", "", 0, api.ErrMore)
	takes(t, "1000\r\n"+all+"x\r\n", "", 0, api.ErrBad)
	takes(t, "1001\r\n"+all+"x\r\n"+end, "", 0, api.ErrBig)
	takes(t, "1000\r\n"+all+"\r\n1", "", 0, api.ErrMore)
	takes(t, "1000\r\n"+all+"\r\n1\r\n", "", 0, api.ErrBig)
	takes(t, "1000\r\n"+all+"\r\n1;x\r\ny\r\n"+end, "", 0, api.ErrBig)
	takes(t, "1000\r\n"+all+"\r\n1\n", "", 0, api.ErrBad)
	takes(t, "1000\r\n"+all+"\r\n000\r\nT: v\r\n\r\n", all, mostBody+21, api.OK)
	for _, first := range []int{1, 2, 15, 16, 17, 2048, 4080, 4094, 4095} {
		s := chunked(all[:first])
		rest := chunked(all[first:])
		takes(t, s+rest+end, all, len(s+rest+end), api.OK)
		takes(t, s+fmt.Sprintf("%x\r\n", mostBody-first), "", 0, api.ErrMore)
		refused(t, s+fmt.Sprintf("%x\r\n", mostBody-first+1), api.ErrBig)
		refused(t, s+"1000\r\n", api.ErrBig)
		less := chunked(all[first+1:])
		takes(t, s+less+end, all[:first]+all[first+1:], len(s+less+end), api.OK)
		takes(t, s+less+chunked("y")+end, all[:first]+all[first+1:]+"y", len(s+less+end)+6, api.OK)
		refused(t, s+less+"2\r\n", api.ErrBig)
		refused(t, s+less+chunked("y")+"1\r\n", api.ErrBig)
	}
	ones := strings.Repeat("1\r\nz\r\n", mostBody)
	takes(t, ones+end, strings.Repeat("z", mostBody), len(ones+end), api.OK)
	refused(t, ones+"1\r\n", api.ErrBig)
	refused(t, ones+"ffffffffffffffffffff\r\n", api.ErrBig)
}

// P8.1: the two bytes behind a chunk's bytes are looked at when both are there.
func TestTakeChunkEnd(t *testing.T) {
	for n := range 256 {
		one := string([]byte{byte(n)})
		for _, ahead := range []string{"2\r\nab", "1\r\nx\r\n2;y\r\n\r\n"} {
			takes(t, ahead+one, "", 0, api.ErrMore)
			for m := range 256 {
				two := one + string([]byte{byte(m)})
				if two == "\r\n" {
					takes(t, ahead+two, "", 0, api.ErrMore)
				} else {
					takes(t, ahead+two, "", 0, api.ErrBad)
				}
			}
		}
	}
	refused(t, "2\r\nab\n0", api.ErrBad)
	refused(t, "2\r\nab\n\n", api.ErrBad)
	refused(t, "2\r\nab\n\r", api.ErrBad)
	refused(t, "2\r\nab\r\r", api.ErrBad)
	refused(t, "2\r\nab0\r", api.ErrBad)
	takes(t, "3\r\nab\r\n", "", 0, api.ErrMore)
	refused(t, "1\r\nab\r", api.ErrBad)
	takes(t, "5\r\nab\r\n0\r\n\r\n", "", 0, api.ErrBad)
	takes(t, "3\r\nab\r\n0", "", 0, api.ErrBad)
	takes(t, "5\r\nab\r\n0\r", "", 0, api.ErrMore)
}

// P8.1: a trailer is what head.Parse takes.
func TestTakeTrailer(t *testing.T) {
	long := "a:" + strings.Repeat("b", api.MaxLine-2)
	many := strings.Repeat("a:b\r\n", api.MaxFields)
	for _, ahead := range []string{"0\r\n", "2\r\nab\r\n0;x\r\n", "000\r\n"} {
		for _, trailer := range []string{"\n", "\r\r", "\rx", "T ", "T\r", " ", ":", "T: v\n", "T: \x00", "T: v\r\n ", "T: v\r\n\n", "T: v\r\n\rx", "2\r"} {
			refused(t, ahead+trailer, api.ErrBad)
		}
		for _, trailer := range []string{long + "b", many + "c", strings.Repeat(long+"\r\n", 3) + long[:api.MaxHead-3*(api.MaxLine+2)] + "b"} {
			takes(t, ahead+trailer, "", 0, api.ErrBig)
			takes(t, ahead+trailer+"\r\n\r\n", "", 0, api.ErrBig)
			takes(t, ahead+trailer[:len(trailer)-1], "", 0, api.ErrMore)
		}
		body, _, _ := modelTake(ahead + "\r\n")
		takes(t, ahead+long+"\r\n\r\n", body, len(ahead+long)+4, api.OK)
		takes(t, ahead+many+"\r\n", body, len(ahead+many)+2, api.OK)
		takes(t, ahead+many+"\r\n"+many, body, len(ahead+many)+2, api.OK)
	}
}

// P8.1: of several errors the one that stands first in the bytes is told, and within a part the one the promise names first.
func TestTakeFirst(t *testing.T) {
	takes(t, "2\r\nabxx\r\n1001\r\n", "", 0, api.ErrBad)
	takes(t, "1001\r\nabxx\r\ng\r\n", "", 0, api.ErrBig)
	takes(t, "2\r\nab\r\n1001\r\ng\r\n", "", 0, api.ErrBig)
	takes(t, "g\r\n"+strings.Repeat("x", mostLine), "", 0, api.ErrBad)
	takes(t, strings.Repeat("x", mostLine)+"g\r\n", "", 0, api.ErrBig)
	takes(t, "2\r\nab\r\n"+strings.Repeat("0", mostLine)+"\x00\n", "", 0, api.ErrBig)
	takes(t, "fff\r\nxxxx\n\x00", "", 0, api.ErrMore)
	takes(t, "0\r\nT : v\r\n"+strings.Repeat("a", 3000), "", 0, api.ErrBad)
	takes(t, "\n1001\r\n", "", 0, api.ErrBad)
}

// P8.1, P8.4: each byte, at each place of a coded body, instead of what stands there, and ahead of it.
func TestTakeBytes(t *testing.T) {
	for _, s := range []string{"2;x=y\r\nab\r\n0;z\r\nT: v\r\n\r\n", "0a\r\n0123456789\r\n1\r\nc\r\n0\r\n\r\n", "0\r\n\r\n", "3;\r\n\r\n0\r\n0\r\n\r\nx"} {
		for at := range len(s) {
			for n := range 256 {
				one := string([]byte{byte(n)})
				asModel(t, s[:at]+one+s[at+1:])
				asModel(t, s[:at]+one+s[at:])
				asModel(t, s[:at]+one)
			}
			asModel(t, s[:at]+s[at+1:])
		}
	}
}

// P8.1, P8.4: all short texts of what matters.
func TestTakeShort(t *testing.T) {
	sample.Texts([]string{"0", "1", "a", ";", "\r", "\n", "\r\n", "\x00", "T:"}, 5, func(s string) { asModel(t, s) })
	sample.Texts([]string{"0\r\n", "1\r\n", "\r\n", "2;x\r\n", "a", "1", "\n", "fff\r\n", "1001\r\n"}, 5, func(s string) { asModel(t, s) })
}

// P8.2: parts that have bytes, and such that have none.
func TestPut(t *testing.T) {
	for _, parts := range [][]string{nil, {}, {""}, {"", "", ""}, {"a"}, {"ab", "c"}, {"", "ab", "", "", "c", ""}, {"\r\n", "0\r\n\r\n", "\x00\xff"},
		{"0123456789"}, {"0123456789abcde"}, {"0123456789abcdef"}, {strings.Repeat("x", 255), strings.Repeat("y", 256)}, {strings.Repeat("x", 0xabc)}} {
		puts(t, parts)
	}
	b, e := Put([][]byte{[]byte("a"), nil, {}, bytes.Repeat([]byte("b"), 26)})
	if want := "1\r\na\r\n1a\r\nbbbbbbbbbbbbbbbbbbbbbbbbbb\r\n0\r\n\r\n"; string(b) != want || e != api.OK {
		t.Errorf("Put: %q, %d; want %q", b, e, want)
	}
	if b, e := Put(nil); string(b) != "0\r\n\r\n" || e != api.OK {
		t.Errorf("Put(nil): %q, %d", b, e)
	}
}

func bytesOf(parts []string) [][]byte {
	var l [][]byte
	for _, part := range parts {
		l = append(l, []byte(part))
	}
	return l
}

// puts checks what Put tells of parts that may be, that they are only read, and P8.3.
func puts(t *testing.T, parts []string) {
	t.Helper()
	in := bytesOf(parts)
	b, e := Put(in)
	if want := modelPut(parts); string(b) != want || e != api.OK {
		t.Errorf("Put(%d parts): %s, %d; want %s", len(parts), sample.Shown(string(b)), e, sample.Shown(want))
		return
	}
	for i, part := range in {
		if string(part) != parts[i] {
			t.Errorf("Put made part %d of %d another one", i, len(parts))
		}
	}
	whole(t, string(b), strings.Join(parts, ""))
}

func putsNot(t *testing.T, parts []string) {
	t.Helper()
	b, e := Put(bytesOf(parts))
	if len(b) != 0 || e != api.ErrBig {
		t.Errorf("Put(%d parts): %s, %d; want ErrBig", len(parts), sample.Shown(string(b)), e)
	}
}

// P8.2: just 4096 bytes in all, and one more.
func TestPutBig(t *testing.T) {
	all := strings.Repeat("x", mostBody)
	puts(t, []string{all})
	puts(t, []string{"", all, ""})
	putsNot(t, []string{all + "x"})
	putsNot(t, []string{all, "x"})
	putsNot(t, []string{"x", all})
	putsNot(t, []string{"", all, "", "x", ""})
	putsNot(t, []string{all, all})
	putsNot(t, []string{strings.Repeat("x", 1<<20)})
	for _, first := range []int{1, 15, 2048, 4095} {
		puts(t, []string{all[:first], all[first:]})
		putsNot(t, []string{all[:first], all[first:], "x"})
		putsNot(t, []string{all[:first] + "x", all[first:]})
	}
	ones := strings.Split(all, "")
	puts(t, ones)
	putsNot(t, append(ones, "x"))
	puts(t, append(ones, make([]string, 5000)...))
}

// P8.2, P8.3: parts of all kinds.
func TestPutBack(t *testing.T) {
	r := rand.New(rand.NewSource(8))
	for range 300 {
		var parts []string
		room := mostBody
		for range r.Intn(12) {
			part := make([]byte, r.Intn(min(room, 1+r.Intn(600))+1))
			for i := range part {
				part[i] = "\r\n0;a\x00\xff"[r.Intn(7)]
			}
			room -= len(part)
			parts = append(parts, string(part))
		}
		puts(t, parts)
	}
	for size := range 600 {
		puts(t, []string{strings.Repeat("\n", size)})
	}
}

// R3: what is answered is memory of its own.
func TestOwnMemory(t *testing.T) {
	in := []byte("2\r\nab\r\n1\r\nc\r\n0\r\n\r\n")
	first, _, _ := Take(in)
	second, _, _ := Take(in)
	clear(in)
	clear(second)
	if string(first) != "abc" {
		t.Errorf("Take's answer became %q", first)
	}
	for _, parts := range [][][]byte{{[]byte("ab")}, {}, nil} {
		first, _ := Put(parts)
		want := string(first)
		second, _ := Put(parts)
		for _, part := range parts {
			clear(part)
		}
		clear(second[:cap(second)])
		if string(first) != want {
			t.Errorf("Put's answer became %q", first)
		}
		if third, _ := Put(nil); string(third) != "0\r\n\r\n" {
			t.Errorf("Put(nil) became %q", third)
		}
	}
}
