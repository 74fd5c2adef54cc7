package head

import (
	"fmt"
	"math/rand"
	"slices"
	"strings"
	"testing"
	"unsafe"

	"tollhouse/api"
	"tollhouse/sample"
)

// The limits, as the chapter has them.
const (
	mostLine   = 512
	mostFields = 32
	mostBytes  = 2048
)

// The model below says what the chapter says of each byte, out of all that stands ahead of it, and goes through no states.

func tokenByte(c byte) bool {
	return strings.IndexByte("!#$%&'*+-.^_`|~0123456789ABCDEFGHIJKLMNOPQRSTUVWXYZabcdefghijklmnopqrstuvwxyz", c) >= 0
}

func shownByte(c byte) bool {
	return c == 0x09 || c >= 0x20 && c <= 0x7e || c >= 0x80
}

// modelByte is the error at a byte behind bytes that were no error.
func modelByte(ahead string, c byte) api.Errno {
	lines := strings.Split(ahead, "\r\n")
	line := lines[len(lines)-1]
	behind := strings.HasSuffix(line, "\r")
	switch {
	case len(ahead) >= mostBytes,
		c != '\r' && !behind && len(line) >= mostLine,
		c != '\r' && line == "" && len(lines) > mostFields:
		return api.ErrBig
	case behind && c == '\n',
		!behind && line == "" && (c == '\r' || tokenByte(c)),
		!behind && line != "" && !strings.Contains(line, ":") && (c == ':' || tokenByte(c)),
		!behind && strings.Contains(line, ":") && (c == '\r' || shownByte(c)):
		return api.OK
	}
	return api.ErrBad
}

func modelFields(whole string) []api.Field {
	var l []api.Field
	for _, line := range strings.Split(strings.TrimSuffix(whole, "\r\n"), "\r\n") {
		name, value, ok := strings.Cut(line, ":")
		if ok {
			l = append(l, api.Field{Name: name, Value: strings.Trim(value, "\x20\x09")})
		}
	}
	return l
}

func modelParse(s string) ([]api.Field, int, api.Errno) {
	for i := range len(s) {
		if e := modelByte(s[:i], s[i]); e != api.OK {
			return nil, 0, e
		}
		if whole := s[:i+1]; whole == "\r\n" || strings.HasSuffix(whole, "\r\n\r\n") {
			return modelFields(whole), i + 1, api.OK
		}
	}
	return nil, 0, api.ErrMore
}

func modelPut(l []api.Field) string {
	s := ""
	for _, f := range l {
		s += fmt.Sprintf("%s: %s\r\n", f.Name, f.Value)
	}
	return s + "\r\n"
}

func modelMay(l []api.Field) bool {
	size := 2
	for _, f := range l {
		if f.Name == "" || slices.ContainsFunc([]byte(f.Name), func(c byte) bool { return !tokenByte(c) }) {
			return false
		}
		if slices.ContainsFunc([]byte(f.Value), func(c byte) bool { return !shownByte(c) }) || strings.Trim(f.Value, "\x20\x09") != f.Value {
			return false
		}
		line := len(f.Name + ": " + f.Value)
		if line > mostLine {
			return false
		}
		size += line + 2
	}
	return len(l) <= mostFields && size <= mostBytes
}

// parses checks what is told of s.
func parses(t *testing.T, s string, want []api.Field, used int, err api.Errno) {
	t.Helper()
	l, n, e := Parse([]byte(s))
	if !slices.Equal(l, want) || n != used || e != err {
		t.Errorf("Parse(%s): %q, %d, %d; want %q, %d, %d", sample.Shown(s), l, n, e, want, used, err)
	}
}

func refused(t *testing.T, s string, err api.Errno) {
	t.Helper()
	parses(t, s, nil, 0, err)
}

// asModel checks what is told of s, and by P5.4 and P5.5 what follows of it.
func asModel(t *testing.T, s string) {
	t.Helper()
	l, n, e := modelParse(s)
	parses(t, s, l, n, e)
	if e == api.OK && modelMay(l) != May(l) {
		t.Errorf("May(%q): %v", l, May(l))
	}
	if e != api.ErrMore {
		for _, behind := range []string{"a", ":", " ", "\r", "\n", "\r\n", "\x00"} {
			parses(t, s+behind, l, n, e)
		}
	}
}

func fields(pairs ...string) []api.Field {
	var l []api.Field
	for i := 0; i < len(pairs); i += 2 {
		l = append(l, api.Field{Name: pairs[i], Value: pairs[i+1]})
	}
	return l
}

// put checks that l may be, and what Put tells of it.
func put(t *testing.T, l []api.Field, want string) {
	t.Helper()
	b, e := Put(l)
	if !May(l) || string(b) != want || e != api.OK {
		t.Errorf("%q: %v; Put: %s, %d; want %s", l, May(l), sample.Shown(string(b)), e, sample.Shown(want))
	}
}

func mayNot(t *testing.T, l []api.Field) {
	t.Helper()
	b, e := Put(l)
	if May(l) || len(b) != 0 || e != api.ErrArg {
		t.Errorf("%q: %v; Put: %s, %d; want false; ErrArg", l, May(l), sample.Shown(string(b)), e)
	}
}

// P5.1.
func TestPut(t *testing.T) {
	put(t, nil, "\r\n")
	put(t, []api.Field{}, "\r\n")
	put(t, fields("Host", "a"), "Host: a\r\n\r\n")
	put(t, fields("Host", "a", "x", "1", "hOST", "b"), "Host: a\r\nx: 1\r\nhOST: b\r\n\r\n")
	put(t, fields("a", ""), "a: \r\n\r\n")
	put(t, fields("a", "", "b", ""), "a: \r\nb: \r\n\r\n")
	put(t, fields("a", "b \t c"), "a: b \t c\r\n\r\n")
	put(t, fields("a", ":b: c"), "a: :b: c\r\n\r\n")
	put(t, fields("!#$%&'*+-.^_`|~09azAZ", "é\x80\xff~!"), "!#$%&'*+-.^_`|~09azAZ: é\x80\xff~!\r\n\r\n")
}

// P5.1: what no list that may be has.
func TestMayNot(t *testing.T) {
	for _, f := range fields("", "", "", "a", "a b", "c", " a", "b", "a ", "b", "a:", "b", "a\r\n", "b", "é", "b", "a\"", "b",
		"a", " b", "a", "b ", "a", "\tb", "a", "b\t", "a", " ", "a", "\t", "a", "b\r", "a", "b\nc", "a", "b\r\nc: d", "a", "\x00", "a", "b\x7f", "a", "\x1f") {
		mayNot(t, []api.Field{f})
		mayNot(t, []api.Field{{Name: "x", Value: "1"}, f})
		mayNot(t, []api.Field{f, {Name: "x", Value: "1"}})
	}
}

// P5.1: each byte, in names and in values, first, within and last.
func TestMayBytes(t *testing.T) {
	for n := range 256 {
		one := string([]byte{byte(n)})
		for _, s := range []string{one, one + "a", "a" + one, "a" + one + "z"} {
			for _, l := range [][]api.Field{fields(s, "a"), fields("a", s)} {
				if modelMay(l) {
					put(t, l, modelPut(l))
				} else {
					mayNot(t, l)
				}
			}
		}
	}
}

// P5.1: the limits, just met and passed by one.
func TestMayLimits(t *testing.T) {
	long := strings.Repeat("b", mostLine-3)
	put(t, fields("a", long), "a: "+long+"\r\n\r\n")
	mayNot(t, fields("a", long+"b"))
	mayNot(t, fields("aa", long))
	put(t, fields(long+"b", ""), long+"b: \r\n\r\n")
	mayNot(t, fields(long+"bb", ""))
	mayNot(t, fields("x", "", "a", long+"b"))

	many := slices.Repeat(fields("a", "b"), mostFields)
	put(t, many, strings.Repeat("a: b\r\n", mostFields)+"\r\n")
	mayNot(t, append(slices.Clone(many), many[0]))

	// Three lines of 514 bytes with their ends, one of 504, and the empty one.
	all := append(slices.Repeat(fields("a", long), 3), fields("c", long[:499])...)
	put(t, all, strings.Repeat("a: "+long+"\r\n", 3)+"c: "+long[:499]+"\r\n\r\n")
	if b, _ := Put(all); len(b) != mostBytes {
		t.Errorf("%d bytes", len(b))
	}
	all[3].Value += "b"
	mayNot(t, all)
	mayNot(t, slices.Repeat(fields("a", strings.Repeat("b", 60)), mostFields))
	mayNot(t, fields("a", strings.Repeat("b", 1<<20)))
}

// P5.2: fields, and what stands behind them.
func TestParse(t *testing.T) {
	parses(t, "\r\n", nil, 2, api.OK)
	parses(t, "\r\nHost: a\r\n\r\n", nil, 2, api.OK)
	parses(t, "\r\n\x00", nil, 2, api.OK)
	parses(t, "Host:a\r\nX-Y:\t b c \r\n\r\n", fields("Host", "a", "X-Y", "b c"), 22, api.OK)
	parses(t, "Host:a\r\nX-Y:\t b c \r\n\r\nmore\r\n\r\n", fields("Host", "a", "X-Y", "b c"), 22, api.OK)
	parses(t, "Host: a\r\nhost: b\r\nHOST: a\r\n\r\n", fields("Host", "a", "host", "b", "HOST", "a"), 29, api.OK)
	parses(t, "a:\r\n\r\n", fields("a", ""), 6, api.OK)
	parses(t, "a: \t \r\nb:\r\n\r\n", fields("a", "", "b", ""), 13, api.OK)
	parses(t, "a::b\r\n\r\n", fields("a", ":b"), 8, api.OK)
	parses(t, "a: b: c \r\n\r\n", fields("a", "b: c"), 12, api.OK)
	parses(t, "a:\t\tb \t c\t \r\n\r\n\r\n", fields("a", "b \t c"), 15, api.OK)
	parses(t, "a:\xc2\xa0b\xff\r\n\r\n", fields("a", "\u00a0b\xff"), 10, api.OK)
}

// P5.2: what is not whole, and what may not be.
func TestParseWrong(t *testing.T) {
	refused(t, "", api.ErrMore)
	if l, n, e := Parse(nil); len(l) != 0 || n != 0 || e != api.ErrMore {
		t.Errorf("Parse(nil): %q, %d, %d", l, n, e)
	}
	for _, s := range []string{"H", "Host", "Host:", "Host: a", "Host: a\r", "Host: a\r\n", "Host: a\r\n\r", "\r", "a:\r\nb", "a: b\r\nc: d\r\n"} {
		refused(t, s, api.ErrMore)
	}
	for _, s := range []string{
		"Host : a", ":", ": a", " a: b", "\ta: b", " \r\n", "a: b\r\n c: d", "a: b\r\n\tc", "a: b\r\n:", // names, and beginnings
		"a b: c", "a\x00: b", "é: a", "a/b: c", "a\r", "a\r\n", "a\n", "a: b\r\nc\r\n",
		"a: b\n", "a: b\n\r\n", "a:\n", "a: b\x00", "a: \x1f", "a: \x7f", "a: b\vc", // values
		"a: b\rc", "a: \r\r", "a: \r\r\n", "a: b\r ", "\rx", "\r\r", "\r\r\n", "\r:", "a: b\r\n\rx", // 0d without 0a behind it
		"\n", "\nx", "a: b\r\n\n", "\x00", "\xff", // 0a alone
	} {
		refused(t, s, api.ErrBad)
		refused(t, s+"\r\n\r\n", api.ErrBad)
	}
}

// P5.2: each byte, at each place where another one may stand.
func TestParseBytes(t *testing.T) {
	ahead := []string{"", "a", "a-b", "a:", "a: ", "a:b", "a: b ", "a:\r", "a: b\r", "a: b\r\n", "a: b\r\nc", "a: b\r\nc:", "a: b\r\nc:\r\n", "a: b\r\n\r", "\r"}
	for n := range 256 {
		for _, s := range ahead {
			for _, behind := range []string{"", ":\r\n\r\n", "\r\n\r\n", "\n\r\n", "\n"} {
				asModel(t, s+string([]byte{byte(n)})+behind)
			}
		}
	}
}

// P5.2, P5.4, P5.5: all short texts of what matters.
func TestParseShort(t *testing.T) {
	sample.Texts([]string{"a", ":", " ", "\t", "\r", "\n", "\r\n", "\x01", "\xff"}, 5, func(s string) { asModel(t, s) })
	sample.Texts([]string{"a", ":", " ", "\r\n", "\n"}, 7, func(s string) { asModel(t, s) })
}

// P5.2: lines of just 512 bytes, and of one more.
func TestParseLine(t *testing.T) {
	full := "a:" + strings.Repeat("b", mostLine-2)
	blank := "a:" + strings.Repeat(" ", mostLine-2)
	name := strings.Repeat("n", mostLine-1)
	for _, ahead := range []string{"", "x: y\r\n", full + "\r\n"} {
		other := modelFields(ahead)
		parses(t, ahead+full+"\r\n\r\n", append(other, api.Field{Name: "a", Value: full[2:]}), len(ahead)+mostLine+4, api.OK)
		parses(t, ahead+blank+"\r\n\r\n", append(other, api.Field{Name: "a"}), len(ahead)+mostLine+4, api.OK)
		parses(t, ahead+name+":\r\n\r\n", append(other, api.Field{Name: name}), len(ahead)+mostLine+4, api.OK)
		refused(t, ahead+full, api.ErrMore)
		refused(t, ahead+full+"\r", api.ErrMore)
		refused(t, ahead+full+"\r\n", api.ErrMore)
		refused(t, ahead+name, api.ErrMore)
		refused(t, ahead+name+"n", api.ErrMore)
		for _, s := range []string{full + "b", full + " ", blank + " ", full + ":", name + ":b", name + ": ", name + "n:", name + "nn", full + "b\r\n\r\n"} {
			refused(t, ahead+s, api.ErrBig)
		}
	}
}

// P5.2: which error is told where a line's 513th byte could not stand there, either; 0d, and what is behind it, count for none.
func TestParseLineOrder(t *testing.T) {
	full := "a:" + strings.Repeat("b", mostLine-2)
	name := strings.Repeat("n", mostLine)
	for _, c := range []string{"\n", "\x00", "\x7f"} {
		refused(t, full+c, api.ErrBig)
		refused(t, name+c, api.ErrBig)
		refused(t, full[:mostLine-1]+c, api.ErrBad)
		refused(t, name[:mostLine-1]+c, api.ErrBad)
		refused(t, full+"\r"+strings.Trim(c, "\n")+"x", api.ErrBad)
	}
	refused(t, name+" ", api.ErrBig)
	refused(t, name[1:]+" ", api.ErrBad)
	refused(t, name+"\r", api.ErrBad)
	refused(t, name[1:]+"\r", api.ErrBad)
	refused(t, full+"\rb", api.ErrBad)
	refused(t, full+"\r\r", api.ErrBad)
	refused(t, full[:mostLine-1]+"\r\r", api.ErrBad)
	refused(t, full[:mostLine-1]+"\rb", api.ErrBad)
	refused(t, " "+full+"b", api.ErrBad)
	refused(t, "a: \x00"+full, api.ErrBad)
	for size := mostLine - 3; size <= mostLine+2; size++ {
		for n := range 256 {
			asModel(t, ("a:" + strings.Repeat("b", size))[:size]+string([]byte{byte(n)}))
			asModel(t, strings.Repeat("n", size)+string([]byte{byte(n)}))
			asModel(t, ("a:" + strings.Repeat("b", size))[:size]+"\r"+string([]byte{byte(n)}))
		}
	}
}

// P5.2: just 32 fields, and one more.
func TestParseFields(t *testing.T) {
	many := strings.Repeat("a:b\r\n", mostFields)
	l := slices.Repeat(fields("a", "b"), mostFields)
	parses(t, many+"\r\n", l, len(many)+2, api.OK)
	parses(t, many+"\r\na:b\r\n\r\n", l, len(many)+2, api.OK)
	parses(t, many[5:]+"\r\n", l[1:], len(many)-3, api.OK)
	refused(t, many, api.ErrMore)
	refused(t, many+"\r", api.ErrMore)
	refused(t, many+"\rx", api.ErrBad)
	refused(t, many[:len(many)-1], api.ErrMore)
	refused(t, many[:len(many)-1]+"a", api.ErrBad)
	for n := range 256 {
		if n != '\r' {
			refused(t, many+string([]byte{byte(n)}), api.ErrBig)
		}
		asModel(t, many[5:]+string([]byte{byte(n)}))
	}
}

// ofSize is fields of just so many bytes in all, and the text that has them.
func ofSize(size int) ([]api.Field, string) {
	s := ""
	for size-len(s) > 2 {
		line := min(mostLine, size-len(s)-4)
		if rest := size - len(s) - 4 - line; rest > 0 && rest < 4 {
			line -= 4 // the next line needs a name and a ':'
		}
		s += "a:" + strings.Repeat("b", line-2) + "\r\n"
	}
	s += "\r\n"
	return modelFields(s), s
}

// P5.2: just 2048 bytes in all, and one more.
func TestParseBig(t *testing.T) {
	for size := mostBytes - 8; size <= mostBytes; size++ {
		l, s := ofSize(size)
		if len(s) != size {
			t.Fatalf("%d bytes, want %d", len(s), size)
		}
		parses(t, s, l, size, api.OK)
		parses(t, s+"\x00", l, size, api.OK)
		refused(t, s[:size-1], api.ErrMore)
	}
	for size := mostBytes + 1; size <= mostBytes+8; size++ {
		_, s := ofSize(size)
		refused(t, s, api.ErrBig)
		refused(t, s[:mostBytes+1], api.ErrBig)
		refused(t, s[:mostBytes], api.ErrMore)
	}
	refused(t, strings.Repeat("a:b\r\n", 1<<18), api.ErrBig)
	refused(t, strings.Repeat("a", 1<<20), api.ErrBig)
}

// P5.2: whatever the 2049th byte is, and wherever it stands, it is ErrBig; what is ahead of it is told first.
func TestParseBigOrder(t *testing.T) {
	for size := mostBytes + 1; size <= mostBytes+8; size++ {
		_, s := ofSize(size)
		for n := range 256 {
			refused(t, s[:mostBytes]+string([]byte{byte(n)}), api.ErrBig)
		}
		refused(t, s[:mostBytes-1]+"\x00", api.ErrBad)
		refused(t, s[:mostBytes-1]+"\x00\x00", api.ErrBad)
		asModel(t, s[:mostBytes-1]+"\n")
		asModel(t, s[:mostBytes-2]+"\r\n")
	}
}

// P5.3.
func TestGet(t *testing.T) {
	l := fields("Host", "a", "x", "1", "hOST", "b", "Hos", "c", "Hostt", "d", "HOST", "a", "host", "")
	for _, name := range []string{"Host", "host", "HOST", "hOsT"} {
		if v := Get(l, name); !slices.Equal(v, []string{"a", "b", "a", ""}) {
			t.Errorf("Get of %s: %q", name, v)
		}
	}
	for _, name := range []string{"y", "", "Host ", "Hosts", ":", "Ho\u017ft"} {
		if v := Get(l, name); len(v) != 0 {
			t.Errorf("Get of %q: %q", name, v)
		}
	}
	if v := Get(l, "X"); !slices.Equal(v, []string{"1"}) {
		t.Errorf("Get of X: %q", v)
	}
	if v := Get(nil, "a"); len(v) != 0 {
		t.Errorf("Get of none: %q", v)
	}
	// Names that are no tokens, and values that may not be, are looked at as all others are.
	if v := Get(fields("", "1", "A B", " \r\n"), "a b"); !slices.Equal(v, []string{" \r\n"}) {
		t.Errorf("Get: %q", v)
	}
	if v := Get(fields("", "1", "a", "2", "", "3"), ""); !slices.Equal(v, []string{"1", "3"}) {
		t.Errorf("Get: %q", v)
	}
}

// P5.3.
func TestDrop(t *testing.T) {
	l := fields("Host", "a", "x", "1", "hOST", "b", "Y", "2", "x", "3")
	for _, c := range []struct {
		names []string
		want  []api.Field
	}{
		{nil, l},
		{[]string{"HOST"}, fields("x", "1", "Y", "2", "x", "3")},
		{[]string{"X"}, fields("Host", "a", "hOST", "b", "Y", "2")},
		{[]string{"z", "host"}, fields("x", "1", "Y", "2", "x", "3")},
		{[]string{"y", "host", "Host"}, fields("x", "1", "x", "3")},
		{[]string{"y", "host", "x"}, nil},
		{[]string{"", "Hos", "Hostt", "Ho\u017ft", "x ", "1"}, l},
	} {
		if got := Drop(l, c.names...); !slices.Equal(got, c.want) {
			t.Errorf("Drop of %q: %q, want %q", c.names, got, c.want)
		}
	}
	if d := Drop(nil, "a"); len(d) != 0 {
		t.Errorf("Drop from none: %q", d)
	}
	if d := Drop(fields("", "1", "a b", "2"), "A B"); !slices.Equal(d, fields("", "1")) {
		t.Errorf("Drop: %q", d)
	}
}

// P5.3.
func TestWith(t *testing.T) {
	l := fields("Host", "a", "x", "1", "hOST", "b")
	for _, c := range []struct {
		name, value string
		want        []api.Field
	}{
		{"host", "c", fields("x", "1", "host", "c")},
		{"HOST", "", fields("x", "1", "HOST", "")},
		{"X", "2", fields("Host", "a", "hOST", "b", "X", "2")},
		{"y", "z", fields("Host", "a", "x", "1", "hOST", "b", "y", "z")},
		{"", " \r", fields("Host", "a", "x", "1", "hOST", "b", "", " \r")},
	} {
		if got := With(l, c.name, c.value); !slices.Equal(got, c.want) {
			t.Errorf("With %q, %q: %q, want %q", c.name, c.value, got, c.want)
		}
	}
	if w := With(nil, "a", "b"); !slices.Equal(w, fields("a", "b")) {
		t.Errorf("With none: %q", w)
	}
}

// sharesText tells whether two texts stand in the same memory.
func sharesText(a, b string) bool {
	return a != "" && b != "" && unsafe.StringData(a) == unsafe.StringData(b)
}

// R3: what is handed in stays as it is, and what is answered lives apart.
func TestApart(t *testing.T) {
	l := fields("Host", "aa", "xx", "11")
	was := slices.Clone(l)
	wide := append(make([]api.Field, 0, 8), l...)
	for _, got := range [][]api.Field{Drop(wide), Drop(wide, "yy"), With(wide[:1], "yy", "22")} {
		for i, f := range got {
			if i < len(l) && (sharesText(f.Name, wide[i].Name) || sharesText(f.Value, wide[i].Value)) {
				t.Errorf("%q is the one that was handed in", f)
			}
		}
		clear(got)
		clear(got[:cap(got)])
	}
	name, value := "yy", "22"
	if w := With(nil, name, value); sharesText(w[0].Name, name) || sharesText(w[0].Value, value) {
		t.Error("With tells the texts that were handed in")
	}
	if v := Get(wide, "host"); sharesText(v[0], wide[0].Value) {
		t.Error("Get tells the text that was handed in")
	}
	b, _ := Put(wide)
	clear(b)
	if !slices.Equal(wide, was) {
		t.Errorf("%q", wide)
	}
	names := []string{"HOST", "y"}
	Drop(wide, names...)
	if !slices.Equal(names, []string{"HOST", "y"}) {
		t.Errorf("%q", names)
	}

	in := []byte("Host: aa\r\nxx:11\r\n\r\n")
	kept := string(in)
	got, _, _ := Parse(in)
	if string(in) != kept {
		t.Errorf("Parse changed its bytes: %q", in)
	}
	clear(in)
	if !slices.Equal(got, was) {
		t.Errorf("what Parse told hangs on its bytes: %q", got)
	}
}

// backAgain checks P5.4 and P5.5 of fields that may be.
func backAgain(t *testing.T, l []api.Field) {
	t.Helper()
	b, e := Put(l)
	if e != api.OK || string(b) != modelPut(l) {
		t.Fatalf("Put(%q): %s, %d", l, sample.Shown(string(b)), e)
	}
	for _, behind := range []string{"", "a", "\r", "\n", "\r\n", " ", ":", "\x00", "a: b\r\n\r\n", strings.Repeat("x", mostBytes)} {
		parses(t, string(b)+behind, l, len(b), api.OK)
	}
	for n := range b {
		refused(t, string(b[:n]), api.ErrMore)
	}
}

// P5.4.
func TestBack(t *testing.T) {
	long := strings.Repeat("b", mostLine-3)
	for _, l := range [][]api.Field{
		nil,
		fields("a", ""),
		fields("Host", "a", "X-Y", "b c", "host", ":", "HOST", "a\tb"),
		fields("!#$%&'*+-.^_`|~", "\x80é\xff\u00a0", "0", "\"a, b\""),
		fields("a", long, long+"b", ""),
		slices.Repeat(fields("a", ""), mostFields),
		append(slices.Repeat(fields("a", long), 3), fields("c", long[:499])...),
	} {
		backAgain(t, l)
	}
}

// P5.4: by lot, though the same ones in each run.
func TestBackMany(t *testing.T) {
	lot := rand.New(rand.NewSource(5))
	pick := func(most int, may func(byte) bool) string {
		var b []byte
		for range lot.Intn(most) {
			if c := byte(lot.Intn(256)); may(c) {
				b = append(b, c)
			}
		}
		return string(b)
	}
	for range 300 {
		var l []api.Field
		for range lot.Intn(mostFields + 1) {
			l = append(l, api.Field{Name: "n" + pick(40, tokenByte), Value: strings.Trim(pick(90, shownByte), " \t")})
		}
		if modelMay(l) {
			backAgain(t, l)
		} else {
			mayNot(t, l)
		}
	}
}

// P5.4: what Parse tells may be, but for lines that are too long as plain ones.
func TestTold(t *testing.T) {
	parses(t, "a:"+strings.Repeat("b", mostLine-2)+"\r\n\r\n", fields("a", strings.Repeat("b", mostLine-2)), mostLine+4, api.OK)
	mayNot(t, fields("a", strings.Repeat("b", mostLine-2)))
	l, s := ofSize(mostBytes)
	parses(t, s, l, mostBytes, api.OK)
	mayNot(t, l)
	for _, s := range []string{"\r\n", "a:\r\n\r\n", "a:\t b \r\nB: c\r\n\r\n", "a:" + strings.Repeat(" ", mostLine-2) + "\r\n\r\n", strings.Repeat("a:\r\n", mostFields) + "\r\n"} {
		if l, _, e := Parse([]byte(s)); e != api.OK || !May(l) {
			t.Errorf("%s: %q, %d; %v", sample.Shown(s), l, e, May(l))
		}
	}
}

// P5.5, and R1: whatever bytes come, the answer is the model's, however much of them is there, and stays.
func TestParseMany(t *testing.T) {
	lot := rand.New(rand.NewSource(55))
	parts := []string{"a", "Host", ":", ": ", " ", "\t", "\r\n", "\r\n", "a: b\r\n", "c:\r\n", "é", "\x00", "\n", "\r", strings.Repeat("b", 200), "x:" + strings.Repeat("y", 490)}
	for range 4000 {
		s := ""
		for range lot.Intn(60) {
			part := parts[lot.Intn(len(parts))]
			if lot.Intn(12) > 0 && modelSpoils(s, part) {
				continue
			}
			s += part
		}
		asModel(t, s)
	}
}

// modelSpoils tells whether s and part are refused for a byte that may not stand there, though s was not.
func modelSpoils(s, part string) bool {
	_, _, e := modelParse(s)
	_, _, spoilt := modelParse(s + part)
	return e == api.ErrMore && spoilt == api.ErrBad
}
