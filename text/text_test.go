package text

import (
	"slices"
	"strings"
	"testing"
	"unsafe"

	"tollhouse/sample"
)

// The signs of short texts of all kinds: what parts, quotes, takes along, blanks, letters; bytes that may not be shown;
// and bytes above 7f, as a rune's parts, alone, and as the rune that stands for broken ones.
var (
	listSigns = []string{"a", " ", "\t", ",", "\"", "\\", "\xc3"}
	pairSigns = []string{"A", "b", "=", "\"", "\\", " ", "\x7f", "\xa9"}
	oddTexts  = []string{"é", "\x80", "\xff", "\xc3", "\xa9", "�", "\xed\xa0\x80", "\xf4\x90\x80\x80", "\U0010ffff", "\u212a", "\u017f"}
)

// The models below say what the chapter says, byte by byte, in another way than the package.

func tokenByte(c byte) bool {
	return strings.IndexByte("!#$%&'*+-.^_`|~0123456789ABCDEFGHIJKLMNOPQRSTUVWXYZabcdefghijklmnopqrstuvwxyz", c) >= 0
}

func shownByte(c byte) bool {
	return c == 0x09 || c >= 0x20 && c <= 0x7e || c >= 0x80
}

func allBytes(s string, is func(byte) bool) bool {
	return !slices.ContainsFunc([]byte(s), func(c byte) bool { return !is(c) })
}

// quotedEnd is the place behind the quoted part that begins at s[i].
func quotedEnd(s string, i int) int {
	for i++; i < len(s) && s[i] != '"'; i++ {
		if s[i] == '\\' {
			i++
		}
	}
	return min(i+1, len(s))
}

func modelList(s string) []string {
	var parts []string
	part := ""
	for i := 0; i < len(s); {
		end := i + 1
		if s[i] == '"' {
			end = quotedEnd(s, i)
		}
		if s[i] == ',' {
			parts, part = append(parts, part), ""
		} else {
			part += s[i:end]
		}
		i = end
	}
	var l []string
	for _, p := range append(parts, part) {
		for p != "" && (p[0] == 0x20 || p[0] == 0x09) {
			p = p[1:]
		}
		for p != "" && (p[len(p)-1] == 0x20 || p[len(p)-1] == 0x09) {
			p = p[:len(p)-1]
		}
		if p != "" {
			l = append(l, p)
		}
	}
	return l
}

func modelUnquote(s string) (string, bool) {
	rest, ok := strings.CutPrefix(s, "\"")
	if !ok {
		return "", false
	}
	said := ""
	for rest != "" {
		if rest == "\"" {
			return said, true
		}
		at := 0
		if rest[0] == '\\' {
			at = 1
		}
		if at == len(rest) || !shownByte(rest[at]) || at == 0 && rest[0] == '"' {
			return "", false
		}
		said += rest[at : at+1]
		rest = rest[at+1:]
	}
	return "", false
}

func modelPair(s string) (string, string, bool) {
	token := func(s string) bool { return s != "" && allBytes(s, tokenByte) }
	if token(s) {
		return Lower(s), "", true
	}
	for i := range len(s) {
		if s[i] != '=' || !token(s[:i]) {
			continue
		}
		if token(s[i+1:]) {
			return Lower(s[:i]), s[i+1:], true
		}
		if v, ok := modelUnquote(s[i+1:]); ok {
			return Lower(s[:i]), v, true
		}
	}
	return "", "", false
}

// P2.1: each byte, alone and within, first and last.
func TestBytes(t *testing.T) {
	for n := range 256 {
		c := byte(n)
		one := string([]byte{c})
		for _, s := range []string{one, one + "a", "a" + one, "a" + one + "z", one + one} {
			if Token(s) != tokenByte(c) {
				t.Errorf("Token(%q): %v", s, Token(s))
			}
			if Visible(s) != shownByte(c) {
				t.Errorf("Visible(%q): %v", s, Visible(s))
			}
		}
		low := one
		if c >= 0x41 && c <= 0x5a {
			low = string([]byte{c + 0x20})
		}
		if got := Lower("X" + one + "Y" + one); got != "x"+low+"y"+low {
			t.Errorf("Lower with %q: %q", one, got)
		}
		blank := c == 0x20 || c == 0x09
		for _, s := range []string{one, one + "a", "a" + one, one + "a" + one + "b" + one} {
			if got := Trim(s); got != strings.TrimFunc(s, func(r rune) bool { return blank && r == rune(c) }) {
				t.Errorf("Trim(%q): %q", s, got)
			}
		}
	}
}

func TestEmpty(t *testing.T) {
	if Token("") || !Visible("") || Trim("") != "" || Lower("") != "" || !Same("", "") || len(List("")) != 0 || Quote("") != "\"\"" {
		t.Error("what is told of the empty text")
	}
	if s, ok := Unquote(""); ok || s != "" {
		t.Errorf("Unquote: %q", s)
	}
	if n, v, ok := Pair(""); ok || n != "" || v != "" {
		t.Errorf("Pair: %q %q", n, v)
	}
}

func TestTokens(t *testing.T) {
	for _, s := range []string{"a", "Z", "0", "GET", "Max-Age", "!#$%&'*+-.^_`|~", "x1"} {
		if !Token(s) {
			t.Errorf("%q is a token", s)
		}
	}
	for _, s := range []string{" ", "a b", " a", "a ", "a,b", "a=b", "a:b", "\"a\"", "a/b", "(a)", "a;b", "<a>", "a@b", "[a]", "a\\b", "{a}", "a?b", "a\r\n", "a\x00"} {
		if Token(s) {
			t.Errorf("%q is no token", s)
		}
	}
	for _, s := range oddTexts {
		if Token(s) || Token("a"+s) || Token(s+"a") {
			t.Errorf("%q is no token", s)
		}
	}
}

func TestVisible(t *testing.T) {
	for _, s := range append([]string{"a", " ", "\t", "a b\t~", "\"\\\""}, oddTexts...) {
		if !Visible(s) || !Visible("a"+s+"b") {
			t.Errorf("%q may be shown", s)
		}
	}
	for _, s := range []string{"\x00", "\r", "\n", "a\r\nb", "\x1f", "\x7f", "é\x7f", "\xff\x01", "\x0b", "\x08", "\x0a"} {
		if Visible(s) {
			t.Errorf("%q may not be shown", s)
		}
	}
}

func TestTrim(t *testing.T) {
	for s, want := range map[string]string{
		"a": "a", " a": "a", "a ": "a", "\t a \t b\t ": "a \t b", " ": "", " \t \t": "",
		"\ra\n": "\ra\n", "\u00a0a\u00a0": "\u00a0a\u00a0", " \xff ": "\xff", "\"a \"": "\"a \"", "\x00 ": "\x00",
	} {
		if got := Trim(s); got != want {
			t.Errorf("Trim(%q): %q, want %q", s, got, want)
		}
	}
}

func TestSame(t *testing.T) {
	for _, p := range [][2]string{{"Host", "hOST"}, {"AZ", "az"}, {"É", "É"}, {"a\xffB", "A\xffb"}, {"Max-Age", "max-age"}} {
		if !Same(p[0], p[1]) || !Same(p[1], p[0]) {
			t.Errorf("%q", p)
		}
	}
	// Kelvin's sign and the long s are letters k and s only to who folds more than A to Z.
	for _, p := range [][2]string{{"a", "b"}, {"a", "aa"}, {"", "a"}, {"É", "é"}, {"@", "`"}, {"[", "{"}, {"\u212a", "k"}, {"\u017f", "S"}, {"\x80", "\xff"}, {"\xff", "�"}, {"a", "a "}} {
		if Same(p[0], p[1]) || Same(p[1], p[0]) {
			t.Errorf("%q", p)
		}
	}
	for _, s := range oddTexts {
		if Lower(s) != s || Lower("A"+s+"B") != "a"+s+"b" {
			t.Errorf("Lower(%q): %q", s, Lower(s))
		}
	}
}

// P2.2.
func TestList(t *testing.T) {
	for _, c := range []struct {
		s    string
		want []string
	}{
		{" a ,, b=\"x, y\" ,c", []string{"a", "b=\"x, y\"", "c"}},
		{"\"a, b", []string{"\"a, b"}},
		{"\"\\\", c\", d", []string{"\"\\\", c\"", "d"}},
		{"a", []string{"a"}},
		{"a,b,a", []string{"a", "b", "a"}},
		{",a,", []string{"a"}},
		{" ", nil},
		{",", nil},
		{" ,\t, \t ", nil},
		{"a b , c\td", []string{"a b", "c\td"}},
		{"\"\"", []string{"\"\""}},
		{"\"\",\"\"", []string{"\"\"", "\"\""}},
		{"\" \",b", []string{"\" \"", "b"}},
		{"x\"a,b\"y\"c,d\"z, e", []string{"x\"a,b\"y\"c,d\"z", "e"}},
		{"\"a\\\\\",b", []string{"\"a\\\\\"", "b"}},             // '\\' stands for itself: the '"' behind it ends
		{"\"a\\\\\\\",b\",c", []string{"\"a\\\\\\\",b\"", "c"}}, // here it does not
		{"\"a\\,b\",c", []string{"\"a\\,b\"", "c"}},
		{"\\\",\",c", []string{"\\\",\"", "c"}}, // outside of a quoted part '\' takes nothing along
		{"\\,a", []string{"\\", "a"}},
		{"a,\"", []string{"a", "\""}},
		{"a,\"b\\", []string{"a", "\"b\\"}},
		{"\"\\ ", []string{"\"\\"}}, // the blank goes, though '\' takes it along: it is at the part's end
		{"\"a, \t", []string{"\"a,"}},
		{"\"\\é,\",b", []string{"\"\\é,\"", "b"}},
		{"\"\\\xff,\",b", []string{"\"\\\xff,\"", "b"}},
		{"é, \xff ,\x00,\r\n", []string{"é", "\xff", "\x00", "\r\n"}},
	} {
		if got := List(c.s); !slices.Equal(got, c.want) {
			t.Errorf("List(%q): %q, want %q", c.s, got, c.want)
		}
	}
}

func TestListAsModel(t *testing.T) {
	sample.Texts(listSigns, 6, func(s string) {
		l := List(s)
		if !slices.Equal(l, modelList(s)) {
			t.Errorf("List(%q): %q, want %q", s, l, modelList(s))
		}
		for _, e := range l { // P2.5
			if e == "" || strings.ContainsRune(" \t", rune(e[0])) || strings.ContainsRune(" \t", rune(e[len(e)-1])) {
				t.Errorf("List(%q): %q", s, e)
			}
		}
		if again := List(strings.Join(l, ",")); !slices.Equal(again, l) {
			t.Errorf("List(%q): %q, and together %q", s, l, again)
		}
	})
}

// P2.3.
func TestQuote(t *testing.T) {
	for s, want := range map[string]string{
		"a": "\"a\"", "a\"b": "\"a\\\"b\"", "\\": "\"\\\\\"", "\"": "\"\\\"\"", "\\\"": "\"\\\\\\\"\"",
		"é\"\xff": "\"é\\\"\xff\"", "a, b\t": "\"a, b\t\"", "\x00\r\n\x7f": "\"\x00\r\n\x7f\"",
	} {
		if got := Quote(s); got != want {
			t.Errorf("Quote(%q): %q, want %q", s, got, want)
		}
	}
}

func TestUnquote(t *testing.T) {
	for s, want := range map[string]string{
		"\"\"": "", "\"a\"": "a", "\"a\\\"b\"": "a\"b", "\"\\a\"": "a", "\"\\\\\"": "\\", "\"\\\\\\\"\"": "\\\"",
		"\" a\t\"": " a\t", "\"\\ \\\t\"": " \t", "\"é\\é\\\xff\xc3\"": "éé\xff\xc3", "\"a,b=c\"": "a,b=c",
	} {
		if got, ok := Unquote(s); !ok || got != want {
			t.Errorf("Unquote(%q): %q, %v, want %q", s, got, ok, want)
		}
	}
	for _, s := range []string{
		"\"", "a", "\\", "\"a", "a\"", "a\"b\"", "\"a\"b", "\"a\"b\"", "\"\"\"", "\"\\\"", "\"a\\\"", "\"a\\\\\\\"", "\"\\\\\"\"",
		" \"a\"", "\"a\" ", "\"\r\"", "\"\x00\"", "\"\x7f\"", "\"\\\x1f\"", "\"\\\x7f\"", "\"a\nb\"", "'a'", "\"\xff", "\xff\"",
	} {
		if got, ok := Unquote(s); ok || got != "" {
			t.Errorf("Unquote(%q): %q, %v", s, got, ok)
		}
	}
}

func TestUnquoteEachByte(t *testing.T) {
	for n := range 256 {
		one := string([]byte{byte(n)})
		for _, s := range []string{"\"" + one + "\"", "\"\\" + one + "\"", "\"a\\" + one + "b\"", "\"" + one + "a" + one + "\""} {
			got, ok := Unquote(s)
			want, is := modelUnquote(s)
			if got != want || ok != is {
				t.Errorf("Unquote(%q): %q, %v", s, got, ok)
			}
		}
	}
}

// P2.5.
func TestUnquoteOfQuote(t *testing.T) {
	back := func(s string) {
		got, ok := Unquote(Quote(s))
		if Visible(s) && (!ok || got != s) || !Visible(s) && (ok || got != "") {
			t.Errorf("of %q: %q, %v", s, got, ok)
		}
	}
	sample.Texts(append(pairSigns, listSigns...), 4, back)
	for n := range 256 {
		back("a" + string([]byte{byte(n)}) + "\"")
	}
	for _, s := range oddTexts {
		back(s)
		back("\\" + s + "\"")
	}
}

// P2.4.
func TestPair(t *testing.T) {
	for s, want := range map[string][2]string{
		"a": {"a", ""}, "No-Store": {"no-store", ""}, "Max-Age=5": {"max-age", "5"}, "A=B": {"a", "B"}, "x=\"\"": {"x", ""},
		"X=\"A, b\"": {"x", "A, b"}, "x=\"\\a\"": {"x", "a"}, "x=\"a=b\"": {"x", "a=b"}, "x=\"\\\"\"": {"x", "\""}, "x=\"é\xff\"": {"x", "é\xff"},
	} {
		if n, v, ok := Pair(s); !ok || n != want[0] || v != want[1] {
			t.Errorf("Pair(%q): %q, %q, %v, want %q", s, n, v, ok, want)
		}
	}
	for _, s := range []string{
		" ", "=", "=a", "a=", "x =1", "x= 1", " x=1", "x=1 ", "a b", "a=b c", "a=b=c", "a==b", "a=\"", "a=\"b", "a=b\"", "a=\"b\"c", "a=\"b\" ",
		"a=\"\\\"", "a=\"\r\"", "\"a\"", "\"a\"=b", "=\"a\"", "é", "é=a", "a=é", "a=\xff", "a;b", "a,b", "a=\x00", "a\r=b",
	} {
		if n, v, ok := Pair(s); ok || n != "" || v != "" {
			t.Errorf("Pair(%q): %q, %q, %v", s, n, v, ok)
		}
	}
}

func TestPairAndUnquoteAsModel(t *testing.T) {
	sample.Texts(pairSigns, 6, func(s string) {
		got, ok := Unquote(s)
		if want, is := modelUnquote(s); got != want || ok != is {
			t.Errorf("Unquote(%q): %q, %v", s, got, ok)
		}
		n, v, ok := Pair(s)
		if name, value, is := modelPair(s); n != name || v != value || ok != is {
			t.Errorf("Pair(%q): %q, %q, %v", s, n, v, ok)
		}
	})
}

// Long texts have no limit here.
func TestLong(t *testing.T) {
	long := strings.Repeat("aB", 1<<16)
	if !Token(long) || Token(long+",") || !Visible(long) || Visible(long+"\x7f") || !Same(long, strings.ToUpper(long)) {
		t.Error("a long token")
	}
	if n, v, ok := Pair(long + "=" + Quote(long+"\"")); !ok || n != strings.ToLower(long) || v != long+"\"" {
		t.Error("a long pair")
	}
	if l := List(strings.Repeat(" \"a,\" , ,", 1<<15)); len(l) != 1<<15 || l[1<<15-1] != "\"a,\"" {
		t.Errorf("%d elements", len(l))
	}
	if l := List("\"" + strings.Repeat("\\\",", 1<<15)); len(l) != 1 {
		t.Errorf("%d elements of one quoted part", len(l))
	}
}

// R3: what is answered has none of an argument's memory, and no two elements have one another's.
func TestNewMemory(t *testing.T) {
	share := func(a, b string) bool {
		x, y := uintptr(unsafe.Pointer(unsafe.StringData(a))), uintptr(unsafe.Pointer(unsafe.StringData(b)))
		return x < y+uintptr(len(b)) && y < x+uintptr(len(a))
	}
	s := strings.Repeat("abc", 20)
	pair := s + "=" + s
	quoted := "\"" + s + "\""
	_, value, _ := Pair(pair)
	said, _ := Unquote(quoted)
	name, _, _ := Pair(s)
	if share(pair, value) || share(quoted, said) || share(s, name) || share(s, Trim(s)) || share(s, Lower(s)) || share(s, Quote(s)) {
		t.Error("an answer shares the argument's memory")
	}
	list := s + "," + s
	if l := List(list); len(l) != 2 || share(list, l[0]) || share(list, l[1]) || share(l[0], l[1]) {
		t.Error("List")
	}
}
