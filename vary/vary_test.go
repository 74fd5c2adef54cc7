package vary

import (
	"math/rand"
	"regexp"
	"slices"
	"strconv"
	"strings"
	"testing"
	"unsafe"

	"tollhouse/api"
	"tollhouse/sample"
)

// What these tests try, and show, is made as other layers' tests make it.
var (
	cased  = sample.Cased
	fields = sample.Fields
	shown  = sample.ShownFields
)

// The model below says what elements and names are by regular expressions, and looks for what was met in lists.
var (
	capitals = regexp.MustCompile(`[A-Z]`)
	partForm = regexp.MustCompile(`(?:"(?:\\(?s:.)|[^"\\])*(?:"|\\?\z)|[^,"])+`)
)

func small(s string) string { return capitals.ReplaceAllStringFunc(s, strings.ToLower) }

// modelValues is the Values of l's fields of that name.
func modelValues(name string, l []api.Field) []string {
	var values []string
	for _, f := range l {
		if small(f.Name) == small(name) {
			values = append(values, f.Value)
		}
	}
	return values
}

func modelNames(l []api.Field) ([]string, bool) {
	var names []string
	star := false
	for _, value := range modelValues("vary", l) {
		for _, part := range partForm.FindAllString(value, -1) {
			name := small(strings.Trim(part, "\x20\x09"))
			star = star || name == "*"
			if name != "" && name != "*" && !slices.Contains(names, name) {
				names = append(names, name)
			}
		}
	}
	return names, star
}

func modelSelect(names []string, l []api.Field) []api.Field {
	var wanted []api.Field
	for _, name := range names {
		for i, value := range modelValues(name, l) {
			if i == 0 {
				wanted = append(wanted, api.Field{Name: name, Value: value})
			} else {
				wanted[len(wanted)-1].Value += ", " + value
			}
		}
	}
	return wanted
}

// modelSame lays down each list as one text, with how long each part of it is.
func modelSame(a, b []api.Field) bool {
	laid := func(l []api.Field) string {
		s := ""
		for _, f := range l {
			s += strconv.Itoa(len(f.Name)) + ":" + f.Name + strconv.Itoa(len(f.Value)) + ":" + f.Value
		}
		return s
	}
	return laid(a) == laid(b)
}

// modelAlike says of two requests what P16.4 says.
func modelAlike(names []string, a, b []api.Field) bool {
	for _, name := range names {
		x, y := modelValues(name, a), modelValues(name, b)
		if len(x) == 0 != (len(y) == 0) || strings.Join(x, ", ") != strings.Join(y, ", ") {
			return false
		}
	}
	return true
}

// each is a list with each of these names in a field vary of its own.
func each(names []string) []api.Field {
	var l []api.Field
	for _, name := range names {
		l = append(l, api.Field{Name: "Vary", Value: name})
	}
	return l
}

// tells checks what Names tells of a list, and what follows of it (P16.5).
func tells(t *testing.T, l []api.Field, star bool, want ...string) {
	t.Helper()
	names, is := Names(l)
	if !slices.Equal(names, want) || is != star {
		t.Errorf("Names(%s): %q, %v; want %q, %v", shown(l), names, is, want, star)
	}
	for i, name := range names {
		if name == "" || name == "*" || capitals.MatchString(name) || slices.Contains(names[:i], name) {
			t.Errorf("Names(%s): %q", shown(l), names)
		}
	}
	if again, is := Names(each(names)); !slices.Equal(again, names) || is {
		t.Errorf("Names(%s): %q; each in a field of its own: %q, %v", shown(l), names, again, is)
	}
}

// varies checks Names with one field vary, and with the list's other fields around it.
func varies(t *testing.T, value string, star bool, want ...string) {
	t.Helper()
	for _, name := range cased("vary") {
		tells(t, fields(name+":"+value), star, want...)
		tells(t, fields("X:a", name+":"+value, "Varying:b", ":*"), star, want...)
	}
}

func tellsAsModel(t *testing.T, l []api.Field) {
	t.Helper()
	names, star := modelNames(l)
	tells(t, l, star, names...)
}

func selects(t *testing.T, names []string, l []api.Field, want ...api.Field) {
	t.Helper()
	for _, wanted := range [][]api.Field{Select(names, l), modelSelect(names, l)} {
		if !slices.Equal(wanted, want) {
			t.Errorf("Select(%q; %s): %s; want %s", names, shown(l), shown(wanted), shown(want))
		}
	}
}

func selectsAsModel(t *testing.T, names []string, l []api.Field) {
	t.Helper()
	selects(t, names, l, modelSelect(names, l)...)
}

// same checks Same both ways round, and that each list is the same as itself.
func same(t *testing.T, a, b []api.Field, want bool) {
	t.Helper()
	if Same(a, b) != want || Same(b, a) != want || modelSame(a, b) != want {
		t.Errorf("Same(%s | %s): %v, %v, by the model %v; want %v", shown(a), shown(b), Same(a, b), Same(b, a), modelSame(a, b), want)
	}
	for _, l := range [][]api.Field{a, b} {
		if !Same(l, l) || !Same(l, slices.Clone(l)) {
			t.Errorf("Same(%s) with itself: false", shown(l))
		}
	}
}

// alike checks whether two requests want the same by these names.
func alike(t *testing.T, names []string, a, b []api.Field, want bool) {
	t.Helper()
	if Same(Select(names, a), Select(names, b)) != want || modelAlike(names, a, b) != want {
		t.Errorf("by %q, the same is wanted by %s | %s: %v, by the model %v; want %v", names, shown(a), shown(b), !want, modelAlike(names, a, b), want)
	}
}

func alikeAsModel(t *testing.T, names []string, a, b []api.Field) {
	t.Helper()
	alike(t, names, a, b, modelAlike(names, a, b))
}

// notTokens are elements that no field's name can be; but names they are.
var notTokens = []string{
	"x y", "a:b", "**", "* *", "*;", "a*", "*a", `"*"`, `"*`, `"a, b"`, `"a\", b"`, `"a, b`, `"\`, `"`, `""`, `\`, `\"a, b"`, `a"b,"`, `"*, *"`, "/", "(a)", "a=b", "a;q=1", "[a]", "@", "é", "\u212a", "\u017f", "\xff", "a\x00b", "\n", "a\r\nb", "\v", "\u00a0", "\u00a0*", "*\u00a0", "\x85*", "*\n", "*\x00", "\x7f",
}

// P16.1 to P16.3: the chapter's examples.
func TestExamples(t *testing.T) {
	tells(t, fields("Vary:Accept, accept-LANGUAGE", "vary:accept, *"), true, "accept", "accept-language")
	selects(t, []string{"accept", "x"}, fields("Accept:a", "X-Y:1", "ACCEPT:b"), fields("accept:a, b")...)
	same(t, fields("a:1"), fields("a:1"), true)
	same(t, fields("a:1"), nil, false)
	same(t, fields("a:"), nil, false)
}

// P16.1: no field vary, one, several.
func TestNames(t *testing.T) {
	tells(t, nil, false)
	tells(t, []api.Field{}, false)
	tells(t, []api.Field{{}}, false)
	tells(t, fields("Accept:a", "vary :b", " vary:c", "Varys:d", "var:e", "ary:f", ":g", "vary,:h", "v\u00e1ry:i", "*:j", "Var\x00y:k", "X-Vary:*", "Connection:vary"), false)
	varies(t, "", false)
	for _, value := range []string{" ", "\t", ",", ", ,\t,", " \t , "} {
		varies(t, value, false)
	}
	for _, s := range cased("accept-encoding") {
		for _, value := range []string{s, " " + s + "\t", "," + s + ", ", s + "," + s, s + ", ACCEPT-encodinG\t,, " + s} {
			varies(t, value, false, "accept-encoding")
		}
	}
	varies(t, "Accept,Cookie, accept-language", false, "accept", "cookie", "accept-language")
	varies(t, "!#$%&'*+-.^_`|~09AZaz", false, "!#$%&'*+-.^_`|~09azaz")
	varies(t, "ABCDEFGHIJKLMNOPQRSTUVWXYZ, [\\]^_, @", false, "abcdefghijklmnopqrstuvwxyz", "[\\]^_", "@")
	tells(t, fields("Vary:a", "X:b", "vary:c", "VARY:", "vARY:, d"), false, "a", "c", "d")
	tells(t, fields("Vary:", "Vary: ", "vary:,"), false)
	varies(t, "vary, VARY", false, "vary") // a name as others are
}

// P16.1: each name once, in the order in which it is met first.
func TestNamesOnce(t *testing.T) {
	varies(t, "b, a, B, c, A, b, d", false, "b", "a", "c", "d")
	tells(t, fields("Vary:b, a", "vary:A, c, B", "VARY:d, C, b"), false, "b", "a", "c", "d")
	tells(t, fields("Vary:z", "Vary:Y", "Vary:x", "Vary:y", "Vary:Z"), false, "z", "y", "x")
	tells(t, fields("Vary:a", "Vary:A", "Vary:a"), false, "a")
	for _, a := range slices.Concat(notTokens, []string{"x", "Accept", "X-y"}) {
		for _, s := range cased(a) {
			tells(t, fields("Vary:"+s, "vary:"+a), false, small(a))
			tells(t, fields("Vary:b", "vary:"+a, "vary:"+s, "vary:B"), false, "b", small(a))
		}
	}
	varies(t, "k, \u212a, s, \u017f, K, S", false, "k", "\u212a", "s", "\u017f") // capital letters are A to Z alone
	varies(t, "\xe9, \xc9, \xff, \xfe, é, É", false, "\xe9", "\xc9", "\xff", "\xfe", "é", "É")
	varies(t, "a, aa, a a, a  a, a\ta", false, "a", "aa", "a a", "a  a", "a\ta")
	varies(t, `x, "x", "X", 'x'`, false, "x", `"x"`, "'x'")
}

// P16.1: a star is no name, wherever it stands.
func TestNamesStar(t *testing.T) {
	for _, value := range []string{"*", " *\t", "*,*", ",*,", "*, *, *"} {
		varies(t, value, true)
	}
	for _, value := range []string{"*, a, B", "a, *, B", "a, B, *", "*,a,*,b,*", "A, *, a, *, b"} {
		varies(t, value, true, "a", "b")
	}
	tells(t, fields("Vary:a", "vary:*"), true, "a")
	tells(t, fields("Vary:*", "vary:a"), true, "a")
	tells(t, fields("Vary:*", "vary:"), true)
	tells(t, fields("Vary:", "vary:*", "Vary:B, a", "vary:b"), true, "b", "a")
	tells(t, fields("Vary:a", "X:*", "*:*", "vary :*"), false, "a")
}

// P16.1: elements that are no tokens are names.
func TestNamesNotTokens(t *testing.T) {
	for _, s := range notTokens {
		varies(t, s, false, small(s))
		varies(t, "*, a, "+s, true, "a", small(s))
		tells(t, fields("Vary:a", "vary: "+s+"\t", "vary:*"), true, "a", small(s))
	}
	tells(t, fields(`Vary:"a, b" , c`, `vary:"\", d`, `vary:e, "f`, "vary:g"), false, `"a, b"`, "c", `"\", d`, "e", `"f`, "g") // a quoted part ends with its field
	tells(t, fields(`Vary:"*, *`, "vary:*"), true, `"*, *`)
}

// P16.1: each byte at each place.
func TestNamesBytes(t *testing.T) {
	for _, s := range []string{"a, *", "Ab,aB", `"*", b`, "*"} {
		sample.Anywhere(s, func(s string) { tellsAsModel(t, fields("Vary:"+s)) })
	}
	sample.Anywhere("vary", func(s string) {
		tellsAsModel(t, []api.Field{{Name: s, Value: "a, *"}, {Name: "Vary", Value: "b"}})
	})
}

// P16.1, P16.5: all short texts, and all short rows of fields, that matter.
func TestNamesShort(t *testing.T) {
	sample.Texts([]string{"a", "A", "b", "*", ",", " ", "\"", "\\"}, 5, func(s string) { tellsAsModel(t, fields("Vary:"+s)) })
	sample.Rows(fields("Vary:a", "vary:B, A", "VARY:*", "vary:", "vary:b,*,c", "X:d", "Varys:*", "vary:\"a, *", "vary:a"), 4, func(l []api.Field) { tellsAsModel(t, l) })
}

// P16.2: no name, one, several; of which the request has no field, one, several.
func TestSelect(t *testing.T) {
	l := fields("Accept:a", "X:", "ACCEPT:b, c", "Y:1", "accept:", "Y-Z:2")
	for _, names := range [][]string{nil, {}, {"z"}, {""}, {" "}, {"accep"}, {"accept "}, {"*"}, {"accept, x"}, {"acce\u0440t"}} {
		selects(t, names, l)
		selects(t, names, nil)
		selects(t, names, []api.Field{})
	}
	for _, s := range cased("accept") {
		selects(t, []string{s}, l, api.Field{Name: s, Value: "a, b, c, "})
		selects(t, []string{s}, fields("X:a"))
		for _, name := range cased("accept") {
			selects(t, []string{s}, fields(name+":q"), api.Field{Name: s, Value: "q"})
		}
	}
	selects(t, []string{"y", "z", "x"}, l, fields("y:1", "x:")...)
	selects(t, []string{"x", "y"}, l, fields("x:", "y:1")...) // in the names' order
	selects(t, []string{"y", "x"}, l, fields("y:1", "x:")...)
	selects(t, []string{"y-z", "accept", "y"}, l, fields("y-z:2", "accept:a, b, c, ", "y:1")...)
}

// P16.2: a name that stands twice is told twice, as it stands.
func TestSelectTwice(t *testing.T) {
	l := fields("A:1", "b:2", "a:3")
	selects(t, []string{"a", "a"}, l, fields("a:1, 3", "a:1, 3")...)
	selects(t, []string{"A", "b", "a"}, l, fields("A:1, 3", "b:2", "a:1, 3")...)
	selects(t, []string{"B", "b", "B", "c", "B"}, l, fields("B:2", "b:2", "B:2", "B:2")...)
	selects(t, []string{"c", "C", "c"}, l)
	selects(t, slices.Repeat([]string{"b"}, 100), l, slices.Repeat(fields("b:2"), 100)...)
}

// P16.2: Values are put together as they stand, empty ones too.
func TestSelectValues(t *testing.T) {
	for _, x := range []struct {
		want   string
		values []string
	}{
		{"", []string{""}}, {", ", []string{"", ""}}, {", , ", []string{"", "", ""}}, {"a, ", []string{"a", ""}}, {", a", []string{"", "a"}}, {"a, a", []string{"a", "a"}},
		{"a, b, c", []string{"a", "b", "c"}}, {"a, b, c", []string{"a, b", "c"}}, {"a, b, c", []string{"a", "b, c"}}, {"a, b, c", []string{"a, b, c"}}, {"a,b, c", []string{"a,b", "c"}},
		{" a ,  b ", []string{" a ", " b "}}, {"\ta\t, b", []string{"\ta\t", "b"}}, {"A, a", []string{"A", "a"}}, {"\"a, b\"", []string{"\"a", "b\""}}, {",, ,", []string{",", ","}},
		{"\xff, \x00", []string{"\xff", "\x00"}}, {"é, \n", []string{"é", "\n"}}, {"c, b, a", []string{"c", "b", "a"}}, {"*", []string{"*"}},
	} {
		var l []api.Field
		for i, value := range x.values {
			l = append(l, api.Field{Name: cased("field")[i%3], Value: value}, api.Field{Name: "other", Value: value})
		}
		for _, name := range cased("field") {
			selects(t, []string{name}, l, api.Field{Name: name, Value: x.want})
			selects(t, []string{"none", name, "other"}, l, api.Field{Name: name, Value: x.want}, api.Field{Name: "other", Value: x.want})
		}
	}
}

// P16.2, R1: names that no field of a message has are compared as all others are.
func TestSelectAny(t *testing.T) {
	for _, s := range slices.Concat(notTokens, []string{"", " ", "\t", "*", "a,b", ", ", " a", "a "}) {
		for _, name := range cased(s) {
			selects(t, []string{name, "z"}, []api.Field{{Name: "a", Value: "1"}, {Name: s, Value: "2"}, {Name: small(s), Value: "3"}}, api.Field{Name: name, Value: "2, 3"})
		}
	}
	selects(t, []string{"", "a"}, []api.Field{{}, {Name: "a"}, {Value: "b"}}, api.Field{Value: ", b"}, api.Field{Name: "a"})
	selects(t, []string{"\xff", "\xfe", "\ufffd"}, []api.Field{{Name: "\xfe", Value: "1"}, {Name: "\ufffd", Value: "2"}}, api.Field{Name: "\xfe", Value: "1"}, api.Field{Name: "\ufffd", Value: "2"}) // wrong bytes are no one name
	selects(t, []string{"k", "s"}, fields("\u212a:1", "\u017f:2"))
	for _, s := range []string{"a", "Ab", "x-Y"} {
		sample.Anywhere(s, func(other string) {
			l := []api.Field{{Name: other, Value: "1"}, {Name: "q", Value: "2"}, {Name: s, Value: "3"}, {Name: other, Value: "4"}}
			selectsAsModel(t, []string{s, other, "Q"}, l)
		})
	}
}

// P16.2: all short rows of names, of all short rows of fields, that matter.
func TestSelectShort(t *testing.T) {
	sample.Rows([]string{"a", "A", "b", "", "*"}, 3, func(names []string) {
		sample.Rows(fields("a:1", "A:", "b:2, 3", "B:4", ":5", "c:6"), 3, func(l []api.Field) { selectsAsModel(t, names, l) })
	})
}

// P16.3: as many fields, and one by one the same Name and Value.
func TestSame(t *testing.T) {
	for _, none := range [][]api.Field{nil, {}, make([]api.Field, 0, 4)} {
		same(t, none, nil, true)
		same(t, none, []api.Field{}, true)
		for _, l := range [][]api.Field{{{}}, fields("a:1"), fields("a:"), fields(":1"), fields("a:1", "b:2")} {
			same(t, none, l, false)
		}
	}
	l := fields("a:1", "b:2", "c:3")
	same(t, l, fields("a:1", "b:2", "c:3"), true)
	for size := range len(l) {
		same(t, l, l[:size], false)
		same(t, l, l[size+1:], false)
		same(t, l, slices.Concat(l, l[:size+1]), false)
		for _, other := range fields("A:1", "B:2", "C:3", "a:2", "b:", ":3", "a:1 ", "a :1", ":", "d:1", "1:a", "a1:", ":a1") {
			changed := slices.Clone(l)
			changed[size] = other
			same(t, l, changed, false)
		}
		for at := range len(l) {
			changed := slices.Clone(l)
			changed[size], changed[at] = changed[at], changed[size] // the order counts
			same(t, l, changed, size == at)
		}
	}
	same(t, fields("a:b", "c:d"), fields("a:c", "b:d"), false)
	same(t, fields("ab:c"), fields("a:bc"), false)
	same(t, fields("a:1", "a:2"), fields("a:1, 2"), false)
	same(t, fields("a:1", "a:1"), fields("a:1"), false)
	same(t, fields("a:x"), fields("a:X"), false)
	same(t, fields("\xff:\xff"), fields("\xfe:\xff"), false)
	same(t, fields("a:\xff"), fields("a:\ufffd"), false)
}

// P16.3: each byte at each place of a Name, and of a Value.
func TestSameBytes(t *testing.T) {
	for _, s := range []string{"", "a", "Accept", "a\x00b"} {
		l := []api.Field{{Name: "b", Value: "1"}, {Name: s, Value: s}}
		sample.Anywhere(s, func(other string) {
			same(t, l, []api.Field{{Name: "b", Value: "1"}, {Name: other, Value: s}}, other == s)
			same(t, l, []api.Field{{Name: "b", Value: "1"}, {Name: s, Value: other}}, other == s)
		})
	}
}

// P16.3: all short lists that matter.
func TestSameShort(t *testing.T) {
	var all [][]api.Field
	sample.Rows(fields("a:", "A:", "a:1", ":a", ":", "b:a"), 3, func(l []api.Field) { all = append(all, slices.Clone(l)) })
	for i, a := range all {
		for j, b := range all[:i+1] {
			if Same(a, b) != (i == j) || Same(b, a) != (i == j) {
				t.Errorf("Same(%s | %s): %v, %v", shown(a), shown(b), Same(a, b), Same(b, a))
			}
		}
	}
}

// P16.4: of each of the names both have fields or neither, and the values, put together, are the same.
func TestAlike(t *testing.T) {
	names, _ := Names(fields("Vary:Accept, X, accept", "vary:Cookie"))
	request := fields("Host:h", "Accept:a", "Cookie:1", "Accept:b", "Via:v")
	for _, other := range [][]api.Field{
		request,
		fields("Accept:a", "Accept:b", "Cookie:1"), fields("Cookie:1", "Accept:a", "Accept:b"), fields("Accept:a", "Accept:b", "Z:5", "Cookie:1", "Host:i"), // other names, and the order among those of other names
		fields("ACCEPT:a", "cOOKIE:1", "accept:b"),                           // capital letters of names
		fields("Accept:a, b", "Cookie:1"), fields("Cookie:1", "aCCEPT:a, b"), // put together already
	} {
		alike(t, names, request, other, true)
		alike(t, names, other, request, true)
	}
	for _, other := range [][]api.Field{
		nil, {}, fields("Host:h", "Via:v"), fields("Accept:a", "Accept:b"), fields("Cookie:1"), // one has none
		fields("Accept:b", "Accept:a", "Cookie:1"), fields("Accept:b, a", "Cookie:1"), // the order within a name
		fields("Accept:A, b", "Cookie:1"), fields("Accept:a,b", "Cookie:1"), fields("Accept:a,  b", "Cookie:1"), fields("Accept:a, b ", "Cookie:1"), // values byte by byte
		fields("Accept:a, b", "Cookie:1", "X:"), fields("Accept:a, b", "Cookie:1", "x:2"), fields("Accept:a, b", "Cookie:1", "cookie:"), fields("Accept:a, b", "Accept:", "Cookie:1"), fields("Accept:", "Accept:a, b", "Cookie:1"), // one has more
		fields("Accept:1", "Cookie:a, b"), fields("Accept:a", "Cookie:b, 1"), // another name's
	} {
		alike(t, names, request, other, false)
		alike(t, names, other, request, false)
	}
	alike(t, nil, request, nil, true)
	alike(t, []string{"x", "z"}, request, nil, true)
	alike(t, names, fields("Accept:"), nil, false) // an empty Value is not no field
	alike(t, names, fields("Accept:", "Accept:"), fields("Accept:, "), true)
	alike(t, names, fields("Accept:", "Accept:"), fields("Accept:,"), false)
}

// P16.4: all pairs of short rows of fields, by names that were told.
func TestAlikeShort(t *testing.T) {
	var all [][]api.Field
	sample.Rows(fields("a:1", "A:2", "a:1, 2", "b:", "B:1", "c:1", "C:3"), 3, func(l []api.Field) { all = append(all, slices.Clone(l)) })
	for _, vary := range []string{"a", "A, B", "b, *, a", "d, b"} {
		names, _ := Names(fields("Vary:" + vary))
		for i, a := range all {
			for _, b := range all[:i+1] {
				if Same(Select(names, a), Select(names, b)) != modelAlike(names, a, b) {
					t.Errorf("by %q: %s | %s", names, shown(a), shown(b))
				}
			}
		}
	}
}

// lots calls f with rows of names and two lists of fields by lot, though the same ones in each run.
func lots(seed int64, count int, f func(lot *rand.Rand, names []string, a, b []api.Field)) {
	lot := rand.New(rand.NewSource(seed))
	some := slices.Concat([]string{"accept", "x", "x-y", "cookie", "vary", "", "*", "a"}, notTokens[:8])
	name := func() string { return cased(some[min(lot.Intn(2*len(some)), lot.Intn(len(some)))])[lot.Intn(3)] }
	list := func() []api.Field {
		var l []api.Field
		for range lot.Intn(12) {
			f := api.Field{Name: name()}
			for n := range lot.Intn(4) {
				f.Value += []string{",", ", ", ",\t"}[min(n, lot.Intn(3))] + name()
			}
			l = append(l, f)
		}
		return l
	}
	for range count {
		var names []string
		for range lot.Intn(5) {
			names = append(names, name())
		}
		a := list()
		b := slices.Clone(a) // near to a, or of its own
		for range lot.Intn(3) {
			b = slices.Insert(b, lot.Intn(len(b)+1), api.Field{Name: name(), Value: name()})
		}
		if lot.Intn(4) == 0 {
			b = list()
		}
		f(lot, names, a, b)
	}
}

// P16.1 to P16.5: by lot.
func TestLots(t *testing.T) {
	told := map[bool]int{}
	lots(16, 20000, func(_ *rand.Rand, names []string, a, b []api.Field) {
		tellsAsModel(t, a)
		selectsAsModel(t, names, a)
		same(t, a, b, modelSame(a, b))
		own, _ := Names(a)
		for _, by := range [][]string{names, own} {
			selectsAsModel(t, by, b)
			alikeAsModel(t, by, a, b)
			told[modelAlike(by, a, b)]++
		}
	})
	if told[true] < 2000 || told[false] < 2000 {
		t.Error(told)
	}
}

// P16.4: fields of other names, the order among those of other names, and capital letters of names do not matter.
func TestLotsApart(t *testing.T) {
	lots(164, 5000, func(lot *rand.Rand, names []string, a, _ []api.Field) {
		wanted := Select(names, a)
		isOther := func(f api.Field) bool {
			return !slices.ContainsFunc(names, func(name string) bool { return small(name) == small(f.Name) })
		}
		mixed := slices.DeleteFunc(slices.Clone(a), isOther)
		slices.SortStableFunc(mixed, func(x, y api.Field) int { return strings.Compare(small(x.Name), small(y.Name)) })
		for i := range mixed {
			mixed[i].Name = cased(mixed[i].Name)[lot.Intn(3)]
		}
		for range lot.Intn(4) {
			if f := (api.Field{Name: "other" + strconv.Itoa(lot.Intn(3)), Value: "1"}); isOther(f) {
				mixed = slices.Insert(mixed, lot.Intn(len(mixed)+1), f)
			}
		}
		if !Same(Select(names, mixed), wanted) {
			t.Errorf("by %q: %s | %s", names, shown(a), shown(mixed))
		}
	})
}

// R1: long values, many fields and many names.
func TestLong(t *testing.T) {
	const n = 1 << 16
	for _, part := range []string{"x", "x,", ",", " ", "\"", "\\", "\"\\", "é", "\xff", "*", "*,", "A, a,"} {
		long := strings.Repeat(part, n)
		tellsAsModel(t, fields("Vary:"+long))
		selects(t, []string{long, "Z"}, []api.Field{{Name: long, Value: long}, {Name: "z", Value: long}, {Name: long}}, api.Field{Name: long, Value: long + ", "}, api.Field{Name: "Z", Value: long})
		same(t, []api.Field{{Name: long, Value: long}}, []api.Field{{Name: long, Value: long + " "}}, false)
	}
	var names []string
	var request, want []api.Field
	for i := range n {
		names = append(names, "n"+strconv.Itoa(i))
		request = append(request, api.Field{Name: "N" + strconv.Itoa(n-1-i), Value: strconv.Itoa(i)})
		want = append(want, api.Field{Name: "n" + strconv.Itoa(i), Value: strconv.Itoa(n - 1 - i)})
	}
	for _, l := range [][]api.Field{fields("Vary:" + strings.Join(names, ",")), each(names), slices.Repeat(each(names), 2)} {
		if told, star := Names(l); !slices.Equal(told, names) || star {
			t.Errorf("%d names; %v", len(told), star)
		}
	}
	if wanted := Select(names, request); !slices.Equal(wanted, want) {
		t.Errorf("%d fields", len(wanted))
	}
	one := api.Field{Name: "n", Value: "v" + strings.Repeat(", v", n-1)}
	if wanted := Select([]string{"n", "N"}, slices.Repeat(fields("N:v"), n)); !Same(wanted, []api.Field{one, {Name: "N", Value: one.Value}}) {
		t.Errorf("%s", shown(wanted))
	}
}

// R3: what is handed in stays as it is, room behind it too.
func TestOnlyRead(t *testing.T) {
	made := func() []api.Field { return fields("Vary:B, a", "A:1", "vary:*, A", "B:2", "a:3") }
	l := append(make([]api.Field, 0, 16), made()...)
	names := append(make([]string, 0, 16), "B", "a", "B", "c")
	for range 2 {
		told, _ := Names(l)
		clear(told[:cap(told)])
		wanted := Select(names, l)
		same(t, wanted, fields("B:2", "a:1, 3", "B:2"), true)
		same(t, l, wanted, false)
		clear(wanted[:cap(wanted)])
	}
	if !slices.Equal(l, made()) || slices.ContainsFunc(l[len(l):cap(l)], func(f api.Field) bool { return f != api.Field{} }) {
		t.Errorf("%s", shown(l[:cap(l)]))
	}
	if !slices.Equal(names, []string{"B", "a", "B", "c"}) || slices.ContainsFunc(names[len(names):cap(names)], func(s string) bool { return s != "" }) {
		t.Errorf("%q", names[:cap(names)])
	}
}

// R3: what is answered is new memory, and no two texts of it are of one.
func TestNewMemory(t *testing.T) {
	share := func(a, b string) bool {
		x, y := uintptr(unsafe.Pointer(unsafe.StringData(a))), uintptr(unsafe.Pointer(unsafe.StringData(b)))
		return x < y+uintptr(len(b)) && y < x+uintptr(len(a))
	}
	made := strings.Clone // constants may stand in one place
	l := []api.Field{{Name: made("vary"), Value: made("aa, bb, cc-dd")}, {Name: made("aa"), Value: made("11")}, {Name: made("bb"), Value: made("22")}, {Name: made("BB"), Value: made("33")}, {Name: made("vary"), Value: made("ee")}}
	names := []string{made("aa"), made("bb"), made("aa"), made("vary")}
	var given, told []string
	for _, f := range l {
		given = append(given, f.Name, f.Value)
	}
	told, _ = Names(l)
	for _, f := range Select(names, l) {
		told = append(told, f.Name, f.Value)
	}
	if len(told) != 4+8 {
		t.Errorf("%q", told)
	}
	for i, s := range told {
		if slices.ContainsFunc(append(given, names...), func(other string) bool { return share(s, other) }) {
			t.Errorf("%q is of what was handed in", s)
		}
		if slices.ContainsFunc(told[:i], func(other string) bool { return share(s, other) }) {
			t.Errorf("%q is of what was told ahead of it", s)
		}
	}
}
