package sample

import (
	"slices"
	"strings"
	"testing"

	"tollhouse/api"
)

func TestTexts(t *testing.T) {
	var all []string
	Texts([]string{"a", "bc"}, 2, func(s string) { all = append(all, s) })
	slices.Sort(all)
	if want := []string{"", "a", "aa", "abc", "bc", "bca", "bcbc"}; !slices.Equal(all, want) {
		t.Errorf("%q", all)
	}
}

func TestRows(t *testing.T) {
	var all []string
	Rows([]string{"a", "bc"}, 2, func(row []string) { all = append(all, strings.Join(row, "+")) })
	slices.Sort(all)
	if want := []string{"", "a", "a+a", "a+bc", "bc", "bc+a", "bc+bc"}; !slices.Equal(all, want) {
		t.Errorf("%q", all)
	}
}

func TestAnywhere(t *testing.T) {
	count, seen := 0, map[string]bool{}
	Anywhere("ab", func(s string) {
		count++
		seen[s] = true
	})
	if count != 5*256+2 { // 3 places for one more, 2 for another one, and 2 texts with one less
		t.Error(count)
	}
	for _, s := range []string{"xab", "axb", "abx", "xb", "ax", "b", "a", "\x00ab", "ab\xff", "\xffb", "a\x00"} {
		if !seen[s] {
			t.Errorf("%q", s)
		}
	}
}

func TestShown(t *testing.T) {
	if s := Shown("a\n"); s != `"a\n"` {
		t.Error(s)
	}
	if s := Shown(strings.Repeat("a", 41) + strings.Repeat("b", 40)); s != `"`+strings.Repeat("a", 40)+`" .. "`+strings.Repeat("b", 40)+`" (81)` {
		t.Error(s)
	}
}

func TestCased(t *testing.T) {
	for s, want := range map[string][]string{
		"":               {"", "", ""},
		"a":              {"a", "A", "A"},
		"x-Yz":           {"x-yz", "X-YZ", "X-Yz"},
		"@AZ[`az{\xe9é9": {"@az[`az{\xe9é9", "@AZ[`AZ{\xe9é9", "@aZ[`aZ{\xe9é9"},
	} {
		if all := Cased(s); !slices.Equal(all, want) {
			t.Errorf("%q: %q", s, all)
		}
	}
}

func TestFields(t *testing.T) {
	if l := Fields(); len(l) != 0 {
		t.Errorf("%q", l)
	}
	want := []api.Field{{Name: "A", Value: "b"}, {Name: "c", Value: " d: e"}, {Name: "f"}, {Name: "g"}, {Value: "h"}, {}}
	if l := Fields("A:b", "c: d: e", "f:", "g", ":h", ""); !slices.Equal(l, want) {
		t.Errorf("%q", l)
	}
}

func TestShownFields(t *testing.T) {
	if s := ShownFields(nil); s != "" {
		t.Error(s)
	}
	if s := ShownFields(Fields("a:b", "c:"+strings.Repeat("d", 81))); s != `"a": "b"; "c": `+Shown(strings.Repeat("d", 81))+"; " {
		t.Error(s)
	}
	l := Fields(slices.Repeat([]string{"a:b"}, 13)...)
	if s := ShownFields(l); s != strings.Repeat(`"a": "b"; `, 12)+".." || ShownFields(l[1:]) != strings.TrimSuffix(s, "..") {
		t.Error(s)
	}
}
