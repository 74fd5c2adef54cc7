package sample

import (
	"slices"
	"strings"
	"testing"
)

func TestTexts(t *testing.T) {
	var all []string
	Texts([]string{"a", "bc"}, 2, func(s string) { all = append(all, s) })
	slices.Sort(all)
	if want := []string{"", "a", "aa", "abc", "bc", "bca", "bcbc"}; !slices.Equal(all, want) {
		t.Errorf("%q", all)
	}
}

func TestRows(t *testing.T) {
	var all []string
	Rows([]string{"a", "bc"}, 2, func(row []string) { all = append(all, strings.Join(row, "+")) })
	slices.Sort(all)
	if want := []string{"", "a", "a+a", "a+bc", "bc", "bc+a", "bc+bc"}; !slices.Equal(all, want) {
		t.Errorf("%q", all)
	}
}

func TestShown(t *testing.T) {
	if s := Shown("a\n"); s != `"a\n"` {
		t.Error(s)
	}
	if s := Shown(strings.Repeat("a", 41) + strings.Repeat("b", 40)); s != `"`+strings.Repeat("a", 40)+`" .. "`+strings.Repeat("b", 40)+`" (81)` {
		t.Error(s)
	}
}
