// Package sample makes what tests try, and shows it. It is no layer; no layer calls it.
package sample

import (
	"slices"
	"strconv"
	"strings"

	"tollhouse/api"
)

// Texts calls f with each text of at most most of these parts.
func Texts(parts []string, most int, f func(string)) {
	Rows(parts, most, func(row []string) { f(strings.Join(row, "")) })
}

// Rows calls f with each row of at most most of these items.
func Rows[T any](items []T, most int, f func([]T)) {
	f(nil)
	if most <= 0 {
		return
	}
	for _, item := range items {
		Rows(items, most-1, func(row []T) { f(append([]T{item}, row...)) })
	}
}

// Anywhere calls f with s with each byte laid at each place, in another one's stead too, and with a byte less.
func Anywhere(s string, f func(string)) {
	for at := range len(s) + 1 {
		for n := range 256 {
			one := string([]byte{byte(n)})
			f(s[:at] + one + s[at:])
			if at < len(s) {
				f(s[:at] + one + s[at+1:])
			}
		}
		if at < len(s) {
			f(s[:at] + s[at+1:])
		}
	}
}

// Cased is s with small letters, with capital ones, and with both.
func Cased(s string) []string {
	small, large := []byte(s), []byte(s)
	for i, c := range []byte(s) {
		if 'A' <= c && c <= 'Z' {
			small[i] = c - 'A' + 'a'
		}
		if 'a' <= c && c <= 'z' {
			large[i] = c - 'a' + 'A'
		}
	}
	mixed := slices.Clone(small)
	for i := 0; i < len(mixed); i += 2 {
		mixed[i] = large[i]
	}
	return []string{string(small), string(large), string(mixed)}
}

// Fields is a list by its lines; each is parted at its first ':', and the Value begins right behind it.
func Fields(lines ...string) []api.Field {
	var l []api.Field
	for _, line := range lines {
		name, value, _ := strings.Cut(line, ":")
		l = append(l, api.Field{Name: name, Value: value})
	}
	return l
}

// ShownFields is l, short enough to be read.
func ShownFields(l []api.Field) string {
	s := ""
	for _, f := range l[:min(len(l), 12)] {
		s += Shown(f.Name) + ": " + Shown(f.Value) + "; "
	}
	if len(l) > 12 {
		s += ".."
	}
	return s
}

// Shown is s, quoted, and short enough to be read.
func Shown(s string) string {
	if len(s) > 80 {
		return strconv.Quote(s[:40]) + " .. " + strconv.Quote(s[len(s)-40:]) + " (" + strconv.Itoa(len(s)) + ")"
	}
	return strconv.Quote(s)
}
