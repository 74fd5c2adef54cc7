// Package sample makes what tests try, and shows it. It is no layer; no layer calls it.
package sample

import (
	"strconv"
	"strings"
)

// Texts calls f with each text of at most most of these parts.
func Texts(parts []string, most int, f func(string)) {
	Rows(parts, most, func(row []string) { f(strings.Join(row, "")) })
}

// Rows calls f with each row of at most most of these items.
func Rows[T any](items []T, most int, f func([]T)) {
	f(nil)
	if most <= 0 {
		return
	}
	for _, item := range items {
		Rows(items, most-1, func(row []T) { f(append([]T{item}, row...)) })
	}
}

// Anywhere calls f with s with each byte laid at each place, in another one's stead too, and with a byte less.
func Anywhere(s string, f func(string)) {
	for at := range len(s) + 1 {
		for n := range 256 {
			one := string([]byte{byte(n)})
			f(s[:at] + one + s[at:])
			if at < len(s) {
				f(s[:at] + one + s[at+1:])
			}
		}
		if at < len(s) {
			f(s[:at] + s[at+1:])
		}
	}
}

// Shown is s, quoted, and short enough to be read.
func Shown(s string) string {
	if len(s) > 80 {
		return strconv.Quote(s[:40]) + " .. " + strconv.Quote(s[len(s)-40:]) + " (" + strconv.Itoa(len(s)) + ")"
	}
	return strconv.Quote(s)
}
