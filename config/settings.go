package config

import (
	"strconv"
	"strings"

	"seepage/api"
)

// settings returns the values of a text of settings. It panics if the text is none.
func settings(s string) values {
	v := valuesOf(Default())
	if s == "" {
		return v
	}
	var seen [count]bool
	for _, setting := range strings.Split(s, " ") {
		name, number, _ := strings.Cut(setting, "=")
		i := place(name)
		if i < 0 || seen[i] {
			panic(api.ErrForm)
		}
		seen[i] = true
		v[i] = value(number)
	}
	return v
}

// place returns the place of the field with a name, or -1.
func place(name string) int {
	for i, f := range fields {
		if f.name == name {
			return i
		}
	}
	return -1
}

// value returns the number of a setting. It panics if it does not have the form of one.
func value(number string) int64 {
	x, err := strconv.ParseInt(number, 10, 64)
	// What is written otherwise, with a sign or with leading zeros, is not valid.
	if err != nil || x < 0 || strconv.FormatInt(x, 10) != number {
		panic(api.ErrForm)
	}
	return x
}
