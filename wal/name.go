package wal

import (
	"slices"
	"strconv"
	"strings"
)

const (
	// prefix is what a segment's name begins with.
	prefix = "wal."
	// digits are those of a segment's number at most.
	digits = 14
	// greatest is the last number of that many digits.
	greatest = 99999999999999
)

// name is that of the segment with the number n.
func name(n int) string { return prefix + strconv.Itoa(n) }

// numbers are those of the segments among the files, rising: a name that comes first may have the greater number.
func numbers(files []string) []int {
	var all []int
	for _, file := range files {
		if n, ok := number(file); ok {
			all = append(all, n)
		}
	}
	slices.Sort(all)
	return all
}

// number is that of a segment, and whether the file is one.
func number(file string) (int, bool) {
	text, ok := strings.CutPrefix(file, prefix)
	if !ok || len(text) < 1 || len(text) > digits {
		return 0, false
	}
	if text[0] == '0' && len(text) > 1 {
		return 0, false
	}
	n := 0
	for at := range len(text) {
		if text[at] < '0' || text[at] > '9' {
			return 0, false
		}
		n = 10*n + int(text[at]-'0')
	}
	return n, true
}
