package walog

import (
	"wavewright/api"
	"wavewright/value"
)

// Bytes of a frame ahead of its record: how many that has, and its sum.
const (
	countBytes = 2
	sumBytes   = 4
	headBytes  = countBytes + sumBytes
)

// framed: a record with its head.
func framed(s string) string { return head(s) + s }

// head of a record's frame.
func head(s string) string {
	return lowFirst(uint32(len(s)), countBytes) + lowFirst(uint32(value.Sum(s)), sumBytes)
}

// first record of the bytes, if it is whole.
func first(data string) (string, bool) {
	if len(data) < headBytes {
		return "", false
	}
	count := int(data[0]) | int(data[1])<<8
	if count > api.MaxRecord || count > len(data)-headBytes {
		return "", false
	}
	s := data[headBytes : headBytes+count]
	if data[:headBytes] != head(s) {
		return "", false
	}
	return s, true
}

// lowFirst: a number in so many bytes, the lowest first.
func lowFirst(n uint32, bytes int) string {
	b := make([]byte, bytes)
	for i := range b {
		b[i] = byte(n >> (8 * i))
	}
	return string(b)
}
