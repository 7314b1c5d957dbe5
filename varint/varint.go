// Package varint lays numbers as as many bytes as they need: seven bits a byte, the lowest first.
package varint

import (
	"iter"
	"math/bits"

	"crier/api"
)

const (
	more     = 0x80 // stands in each byte but the last one
	low      = 0x7f
	lastMost = 1 // ten bytes hold 70 bits: of the tenth one only the lowest bit is within 64
)

// Put answers n's bytes, as few as can be.
func Put(n uint64) []byte {
	b := make([]byte, 0, Size(n))
	for n >= more {
		b = append(b, byte(n)|more)
		n >>= 7
	}
	return append(b, byte(n))
}

// Size tells how many bytes Put needs for n.
func Size(n uint64) int {
	return (max(bits.Len64(n), 1) + 6) / 7
}

// Get reads the number that begins at a place of b, and tells the place behind it.
func Get(b []byte, at int) (uint64, int, api.Errno) {
	if at < 0 || at > len(b) {
		return 0, 0, api.ErrArg
	}
	var n uint64
	e := api.ErrShort
reading:
	for i, c := range from(b, at) {
		last := c < more
		switch {
		case i == api.MaxVarint-1 && c > lastMost:
			e = api.ErrLong
			break reading
		case last:
			return n | uint64(c)<<(7*i), at + i + 1, api.OK
		}
		n |= uint64(c&low) << (7 * i)
	}
	return 0, 0, e
}

// from yields b's bytes from a place on, each with how many stand ahead of it.
func from(b []byte, at int) iter.Seq2[int, byte] {
	return func(yield func(int, byte) bool) {
		for i, c := range b[at:] {
			if !yield(i, c) {
				return
			}
		}
	}
}

// Zig lays numbers with a sign so that those near nought stay small.
func Zig(n int64) uint64 {
	return uint64(n)<<1 ^ uint64(n>>63)
}

// Zag answers the number whose Zig is n.
func Zag(n uint64) int64 {
	return int64(n>>1) ^ -int64(n&1)
}
