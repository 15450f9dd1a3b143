// Package digest: sums of bytes, and sums with a key, of any length.
package digest

import (
	"math/bits"

	"spring/api"
)

// blockSize is how many bytes are worked into the words at once.
const blockSize = 64

// State is a sum under way. It keeps the bytes of the unfinished block alone: those ahead of them live on in the words.
type State struct {
	words [8]uint32
	block [blockSize]byte
	count uint64 // of all bytes so far
}

// New makes a sum that has no bytes.
func New() State {
	return State{words: startTable()}
}

// Add puts bytes behind those that the sum has.
func (s *State) Add(data []byte) {
	for _, b := range data {
		s.addByte(b)
	}
}

func (s *State) addByte(b byte) {
	s.block[s.count%blockSize] = b
	s.count++
	if s.count%blockSize == 0 {
		s.words = mix(s.words, s.block)
	}
}

// Sum tells the sum of all bytes so far. The filling-up goes into a copy, so that more bytes may come.
func (s *State) Sum() [api.Length]byte {
	const lengthSize = 8
	filled := *s
	filled.addByte(128)
	for filled.count%blockSize != blockSize-lengthSize {
		filled.addByte(0)
	}
	bitCount := 8 * s.count
	for shift := 8 * (lengthSize - 1); shift >= 0; shift -= 8 {
		filled.addByte(byte(bitCount >> shift))
	}
	return toBytes(filled.words)
}

// Sum tells the sum of some bytes.
func Sum(data []byte) [api.Length]byte {
	s := New()
	s.Add(data)
	return s.Sum()
}

// mix works one block into the words.
func mix(words [8]uint32, block [blockSize]byte) [8]uint32 {
	a, b, c, d := words[0], words[1], words[2], words[3]
	e, f, g, h := words[4], words[5], words[6], words[7]
	k := roundTable()
	for t, w := range spread(block) {
		t1 := h + (turn(e, 6) ^ turn(e, 11) ^ turn(e, 25)) + (e&f | ^e&g) + k[t] + w
		t2 := (turn(a, 2) ^ turn(a, 13) ^ turn(a, 22)) + (a&b | a&c | b&c)
		h, g, f, e, d, c, b, a = g, f, e, d+t1, c, b, a, t1+t2
	}
	for i, word := range [8]uint32{a, b, c, d, e, f, g, h} {
		words[i] += word
	}
	return words
}

// spread makes of the 16 words of a block the 64 that the rounds take.
func spread(block [blockSize]byte) [64]uint32 {
	var w [64]uint32
	for i, b := range block {
		w[i/4] = w[i/4]<<8 | uint32(b)
	}
	for t := 16; t < len(w); t++ {
		s0 := turn(w[t-15], 7) ^ turn(w[t-15], 18) ^ w[t-15]>>3
		s1 := turn(w[t-2], 17) ^ turn(w[t-2], 19) ^ w[t-2]>>10
		w[t] = w[t-16] + s0 + w[t-7] + s1
	}
	return w
}

// turn rotates a word by n places down: the document counts that way, the library the other.
func turn(word uint32, n int) uint32 {
	return bits.RotateLeft32(word, -n)
}

// toBytes writes words out, of each the highest byte first.
func toBytes(words [8]uint32) [api.Length]byte {
	var out [api.Length]byte
	for i := range out {
		out[i] = byte(words[i/4] >> (24 - 8*(i%4)))
	}
	return out
}
