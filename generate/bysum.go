package generate

import (
	"slices"

	"spring/api"
	"spring/digest"
)

// sumGenerator is the kind BySum: V and C of the document.
type sumGenerator struct {
	value    number
	constant number
}

func (s *sumGenerator) Seed(seed []byte) {
	s.begin(seed)
}

func (s *sumGenerator) Reseed(fresh []byte) {
	s.begin(slices.Concat([]byte{1}, s.value[:], fresh))
}

func (s *sumGenerator) Read(n int, extra []byte, rounds uint64) []byte {
	if len(extra) > 0 {
		s.value.add(s.marked(2, extra))
	}
	out := s.draw(n)
	s.value.add(s.marked(3, nil))
	s.value.add(s.constant[:])
	s.value.addSmall(rounds)
	return out
}

// begin makes V of some bytes, and C of V.
func (s *sumGenerator) begin(data []byte) {
	s.value = stretch(data)
	s.constant = stretch(slices.Concat([]byte{0}, s.value[:]))
}

// draw makes n bytes of V, which stays as it is: what counts up is a copy.
func (s *sumGenerator) draw(n int) []byte {
	out := make([]byte, n)
	counter := s.value
	for at := 0; at < n; at += api.Length {
		sum := digest.Sum(counter[:])
		copy(out[at:], sum[:])
		counter.addSmall(1)
	}
	return out
}

// marked tells the sum of a byte, V and some bytes: the byte keeps the uses of V apart.
func (s *sumGenerator) marked(mark byte, data []byte) []byte {
	sum := digest.Sum(slices.Concat([]byte{mark}, s.value[:], data))
	return sum[:]
}

// stretch makes a number of some bytes. Ahead of them stand the part's number and, in four bytes, 440: how many bits are made.
func stretch(data []byte) number {
	var out number
	at := 0
	for part := byte(1); at < len(out); part++ {
		sum := digest.Sum(slices.Concat([]byte{part, 0, 0, 1, 184}, data))
		at += copy(out[at:], sum[:])
	}
	return out
}
