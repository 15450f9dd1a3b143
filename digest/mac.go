package digest

import "spring/api"

// Mac tells the sum of some bytes with a key.
func Mac(key []byte, data []byte) [api.Length]byte {
	filled := fillKey(key)
	inner := sumBehind(filled, 54, data)
	return sumBehind(filled, 92, inner[:])
}

// fillKey brings a key to the length of a block.
func fillKey(key []byte) [blockSize]byte {
	var filled [blockSize]byte
	if len(key) > blockSize {
		sum := Sum(key)
		copy(filled[:], sum[:])
	} else {
		copy(filled[:], key)
	}
	return filled
}

// sumBehind tells the sum of a key, each byte exclusive-or'd with mask, and the data behind it.
func sumBehind(key [blockSize]byte, mask byte, data []byte) [api.Length]byte {
	s := New()
	for _, b := range key {
		s.addByte(b ^ mask)
	}
	s.Add(data)
	return s.Sum()
}
