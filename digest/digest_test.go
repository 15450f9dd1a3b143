package digest

import (
	"crypto/hmac"
	"crypto/sha256"
	"slices"
	"testing"

	"spring/api"
)

// pattern makes bytes of which no two blocks are alike.
func pattern(length int) []byte {
	out := make([]byte, length)
	for i := range out {
		out[i] = byte(i*i + 7*i + i/64)
	}
	return out
}

func wantMac(key []byte, data []byte) [api.Length]byte {
	h := hmac.New(sha256.New, key)
	h.Write(data)
	return [api.Length]byte(h.Sum(nil))
}

// The words as FIPS 180-4 prints them, in 5.3.3 and 4.2.2.
func TestWordsArePublishedOnes(t *testing.T) {
	wantStart := [8]uint32{
		0x6a09e667, 0xbb67ae85, 0x3c6ef372, 0xa54ff53a, 0x510e527f, 0x9b05688c, 0x1f83d9ab, 0x5be0cd19,
	}
	wantRound := [64]uint32{
		0x428a2f98, 0x71374491, 0xb5c0fbcf, 0xe9b5dba5, 0x3956c25b, 0x59f111f1, 0x923f82a4, 0xab1c5ed5,
		0xd807aa98, 0x12835b01, 0x243185be, 0x550c7dc3, 0x72be5d74, 0x80deb1fe, 0x9bdc06a7, 0xc19bf174,
		0xe49b69c1, 0xefbe4786, 0x0fc19dc6, 0x240ca1cc, 0x2de92c6f, 0x4a7484aa, 0x5cb0a9dc, 0x76f988da,
		0x983e5152, 0xa831c66d, 0xb00327c8, 0xbf597fc7, 0xc6e00bf3, 0xd5a79147, 0x06ca6351, 0x14292967,
		0x27b70a85, 0x2e1b2138, 0x4d2c6dfc, 0x53380d13, 0x650a7354, 0x766a0abb, 0x81c2c92e, 0x92722c85,
		0xa2bfe8a1, 0xa81a664b, 0xc24b8b70, 0xc76c51a3, 0xd192e819, 0xd6990624, 0xf40e3585, 0x106aa070,
		0x19a4c116, 0x1e376c08, 0x2748774c, 0x34b0bcb5, 0x391c0cb3, 0x4ed8aa4a, 0x5b9cca4f, 0x682e6ff3,
		0x748f82ee, 0x78a5636f, 0x84c87814, 0x8cc70208, 0x90befffa, 0xa4506ceb, 0xbef9a3f7, 0xc67178f2,
	}
	if startWords != wantStart {
		t.Errorf("H: %08x, want %08x", startWords, wantStart)
	}
	if roundWords != wantRound {
		t.Errorf("K: %08x, want %08x", roundWords, wantRound)
	}
}

// The words that the sums take are those that init worked out: all of H and all of K.
func TestTablesAreWordsOutOfPrimes(t *testing.T) {
	start, round := FromPrimes()
	if start != startWords || round != roundWords {
		t.Errorf("FromPrimes: %08x, %08x, want %08x, %08x", start, round, startWords, roundWords)
	}
	for i, word := range startTable() {
		if word != start[i] {
			t.Errorf("H, word %d: %08x in the table, %08x out of the primes", i, word, start[i])
		}
	}
	for i, word := range roundTable() {
		if word != round[i] {
			t.Errorf("K, word %d: %08x in the table, %08x out of the primes", i, word, round[i])
		}
	}
}

// The sums take the tables: with the variables emptied they answer as ever.
func TestSumsDoNotReadVariables(t *testing.T) {
	start, round := FromPrimes()
	defer func() { startWords, roundWords = start, round }()
	startWords, roundWords = [8]uint32{}, [64]uint32{}
	data := pattern(100)
	if got, want := Sum(data), sha256.Sum256(data); got != want {
		t.Errorf("Sum: %x, want %x", got, want)
	}
	if got, want := Mac(data, data), wantMac(data, data); got != want {
		t.Errorf("Mac: %x, want %x", got, want)
	}
}

// FromPrimes reads the variables, not the tables once more.
func TestFromPrimesReadsVariables(t *testing.T) {
	start, round := FromPrimes()
	defer func() { startWords, roundWords = start, round }()
	startWords[7]++
	roundWords[63]++
	gotStart, gotRound := FromPrimes()
	if gotStart != startWords || gotRound != roundWords {
		t.Errorf("FromPrimes: %08x, %08x, want %08x, %08x", gotStart, gotRound, startWords, roundWords)
	}
}

func TestFirstPrimes(t *testing.T) {
	if got := firstPrimes(8); !slices.Equal(got, []int64{2, 3, 5, 7, 11, 13, 17, 19}) {
		t.Errorf("the first eight primes: %d", got)
	}
	if got := firstPrimes(64); len(got) != 64 || got[63] != 311 {
		t.Errorf("the first 64 primes: %d", got)
	}
}

func TestSumOfEveryLength(t *testing.T) {
	for length := range 700 {
		data := pattern(length)
		if got, want := Sum(data), sha256.Sum256(data); got != want {
			t.Errorf("Sum of %d bytes: %x, want %x", length, got, want)
		}
	}
}

// One of 2^29 bytes and more has a length in bits that goes beyond 32 bits: all 8 bytes of the length count.
func TestSumTellsLengthInEightBytes(t *testing.T) {
	s := New()
	s.count = 1 << 40
	want := New()
	var last [blockSize]byte
	last[0] = 128
	last[blockSize-6] = 8 // 8 * 2^40 is 8 * 256^5
	want.words = mix(want.words, last)
	if got := s.Sum(); got != toBytes(want.words) {
		t.Errorf("Sum at 2^40 bytes: %x, want %x", got, toBytes(want.words))
	}
}

func TestMacOfEveryKeyLength(t *testing.T) {
	for length := range 301 {
		key, data := pattern(length), pattern(300-length)
		if got, want := Mac(key, data), wantMac(key, data); got != want {
			t.Errorf("Mac, key of %d bytes: %x, want %x", length, got, want)
		}
	}
}

func TestStateIsAValue(t *testing.T) {
	s := New()
	s.Add(pattern(100))
	other := s
	other.Add(pattern(100))
	if got, want := s.Sum(), sha256.Sum256(pattern(100)); got != want {
		t.Errorf("a copy's bytes came into the first one: %x, want %x", got, want)
	}
}
