package digest

import "math/big"

// startWords is H of the document, roundWords its K. Both are filled by init and only read after it, by FromPrimes alone: the sums take startTable and roundTable, so that no answer hangs on a variable.
var (
	startWords [8]uint32
	roundWords [64]uint32
)

func init() {
	for i, prime := range firstPrimes(len(roundWords)) {
		if i < len(startWords) {
			startWords[i] = rootBits(prime, 2)
		}
		roundWords[i] = rootBits(prime, 3)
	}
}

// FromPrimes tells H and K as they were worked out of the primes at the start, for whoever wants to hold the tables against them.
func FromPrimes() (start [8]uint32, round [64]uint32) {
	return startWords, roundWords
}

// startTable tells H, as startWords has it.
func startTable() [8]uint32 {
	return [8]uint32{
		0x6a09e667, 0xbb67ae85, 0x3c6ef372, 0xa54ff53a, 0x510e527f, 0x9b05688c, 0x1f83d9ab, 0x5be0cd19,
	}
}

// roundTable tells K, as roundWords has it.
func roundTable() [64]uint32 {
	return [64]uint32{
		0x428a2f98, 0x71374491, 0xb5c0fbcf, 0xe9b5dba5, 0x3956c25b, 0x59f111f1, 0x923f82a4, 0xab1c5ed5,
		0xd807aa98, 0x12835b01, 0x243185be, 0x550c7dc3, 0x72be5d74, 0x80deb1fe, 0x9bdc06a7, 0xc19bf174,
		0xe49b69c1, 0xefbe4786, 0x0fc19dc6, 0x240ca1cc, 0x2de92c6f, 0x4a7484aa, 0x5cb0a9dc, 0x76f988da,
		0x983e5152, 0xa831c66d, 0xb00327c8, 0xbf597fc7, 0xc6e00bf3, 0xd5a79147, 0x06ca6351, 0x14292967,
		0x27b70a85, 0x2e1b2138, 0x4d2c6dfc, 0x53380d13, 0x650a7354, 0x766a0abb, 0x81c2c92e, 0x92722c85,
		0xa2bfe8a1, 0xa81a664b, 0xc24b8b70, 0xc76c51a3, 0xd192e819, 0xd6990624, 0xf40e3585, 0x106aa070,
		0x19a4c116, 0x1e376c08, 0x2748774c, 0x34b0bcb5, 0x391c0cb3, 0x4ed8aa4a, 0x5b9cca4f, 0x682e6ff3,
		0x748f82ee, 0x78a5636f, 0x84c87814, 0x8cc70208, 0x90befffa, 0xa4506ceb, 0xbef9a3f7, 0xc67178f2,
	}
}

// firstPrimes lists the first primes, the smallest first.
func firstPrimes(count int) []int64 {
	var primes []int64
	for n := int64(2); len(primes) < count; n++ {
		if !hasDivisor(n, primes) {
			primes = append(primes, n)
		}
	}
	return primes
}

// hasDivisor tells whether one of the primes divides n.
func hasDivisor(n int64, primes []int64) bool {
	for _, prime := range primes {
		if n%prime == 0 {
			return true
		}
	}
	return false
}

// rootBits tells the first 32 bits behind the point of a prime's square root (degree 2) or cube root (degree 3).
//
// The root of prime * 2^(32*degree) is the prime's root moved up by 32 bits, so that its whole part ends with the bits asked for and no fraction is needed.
func rootBits(prime int64, degree uint) uint32 {
	// No root here is as great as 8, so that with the 32 bits behind the point it has at most 35.
	const topBit = 34
	target := new(big.Int).Lsh(big.NewInt(prime), 32*degree)
	root := int64(0)
	for bit := topBit; bit >= 0; bit-- {
		candidate := root | 1<<bit
		if power(candidate, degree).Cmp(target) <= 0 {
			root = candidate
		}
	}
	return uint32(root)
}

// power multiplies base with itself, as a number that may be longer than 64 bits.
func power(base int64, degree uint) *big.Int {
	product := big.NewInt(1)
	for range degree {
		product.Mul(product, big.NewInt(base))
	}
	return product
}
