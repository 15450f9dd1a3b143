package digest

import "math/big"

// startWords is H of the document, roundWords its K. Both are filled by init and only read after it.
var (
	startWords [8]uint32
	roundWords [64]uint32
)

func init() {
	for i, prime := range firstPrimes(len(roundWords)) {
		if i < len(startWords) {
			startWords[i] = rootBits(prime, 2)
		}
		roundWords[i] = rootBits(prime, 3)
	}
}

// firstPrimes lists the first primes, the smallest first.
func firstPrimes(count int) []int64 {
	var primes []int64
	for n := int64(2); len(primes) < count; n++ {
		if !hasDivisor(n, primes) {
			primes = append(primes, n)
		}
	}
	return primes
}

// hasDivisor tells whether one of the primes divides n.
func hasDivisor(n int64, primes []int64) bool {
	for _, prime := range primes {
		if n%prime == 0 {
			return true
		}
	}
	return false
}

// rootBits tells the first 32 bits behind the point of a prime's square root (degree 2) or cube root (degree 3).
//
// The root of prime * 2^(32*degree) is the prime's root moved up by 32 bits, so that its whole part ends with the bits asked for and no fraction is needed.
func rootBits(prime int64, degree uint) uint32 {
	// No root here is as great as 8, so that with the 32 bits behind the point it has at most 35.
	const topBit = 34
	target := new(big.Int).Lsh(big.NewInt(prime), 32*degree)
	root := int64(0)
	for bit := topBit; bit >= 0; bit-- {
		candidate := root | 1<<bit
		if power(candidate, degree).Cmp(target) <= 0 {
			root = candidate
		}
	}
	return uint32(root)
}

// power multiplies base with itself, as a number that may be longer than 64 bits.
func power(base int64, degree uint) *big.Int {
	product := big.NewInt(1)
	for range degree {
		product.Mul(product, big.NewInt(base))
	}
	return product
}
