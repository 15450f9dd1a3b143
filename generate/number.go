package generate

// numberSize is how many bytes a number has; a sum beyond it wraps round.
const numberSize = 55

// number is one from 0 to 2^440 - 1, the highest byte first.
type number [numberSize]byte

// add adds a number of at most as many bytes, the highest first too.
func (v *number) add(other []byte) {
	carry := 0
	for i := range numberSize {
		sum := int(v[numberSize-1-i]) + carry
		if i < len(other) {
			sum += int(other[len(other)-1-i])
		}
		v[numberSize-1-i] = byte(sum)
		carry = sum >> 8
	}
}

// addSmall adds a number of 64 bits.
func (v *number) addSmall(n uint64) {
	var other [8]byte
	for i := range other {
		other[i] = byte(n >> (56 - 8*i))
	}
	v.add(other[:])
}
