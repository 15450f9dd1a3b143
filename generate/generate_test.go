package generate

import (
	"bytes"
	"crypto/sha256"
	"math"
	"math/big"
	"strings"
	"testing"

	"spring/api"
)

func TestKindsAreThoseOfApi(t *testing.T) {
	if ByMac != api.ByMac || BySum != api.BySum {
		t.Errorf("kinds %d and %d, want %d and %d", ByMac, BySum, api.ByMac, api.BySum)
	}
}

func TestUnseeded(t *testing.T) {
	if _, ok := Unseeded(ByMac).(*macGenerator); !ok {
		t.Errorf("ByMac makes another kind")
	}
	if _, ok := Unseeded(BySum).(*sumGenerator); !ok {
		t.Errorf("BySum makes another kind")
	}
	for _, kind := range []Kind{0, -1, 3, 257, math.MaxInt, math.MinInt} {
		if Unseeded(kind) != nil {
			t.Errorf("%d is taken for a kind", kind)
		}
	}
}

func TestSeedLeavesNothingOfAnEarlierOne(t *testing.T) {
	for _, kind := range []Kind{ByMac, BySum} {
		used, fresh := Unseeded(kind), Unseeded(kind)
		used.Seed([]byte("another seed"))
		used.Read(40, []byte("extra"), 1)
		used.Seed([]byte("seed"))
		fresh.Seed([]byte("seed"))
		if got, want := used.Read(40, nil, 1), fresh.Read(40, nil, 1); !bytes.Equal(got, want) {
			t.Errorf("kind %d, seeded again: %x, want %x", kind, got, want)
		}
	}
}

// ofBig writes a number out, modulo 2^440.
func ofBig(n *big.Int) number {
	limit := new(big.Int).Lsh(big.NewInt(1), 440)
	var out number
	new(big.Int).Mod(n, limit).FillBytes(out[:])
	return out
}

// numbers: the smallest and the greatest, those where a carry runs through all bytes, and some between.
func numbers() []number {
	greatest := new(big.Int).Sub(new(big.Int).Lsh(big.NewInt(1), 440), big.NewInt(1))
	half := new(big.Int).Lsh(big.NewInt(1), 439)
	out := []number{{}, ofBig(greatest), ofBig(half), ofBig(new(big.Int).Sub(half, big.NewInt(1)))}
	for _, n := range []int64{1, 2, 255, 256, 65535, 1 << 62} {
		out = append(out, ofBig(big.NewInt(n)), ofBig(new(big.Int).Sub(greatest, big.NewInt(n))))
	}
	return append(out, stretch([]byte("x")), stretch([]byte("y")), stretch(nil))
}

func TestAddWrapsRound(t *testing.T) {
	for _, a := range numbers() {
		for _, b := range numbers() {
			for length := range numberSize + 1 {
				other := b[numberSize-length:]
				got := a
				got.add(other)
				want := ofBig(new(big.Int).Add(new(big.Int).SetBytes(a[:]), new(big.Int).SetBytes(other)))
				if got != want {
					t.Errorf("%x + %x = %x, want %x", a, other, got, want)
				}
			}
		}
	}
}

func TestAddSmallWrapsRound(t *testing.T) {
	for _, a := range numbers() {
		for _, n := range []uint64{0, 1, 8, 9, 255, 256, 1 << 32, 1<<63 - 1, 1 << 63, math.MaxUint64} {
			got := a
			got.addSmall(n)
			want := ofBig(new(big.Int).Add(new(big.Int).SetBytes(a[:]), new(big.Int).SetUint64(n)))
			if got != want {
				t.Errorf("%x + %d = %x, want %x", a, n, got, want)
			}
		}
	}
}

func TestAddLeavesTheOtherOne(t *testing.T) {
	other := bytes.Repeat([]byte{255}, numberSize)
	v := stretch(nil)
	v.add(other)
	if !bytes.Equal(other, bytes.Repeat([]byte{255}, numberSize)) {
		t.Errorf("the number that was added is now %x", other)
	}
}

// V, V + 1, V + 2 run from the greatest number on to 0 and 1.
func TestSumsOfVWrapRound(t *testing.T) {
	var greatest, one number
	copy(greatest[:], strings.Repeat("\xff", numberSize))
	one[numberSize-1] = 1
	first, second, third := sha256.Sum256(greatest[:]), sha256.Sum256(make([]byte, numberSize)), sha256.Sum256(one[:])
	want := bytes.Join([][]byte{first[:], second[:], third[:]}, nil)
	s := sumGenerator{value: greatest}
	if got := s.Read(96, nil, 1); !bytes.Equal(got, want) {
		t.Errorf("behind the greatest V come %x, want %x", got, want)
	}
}

// What is added to V after the bytes, and for extra ahead of them, goes beyond its top.
func TestReadBySumWrapsRound(t *testing.T) {
	for _, value := range numbers() {
		for _, constant := range numbers() {
			for _, extra := range []string{"", "extra"} {
				for _, rounds := range []uint64{1, 8} {
					checkReadBySum(t, value, constant, extra, rounds)
				}
			}
		}
	}
}

func checkReadBySum(t *testing.T, value number, constant number, extra string, rounds uint64) {
	t.Helper()
	want := value
	if extra != "" {
		sum := sha256.Sum256([]byte("\x02" + string(want[:]) + extra))
		want = ofBig(new(big.Int).Add(new(big.Int).SetBytes(want[:]), new(big.Int).SetBytes(sum[:])))
	}
	wantBytes := sha256.Sum256(want[:])
	sum := sha256.Sum256([]byte("\x03" + string(want[:])))
	total := new(big.Int).SetUint64(rounds)
	for _, part := range [][]byte{want[:], sum[:], constant[:]} {
		total.Add(total, new(big.Int).SetBytes(part))
	}
	s := sumGenerator{value: value, constant: constant}
	got := s.Read(api.Length, []byte(extra), rounds)
	if !bytes.Equal(got, wantBytes[:]) || s.value != ofBig(total) || s.constant != constant {
		t.Errorf("V %x, C %x, extra %q, rounds %d: %x, then V %x, C %x, want %x, V %x", value, constant, extra, rounds, got, s.value, s.constant, wantBytes, ofBig(total))
	}
}

func TestReadHasNoSpareRoom(t *testing.T) {
	for _, kind := range []Kind{ByMac, BySum} {
		g := Unseeded(kind)
		g.Seed([]byte("seed"))
		for n := range 100 {
			if out := g.Read(n, nil, 1); len(out) != n || cap(out) != n {
				t.Errorf("kind %d: Read of %d: %d bytes, room for %d", kind, n, len(out), cap(out))
			}
		}
	}
}
