package spring_test

import (
	"bytes"
	"crypto/hmac"
	"crypto/sha256"
	"encoding/hex"
	"slices"
	"strings"
	"testing"

	"spring/api"
	"spring/spring"
)

// edgeLengths: where the filling-up goes on to one more 64 bytes (56, 120, ...), where a block or a key is full, and the bound.
var edgeLengths = []int{0, 1, 54, 55, 56, 57, 63, 64, 65, 119, 120, 127, 128, 129, 183, 184, 191, 192, 247, 248, 255, 256, 299, 300}

// tooLong: one byte more than MaxData, a block more, and far more.
var tooLong = []int{api.MaxData + 1, api.MaxData + 64, 1 << 20}

// pattern makes bytes of all values (no text in UTF-8), of which no two blocks are alike.
func pattern(length int) string {
	out := make([]byte, length)
	for i := range out {
		out[i] = byte(255 - i*i - 5*i - i/64)
	}
	return string(out)
}

func wantSum(data string) string {
	sum := sha256.Sum256([]byte(data))
	return string(sum[:])
}

func wantMac(key string, data string) string {
	h := hmac.New(sha256.New, []byte(key))
	h.Write([]byte(data))
	return string(h.Sum(nil))
}

// mustAdd adds and fails the test unless the piece is taken.
func mustAdd(t *testing.T, s *spring.Summer, data string) {
	t.Helper()
	if e := s.Add([]byte(data)); e != api.OK {
		t.Errorf("P4: Add of %d bytes: %d", len(data), e)
	}
}

// holds fails the test unless the summer's sum is that of data.
func holds(t *testing.T, s *spring.Summer, data string) {
	t.Helper()
	if got, want := s.Sum(), wantSum(data); got != want {
		t.Errorf("P4: Sum() of %d bytes: %x, want %x", len(data), got, want)
	}
}

func TestP3PublishedSums(t *testing.T) {
	for data, want := range map[string]string{
		"":    "e3b0c44298fc1c149afbf4c8996fb92427ae41e4649b934ca495991b7852b855",
		"abc": "ba7816bf8f01cfea414140de5dae2223b00361a396177a9cb410ff61f20015ad",
		"abcdbcdecdefdefgefghfghighijhijkijkljklmklmnlmnomnopnopq": "248d6a61d20638b8e5c026930c3e6039a33ce45964ff2167f6ecedd419db06c1",
	} {
		got, e := spring.Sum(data)
		if hex.EncodeToString([]byte(got)) != want || e != api.OK {
			t.Errorf("P3: Sum(%q) = %x, %d, want %s", data, got, e, want)
		}
	}
}

func TestP3SumOfEveryLength(t *testing.T) {
	for length := range api.MaxData + 1 {
		for _, data := range []string{pattern(length), strings.Repeat("\x00", length), strings.Repeat("\xff", length)} {
			if got, e := spring.Sum(data); got != wantSum(data) || e != api.OK {
				t.Errorf("P3: Sum of %d bytes = %x, %d, want %x", length, got, e, wantSum(data))
			}
		}
	}
}

func TestP3SumRefusesTooLong(t *testing.T) {
	for _, length := range tooLong {
		if got, e := spring.Sum(pattern(length)); got != "" || e != api.ErrArg {
			t.Errorf("P3: Sum of %d bytes = %x, %d, want ErrArg alone", length, got, e)
		}
	}
}

// The published MACs of RFC 4231 that fit the bounds: its cases 1, 2, 3, 4, 6 and 7.
func TestP3PublishedMacs(t *testing.T) {
	for _, c := range [][3]string{
		{strings.Repeat("\x0b", 20), "Hi There", "b0344c61d8db38535ca8afceaf0bf12b881dc200c9833da726e9376c2e32cff7"},
		{"Jefe", "what do ya want for nothing?", "5bdcc146bf60754e6a042426089575c75a003f089d2739839dec58b964ec3843"},
		{strings.Repeat("\xaa", 20), strings.Repeat("\xdd", 50), "773ea91e36800e46854db8ebd09181a72959098b3ef8c122d9635514ced565fe"},
		{"\x01\x02\x03\x04\x05\x06\x07\x08\x09\x0a\x0b\x0c\x0d\x0e\x0f\x10\x11\x12\x13\x14\x15\x16\x17\x18\x19", strings.Repeat("\xcd", 50), "82558a389a443c0ea4cc819899f2083a85f0faa3e578f8077a2e3ff46729665b"},
		{strings.Repeat("\xaa", 131), "Test Using Larger Than Block-Size Key - Hash Key First", "60e431591ee0b67f0d8a26aacbf5b77f8e0bc6213728c5140546040f0ee37f54"},
		{strings.Repeat("\xaa", 131), "This is a test using a larger than block-size key and a larger than block-size data. The key needs to be hashed before being used by the HMAC algorithm.", "9b09ffa71b942fcb27635fbcd5b0e944bfdc63644f0713938a7f51535c3a35e2"},
	} {
		got, e := spring.Mac(c[0], c[1])
		if hex.EncodeToString([]byte(got)) != c[2] || e != api.OK {
			t.Errorf("P3: Mac(%q, %q) = %x, %d, want %s", c[0], c[1], got, e, c[2])
		}
	}
}

func TestP3MacAtEdges(t *testing.T) {
	for _, keyLength := range edgeLengths {
		for _, dataLength := range edgeLengths {
			key, data := pattern(keyLength), pattern(api.MaxData)[api.MaxData-dataLength:]
			if got, e := spring.Mac(key, data); got != wantMac(key, data) || e != api.OK {
				t.Errorf("P3: Mac, key of %d bytes, data of %d = %x, %d, want %x", keyLength, dataLength, got, e, wantMac(key, data))
			}
		}
	}
}

// A key of 64 bytes is taken as it is, one of 65 is its sum.
func TestP3MacKeysAroundABlock(t *testing.T) {
	long := pattern(65)
	ofLong, _ := spring.Mac(long, "data")
	ofItsSum, _ := spring.Mac(wantSum(long), "data")
	if ofLong != ofItsSum {
		t.Errorf("P3: Mac with a key of 65 bytes = %x, with its sum %x", ofLong, ofItsSum)
	}
	full := pattern(64)
	ofFull, _ := spring.Mac(full, "data")
	ofItsSum, _ = spring.Mac(wantSum(full), "data")
	if ofFull == ofItsSum {
		t.Errorf("P3: a key of 64 bytes was summed up")
	}
	short, _ := spring.Mac("key", "data")
	filled, _ := spring.Mac("key"+strings.Repeat("\x00", 61), "data")
	if short != filled {
		t.Errorf("P3: a short key is not filled up with bytes 0: %x, %x", short, filled)
	}
}

func TestP3MacRefusesTooLong(t *testing.T) {
	for _, length := range tooLong {
		long := pattern(length)
		for _, c := range [][2]string{{long, ""}, {"", long}, {long, "data"}, {"key", long}, {long, long}, {pattern(api.MaxData), long}, {long, pattern(api.MaxData)}} {
			if got, e := spring.Mac(c[0], c[1]); got != "" || e != api.ErrArg {
				t.Errorf("P3: Mac, key of %d bytes, data of %d = %x, %d, want ErrArg alone", len(c[0]), len(c[1]), got, e)
			}
		}
	}
}

func TestP4NewSummerHasNoBytes(t *testing.T) {
	holds(t, spring.NewSummer(), "")
	s := spring.NewSummer()
	mustAdd(t, s, "some bytes")
	holds(t, spring.NewSummer(), "")
}

func TestP4OnePieceOfEveryLength(t *testing.T) {
	for length := range api.MaxData + 1 {
		s := spring.NewSummer()
		mustAdd(t, s, pattern(length))
		holds(t, s, pattern(length))
	}
}

// Two pieces, cut at every place, are the whole; and a sum in between takes nothing away.
func TestP4TwoPieces(t *testing.T) {
	for _, length := range edgeLengths {
		whole := pattern(length)
		for cut := range length + 1 {
			s := spring.NewSummer()
			mustAdd(t, s, whole[:cut])
			if cut%2 == 0 {
				holds(t, s, whole[:cut])
			}
			mustAdd(t, s, whole[cut:])
			holds(t, s, whole)
		}
	}
}

func TestP4SumBetweenPiecesAndMoreThanOnce(t *testing.T) {
	s, all := spring.NewSummer(), ""
	for n := range 150 {
		holds(t, s, all)
		holds(t, s, all)
		piece := pattern(n % 7)
		mustAdd(t, s, piece)
		all += piece
		holds(t, s, all)
	}
}

func TestP4MoreThanMaxDataInPieces(t *testing.T) {
	s, all := spring.NewSummer(), ""
	for _, length := range []int{300, 1, 300, 300, 299, 0, 63, 65, 300} {
		mustAdd(t, s, pattern(length))
		all += pattern(length)
		holds(t, s, all)
	}
	many := spring.NewSummer()
	for range 400 {
		mustAdd(t, many, pattern(api.MaxData))
	}
	holds(t, many, strings.Repeat(pattern(api.MaxData), 400))
}

func TestP4EmptyPieces(t *testing.T) {
	s := spring.NewSummer()
	for _, piece := range [][]byte{nil, {}, []byte("abc"), nil, {}} {
		if e := s.Add(piece); e != api.OK {
			t.Errorf("P4: Add(%q): %d", piece, e)
		}
	}
	holds(t, s, "abc")
}

// What is refused changes nothing (P1): neither the sum at once, nor that of what comes after.
func TestP4RefusedPieceChangesNothing(t *testing.T) {
	for _, ahead := range edgeLengths {
		for _, length := range tooLong {
			s := spring.NewSummer()
			mustAdd(t, s, pattern(ahead))
			if e := s.Add([]byte(pattern(length))); e != api.ErrArg {
				t.Errorf("P4: Add of %d bytes: %d, want ErrArg", length, e)
			}
			holds(t, s, pattern(ahead))
			mustAdd(t, s, "behind")
			holds(t, s, pattern(ahead)+"behind")
		}
	}
}

// No text makes a call panic or answer both an error and a sum (P1).
func TestP1EveryCallEnds(t *testing.T) {
	for _, data := range []string{"", "\x00", "\xff\xfe", "\xc3", "\u00e9\u20ac\U0001f600", "\xed\xa0\x80", pattern(300), pattern(301), pattern(1 << 16)} {
		sum, e := spring.Sum(data)
		if (len(sum) == api.Length) != (e == api.OK) || (sum == "") != (e != api.OK) {
			t.Errorf("P1: Sum of %d bytes: %d bytes, %d", len(data), len(sum), e)
		}
		for _, key := range []string{"", "\x00", "\xff", pattern(64), pattern(65), pattern(300), pattern(301)} {
			mac, e := spring.Mac(key, data)
			if (len(mac) == api.Length) != (e == api.OK) || (mac == "") != (e != api.OK) {
				t.Errorf("P1: Mac, key of %d bytes, data of %d: %d bytes, %d", len(key), len(data), len(mac), e)
			}
		}
		s := spring.NewSummer()
		s.Add([]byte(data))
		if len(s.Sum()) != api.Length {
			t.Errorf("P1: Sum() behind Add of %d bytes: %d bytes", len(data), len(s.Sum()))
		}
	}
}

func TestP2ListsAreNotChanged(t *testing.T) {
	const spare = 100
	for _, length := range slices.Concat(edgeLengths, tooLong) {
		before := []byte(pattern(length + spare))
		list := bytes.Clone(before)
		s := spring.NewSummer()
		s.Add(list[:length])
		s.Sum()
		s.Add(list[:length])
		s.Sum()
		if !bytes.Equal(list, before) {
			t.Errorf("P2: Add changed a list of %d bytes or its spare room", length)
		}
	}
}

func TestP2ListsAreNotKept(t *testing.T) {
	for _, length := range edgeLengths {
		s := spring.NewSummer()
		list := []byte(pattern(length))
		if e := s.Add(list); e != api.OK {
			t.Errorf("P4: Add of %d bytes: %d", length, e)
		}
		clear(list)
		holds(t, s, pattern(length))
		copy(list, strings.Repeat("x", length))
		mustAdd(t, s, "behind")
		holds(t, s, pattern(length)+"behind")
	}
}

// Summers that are used by turns know nothing of each other, nor do Sum and Mac in between.
func TestP2SummersAreApart(t *testing.T) {
	x, y := spring.NewSummer(), spring.NewSummer()
	allX, allY := "", ""
	for n := range 70 {
		pieceX, pieceY := pattern(n), strings.Repeat("y", n%5)
		mustAdd(t, x, pieceX)
		mustAdd(t, y, pieceY)
		allX, allY = allX+pieceX, allY+pieceY
		if got, _ := spring.Sum(pieceX); got != wantSum(pieceX) {
			t.Errorf("P2: Sum between pieces: %x", got)
		}
		if got, _ := spring.Mac(pieceY, pieceX); got != wantMac(pieceY, pieceX) {
			t.Errorf("P2: Mac between pieces: %x", got)
		}
		holds(t, x, allX)
		holds(t, y, allY)
	}
}

// An answer stays as it was, whatever is asked after it, and the same question has the same answer.
func TestP2AnswersHangOnArgumentsAlone(t *testing.T) {
	s := spring.NewSummer()
	mustAdd(t, s, "abc")
	first := s.Sum()
	mustAdd(t, s, pattern(200))
	s.Sum()
	if first != wantSum("abc") {
		t.Errorf("P2: an answer was changed later: %x", first)
	}
	for range 3 {
		spring.Sum(pattern(301))
		spring.Mac(pattern(301), "")
		if got, e := spring.Sum("abc"); got != first || e != api.OK {
			t.Errorf("P2: Sum asked again: %x, %d", got, e)
		}
		if got, e := spring.Mac("abc", "abc"); got != wantMac("abc", "abc") || e != api.OK {
			t.Errorf("P2: Mac asked again: %x, %d", got, e)
		}
	}
}
