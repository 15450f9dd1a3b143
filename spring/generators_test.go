package spring_test

import (
	"bytes"
	"encoding/hex"
	"math"
	"math/big"
	"strings"
	"testing"

	"spring/api"
	"spring/spring"
)

const seed = "0123456789abcdef" // as short as entropy may be

var kinds = []int{api.ByMac, api.BySum}

// wrongKinds: what is no kind, one beside each that is one, and such as become one if bits are cut off.
var wrongKinds = []int{0, -1, -2, 3, 4, 257, 258, math.MaxInt, math.MinInt, math.MinInt + 1, math.MinInt + 2}

// wrongNumbers: how many bytes may not be asked for.
var wrongNumbers = []int{-1, -200, api.MaxRead + 1, 256, 257, math.MaxInt, math.MinInt, math.MinInt + 1}

// readLengths: where one more sum is needed, the bounds, and one within each.
var readLengths = []int{0, 1, 31, 32, 33, 63, 64, 65, 96, 97, 160, 161, 199, 200}

// model is a generator as the document tells it, with the sums of Go's library and great numbers: what the program's are held against.
type model struct {
	kind    int
	k, v    string   // of ByMac
	value   *big.Int // of BySum
	c       *big.Int
	rounds  int
	carries int // how often a number of BySum went beyond its top
}

func newModel(kind int, entropy string, nonce string, name string) *model {
	m := &model{kind: kind, k: strings.Repeat("\x00", 32), v: strings.Repeat("\x01", 32), rounds: 1}
	if kind == api.ByMac {
		m.stir(entropy + nonce + name)
	} else {
		m.begin(entropy + nonce + name)
	}
	return m
}

func (m *model) stir(data string) {
	m.k = wantMac(m.k, m.v+"\x00"+data)
	m.v = wantMac(m.k, m.v)
	if data != "" {
		m.k = wantMac(m.k, m.v+"\x01"+data)
		m.v = wantMac(m.k, m.v)
	}
}

func (m *model) begin(data string) {
	m.value = wantStretched(data)
	m.c = wantStretched("\x00" + asText(m.value))
}

func wantStretched(data string) *big.Int {
	both := wantSum("\x01\x00\x00\x01\xb8"+data) + wantSum("\x02\x00\x00\x01\xb8"+data)
	return asNumber(both[:55])
}

func asNumber(text string) *big.Int { return new(big.Int).SetBytes([]byte(text)) }

func asText(n *big.Int) string { return string(n.FillBytes(make([]byte, 55))) }

// add adds modulo 2^440.
func (m *model) add(a *big.Int, b *big.Int) *big.Int {
	limit := new(big.Int).Lsh(big.NewInt(1), 440)
	sum := new(big.Int).Add(a, b)
	if sum.Cmp(limit) >= 0 {
		m.carries++
	}
	return sum.Mod(sum, limit)
}

func (m *model) reseed(entropy string, extra string) {
	if m.kind == api.ByMac {
		m.stir(entropy + extra)
	} else {
		m.begin("\x01" + asText(m.value) + entropy + extra)
	}
	m.rounds = 1
}

func (m *model) read(n int, extra string) string {
	out := ""
	if m.kind == api.ByMac {
		out = m.readByMac(n, extra)
	} else {
		out = m.readBySum(n, extra)
	}
	m.rounds++
	return out[:n]
}

func (m *model) readByMac(n int, extra string) string {
	if extra != "" {
		m.stir(extra)
	}
	out := ""
	for len(out) < n {
		m.v = wantMac(m.k, m.v)
		out += m.v
	}
	m.stir(extra)
	return out
}

func (m *model) readBySum(n int, extra string) string {
	if extra != "" {
		m.value = m.add(m.value, asNumber(wantSum("\x02"+asText(m.value)+extra)))
	}
	out := ""
	for i := int64(0); len(out) < n; i++ {
		out += wantSum(asText(m.add(m.value, big.NewInt(i))))
	}
	mixed := asNumber(wantSum("\x03" + asText(m.value)))
	for _, more := range []*big.Int{mixed, m.c, big.NewInt(int64(m.rounds))} {
		m.value = m.add(m.value, more)
	}
	return out
}

// pair is a generator beside its model: whatever is asked of one is asked of the other.
type pair struct {
	source *spring.Source
	model  *model
}

func newPair(t *testing.T, kind int, entropy string, nonce string, name string) pair {
	t.Helper()
	s, e := spring.New(kind, entropy, nonce, name)
	if s == nil || e != api.OK {
		t.Fatalf("P5: New(%d, %q, %q, %q): %d", kind, entropy, nonce, name, e)
	}
	return pair{s, newModel(kind, entropy, nonce, name)}
}

// reads fails the test unless both answer the same n bytes.
func (p pair) reads(t *testing.T, n int, extra string) {
	t.Helper()
	want := p.model.read(n, extra)
	if got, e := p.source.Read(n, extra); string(got) != want || e != api.OK {
		t.Errorf("P7: kind %d, Read(%d, %q) = %x, %d, want %x", p.model.kind, n, extra, got, e, want)
	}
}

// reseeds fails the test unless the new entropy is taken.
func (p pair) reseeds(t *testing.T, entropy string, extra string) {
	t.Helper()
	p.model.reseed(entropy, extra)
	if e := p.source.Reseed(entropy, extra); e != api.OK {
		t.Errorf("P6: kind %d, Reseed(%q, %q): %d", p.model.kind, entropy, extra, e)
	}
}

// refuses fails the test unless Read answers that error and nothing besides.
func (p pair) refuses(t *testing.T, n int, extra string, want api.Errno) {
	t.Helper()
	if got, e := p.source.Read(n, extra); len(got) != 0 || e != want {
		t.Errorf("P7: kind %d, Read(%d, %d bytes) = %x, %d, want %d", p.model.kind, n, len(extra), got, e, want)
	}
}

// refusesSeed fails the test unless Reseed answers ErrArg.
func (p pair) refusesSeed(t *testing.T, entropy string, extra string) {
	t.Helper()
	if e := p.source.Reseed(entropy, extra); e != api.ErrArg {
		t.Errorf("P6: kind %d, Reseed(%d bytes, %d bytes): %d, want ErrArg", p.model.kind, len(entropy), len(extra), e)
	}
}

// Vectors of NIST for HMAC_DRBG and Hash_DRBG with SHA-256: what the second of two reads answers.
func TestP7PublishedBytes(t *testing.T) {
	for _, c := range []struct {
		kind                  int
		entropy, nonce, bytes string
	}{
		{api.ByMac, "ca851911349384bffe89de1cbdc46e6831e44d34a4fb935ee285dd14b71a7488", "659ba96c601dc69fc902940805ec0ca8", "e528e9abf2dece54d47c7e75e5fe302149f817ea9fb4bee6f4199697d04d5b89d54fbb978a15b5c443c9ec21036d2460b6f73ebad0dc2aba6e624abf07745bc107694bb7547bb0995f70de25d6b29e2d3011bb19d27676c07162c8b5ccde0668961df86803482cb37ed6d5c0bb8d50cf1f50d476aa0458bdaba806f48be9dcb8"},
		{api.BySum, "a65ad0f345db4e0effe875c3a2e71f42c7129d620ff5c119a9ef55f05185e0fb", "8581f9317517276e06e9607ddbcbcc2e", "d3e160c35b99f340b2628264d1751060e0045da383ff57a57d73a673d2b8d80daaf6a6c35a91bb4579d73fd0c8fed111b0391306828adfed528f018121b3febdc343e797b87dbb63db1333ded9d1ece177cfa6b71fe8ab1da46624ed6415e51ccde2c7ca86e283990eeaeb91120415528b2295910281b02dd431f4c9f70427df"},
	} {
		entropy, _ := hex.DecodeString(c.entropy)
		nonce, _ := hex.DecodeString(c.nonce)
		p := newPair(t, c.kind, string(entropy), string(nonce), "")
		p.reads(t, 128, "")
		if got := p.model.read(128, ""); hex.EncodeToString([]byte(got)) != c.bytes {
			t.Errorf("the model, kind %d: %x, want %s", c.kind, got, c.bytes)
		}
		if got, e := p.source.Read(128, ""); hex.EncodeToString(got) != c.bytes || e != api.OK {
			t.Errorf("P7: kind %d: %x, %d, want %s", c.kind, got, e, c.bytes)
		}
	}
}

func TestP5EverySeedLength(t *testing.T) {
	for _, kind := range kinds {
		for length := api.MinEntropy; length <= api.MaxEntropy; length++ {
			p := newPair(t, kind, pattern(length), "nonce", "name")
			p.reads(t, 40, "")
			p.reads(t, 40, "extra")
		}
		for length := range api.MaxExtra + 1 {
			p := newPair(t, kind, seed, pattern(length), "")
			p.reads(t, 40, "")
			p = newPair(t, kind, seed, "", pattern(length))
			p.reads(t, 40, "")
			p = newPair(t, kind, pattern(api.MaxEntropy), pattern(length), pattern(api.MaxExtra))
			p.reads(t, 40, "")
		}
	}
}

// The seed is entropy, nonce and name, one behind the other: where one ends and the next begins is not to be seen.
func TestP5SeedIsOneBehindTheOther(t *testing.T) {
	for _, kind := range kinds {
		whole := newModel(kind, seed+"nonce"+"name", "", "").read(50, "")
		for _, c := range [][3]string{{seed + "noncename", "", ""}, {seed + "nonce", "", "name"}, {seed, "nonce", "name"}, {seed, "noncename", ""}, {seed, "", "noncename"}} {
			s, _ := spring.New(kind, c[0], c[1], c[2])
			if got, e := s.Read(50, ""); string(got) != whole || e != api.OK {
				t.Errorf("P5: kind %d, seeded with %q: %x, %d, want %x", kind, c, got, e, whole)
			}
		}
		other, _ := spring.New(kind, seed, "name", "nonce")
		if got, _ := other.Read(50, ""); string(got) == whole {
			t.Errorf("P5: kind %d: nonce and name may change places", kind)
		}
	}
}

func TestP5NoKind(t *testing.T) {
	long := pattern(api.MaxExtra + 1)
	for _, kind := range wrongKinds {
		for _, c := range [][3]string{{seed, "", ""}, {"", "", ""}, {seed[:15], "", ""}, {long, long, long}, {seed, long, ""}, {seed, "", long}} {
			if s, e := spring.New(kind, c[0], c[1], c[2]); s != nil || e != api.ErrKind {
				t.Errorf("P5: New(%d, %d bytes, %d, %d): %d, want ErrKind", kind, len(c[0]), len(c[1]), len(c[2]), e)
			}
		}
	}
}

func TestP5WrongLengths(t *testing.T) {
	full, long, huge := pattern(api.MaxExtra), pattern(api.MaxExtra+1), pattern(1<<16)
	for _, kind := range kinds {
		for _, c := range [][3]string{
			{"", "", ""}, {"x", "", ""}, {seed[:15], "", ""}, {seed[:15], full, full}, {"", seed, seed}, {long, "", ""}, {huge, "", ""},
			{seed, long, ""}, {seed, huge, ""}, {seed, "", long}, {seed, "", huge}, {full, full, long}, {full, long, full}, {long, full, full}, {long, long, long},
		} {
			if s, e := spring.New(kind, c[0], c[1], c[2]); s != nil || e != api.ErrArg {
				t.Errorf("P5: New(%d, %d bytes, %d, %d): %d, want ErrArg", kind, len(c[0]), len(c[1]), len(c[2]), e)
			}
		}
	}
}

func TestP6EverySeedLength(t *testing.T) {
	for _, kind := range kinds {
		p := newPair(t, kind, seed, "nonce", "name")
		for length := api.MinEntropy; length <= api.MaxEntropy; length++ {
			p.reseeds(t, pattern(length), "")
			p.reads(t, 40, "")
			p.reseeds(t, pattern(length), "extra")
			p.reads(t, 40, "extra")
		}
		for length := range api.MaxExtra + 1 {
			p.reseeds(t, seed, pattern(length))
			p.reads(t, 40, "")
			p.reseeds(t, pattern(api.MaxEntropy), pattern(length))
		}
	}
}

// Reseeding keeps what the generator was seeded with before.
func TestP6OldSeedCounts(t *testing.T) {
	for _, kind := range kinds {
		x, y := newPair(t, kind, seed, "", ""), newPair(t, kind, seed, "", "other")
		x.reseeds(t, pattern(20), "more")
		y.reseeds(t, pattern(20), "more")
		a, _ := x.source.Read(32, "")
		b, _ := y.source.Read(32, "")
		if bytes.Equal(a, b) {
			t.Errorf("P6: kind %d: reseeded alike they answer alike, whatever their first seed", kind)
		}
	}
}

// What is refused changes nothing, rounds neither (P1).
func TestP6WrongLengthsChangeNothing(t *testing.T) {
	full, long, huge := pattern(api.MaxExtra), pattern(api.MaxExtra+1), pattern(1<<16)
	for _, kind := range kinds {
		p := newPair(t, kind, seed, "", "")
		for range api.MaxReads {
			for _, c := range [][2]string{{"", ""}, {"", seed}, {seed[:15], ""}, {seed[:15], full}, {long, ""}, {huge, ""}, {seed, long}, {seed, huge}, {full, long}, {long, full}, {long, long}} {
				p.refusesSeed(t, c[0], c[1])
			}
			p.reads(t, 40, "")
		}
		p.refusesSeed(t, seed[:15], "")
		p.refusesSeed(t, seed, long)
		p.refuses(t, 40, "", api.ErrReseed)
		p.reseeds(t, seed, "")
		p.reads(t, 40, "")
	}
}

func TestP7EveryLength(t *testing.T) {
	for _, kind := range kinds {
		for n := range api.MaxRead + 1 {
			p := newPair(t, kind, seed, "nonce", "name")
			p.reads(t, n, "")
			p.reads(t, n, "extra")
			p.reads(t, 50, "")
		}
		for length := range api.MaxExtra + 1 {
			p := newPair(t, kind, seed, "nonce", "name")
			p.reads(t, 50, pattern(length))
			p.reads(t, 0, pattern(length))
			p.reads(t, 50, "")
		}
	}
}

// A read of no bytes is one of the eight, and moves the generator on.
func TestP7NoBytes(t *testing.T) {
	for _, kind := range kinds {
		p := newPair(t, kind, seed, "", "")
		for range api.MaxReads - 1 {
			p.reads(t, 0, "")
		}
		p.reads(t, 40, "")
		p.refuses(t, 0, "", api.ErrReseed)
	}
}

// The eighth read since the last seeding answers, the ninth wants new entropy, and so again after it came.
func TestP7EightReads(t *testing.T) {
	for _, kind := range kinds {
		p := newPair(t, kind, pattern(api.MaxEntropy), "", "name")
		for time := range 3 {
			for i := range api.MaxReads {
				p.reads(t, readLengths[(5*i+time)%len(readLengths)], pattern(i*9*(i%2)))
			}
			for range 2 {
				p.refuses(t, 1, "", api.ErrReseed)
				p.refuses(t, 0, "extra", api.ErrReseed)
				p.refuses(t, api.MaxRead, pattern(api.MaxExtra), api.ErrReseed)
			}
			p.reseeds(t, seed, pattern(time))
		}
	}
}

// Rounds begin anew with each seeding, however many reads were left.
func TestP7RoundsBeginAnew(t *testing.T) {
	for _, kind := range kinds {
		for early := range api.MaxReads + 1 {
			p := newPair(t, kind, seed, "", "")
			for range early {
				p.reads(t, 33, "")
			}
			p.reseeds(t, seed, "")
			for range api.MaxReads {
				p.reads(t, 33, "")
			}
			p.refuses(t, 33, "", api.ErrReseed)
		}
	}
}

// What is refused changes nothing (P1), and ErrArg comes ahead of ErrReseed.
func TestP7WrongInputsChangeNothing(t *testing.T) {
	long, huge := pattern(api.MaxExtra+1), pattern(1<<16)
	for _, kind := range kinds {
		p := newPair(t, kind, seed, "", "")
		wrong := func() {
			t.Helper()
			for _, n := range wrongNumbers {
				p.refuses(t, n, "", api.ErrArg)
				p.refuses(t, n, "extra", api.ErrArg)
				p.refuses(t, n, long, api.ErrArg)
			}
			for _, n := range readLengths {
				p.refuses(t, n, long, api.ErrArg)
				p.refuses(t, n, huge, api.ErrArg)
			}
		}
		for i := range api.MaxReads {
			wrong()
			p.reads(t, 40, pattern(i%2))
		}
		wrong()
		p.refuses(t, 40, "", api.ErrReseed)
		wrong()
		p.reseeds(t, seed, "")
		p.reads(t, 40, "")
	}
}

// Numbers of BySum go beyond their top: the model tells that they did.
func TestP7NumbersWrapRound(t *testing.T) {
	carries := 0
	for length := range api.MaxExtra + 1 {
		p := newPair(t, api.BySum, seed, pattern(length), "")
		for i := range api.MaxReads {
			p.reads(t, 70, pattern(i))
		}
		carries += p.model.carries
	}
	if carries < 100 {
		t.Errorf("P7: only %d sums went beyond the top: the test is of no use", carries)
	}
}

// Reads and reseedings in many orders.
func TestP7LongRuns(t *testing.T) {
	for _, kind := range kinds {
		for run := range 40 {
			p := newPair(t, kind, pattern(api.MinEntropy+run), pattern(run), pattern(2*run%65))
			for step := range 60 {
				dice := (run*run + 17*step + step*step*step) % 101
				switch {
				case p.model.rounds > api.MaxReads:
					p.refuses(t, dice, "", api.ErrReseed)
					p.reseeds(t, pattern(api.MinEntropy+dice%49), pattern(dice%65))
				case dice%11 == 0:
					p.reseeds(t, pattern(api.MinEntropy+dice%49), pattern(dice%3))
				case dice%7 == 0:
					p.refuses(t, api.MaxRead+dice+1, "", api.ErrArg)
					p.refusesSeed(t, pattern(dice%16), "")
				default:
					p.reads(t, 2*dice%201, pattern(dice%2*dice%65))
				}
			}
		}
	}
}

// Who asks for fewer bytes, that once, gets the first ones (P11).
func TestP11FewerBytesAreTheFirstOnes(t *testing.T) {
	for _, kind := range kinds {
		for _, extra := range []string{"", "extra"} {
			begin := func() *spring.Source {
				p := newPair(t, kind, seed, "nonce", "name")
				p.reads(t, 50, "e")
				p.reseeds(t, pattern(30), "")
				p.reads(t, 7, "")
				return p.source
			}
			all, _ := begin().Read(api.MaxRead, extra)
			for n := range api.MaxRead + 1 {
				if got, e := begin().Read(n, extra); !bytes.Equal(got, all[:n]) || e != api.OK {
					t.Errorf("P11: kind %d, Read(%d, %q) = %x, %d, want %x", kind, n, extra, got, e, all[:n])
				}
			}
		}
	}
}

// Generators that are used by turns don't touch one another, nor do sums and what is refused in between (P2).
func TestP2GeneratorsAreApart(t *testing.T) {
	var pairs []pair
	for _, kind := range kinds {
		for _, name := range []string{"", "", "name"} {
			pairs = append(pairs, newPair(t, kind, seed, "", name))
		}
	}
	for round := range api.MaxReads {
		for i, p := range pairs {
			if round == 4 && i%3 == 1 {
				p.reseeds(t, pattern(20+i), "")
			}
			p.reads(t, 30*i+round, pattern(i*round))
			spring.Sum(pattern(round))
			spring.New(i, "", "", "")
			spring.New(api.ByMac, seed, "", "")
		}
	}
	for i, p := range pairs {
		if i%3 == 1 {
			p.reads(t, 40, "")
		} else {
			p.refuses(t, 40, "", api.ErrReseed)
		}
	}
}

// What is written into an answer, or into its spare room, is the caller's alone (P2).
func TestP2BytesAreNewMemory(t *testing.T) {
	for _, kind := range kinds {
		p := newPair(t, kind, seed, "", "")
		for range 4 {
			var answers [][]byte
			var wants []string
			for _, n := range []int{0, 1, 32, 40, 200, 64, 31} {
				want := p.model.read(n, "")
				got, e := p.source.Read(n, "")
				if string(got) != want || e != api.OK {
					t.Errorf("P7: kind %d, Read(%d) = %x, %d, want %x", kind, n, got, e, want)
				}
				answers, wants = append(answers, got), append(wants, want)
			}
			for i, answer := range answers {
				if string(answer) != wants[i] {
					t.Errorf("P2: kind %d: an answer was changed later: %x, want %x", kind, answer, wants[i])
				}
				whole := answer[:cap(answer)]
				for j := range whole {
					whole[j] = 77
				}
			}
			p.reads(t, 50, "")
			p.reseeds(t, seed, "")
		}
	}
}

// The same questions have the same answers, whenever they are asked (P2).
func TestP2GeneratorsAskedAlikeAnswerAlike(t *testing.T) {
	for _, kind := range kinds {
		ask := func() string {
			s, _ := spring.New(kind, pattern(40), "nonce", "name")
			a, _ := s.Read(100, "")
			s.Reseed(seed, "extra")
			b, _ := s.Read(0, "x")
			c, _ := s.Read(200, "y")
			return string(a) + string(b) + string(c)
		}
		first := ask()
		for range 5 {
			if again := ask(); again != first {
				t.Errorf("P2: kind %d asked again: %x, want %x", kind, again, first)
			}
		}
	}
}
