package spring_test

import (
	"bytes"
	"math"
	"math/rand"
	"strings"
	"testing"

	"spring/api"
	"spring/spring"
)

// lax: a watch that noise does not break, nor do the rows that the tests draw from.
var lax = limits(50, 50, 50)

// wellModel is a well as the document tells it: it keeps all samples that ever came, and asks the models of watch and generators.
type wellModel struct {
	kind      int
	watch     api.Watch
	name      string
	all       string
	kept      string
	broken    bool
	generator *model // nil: none
	seedings  int
}

func (m *wellModel) feed(samples string) (int, api.Errno) {
	if m.broken {
		return 0, api.ErrDead
	}
	if len(samples) > api.MaxSamples {
		return 0, api.ErrArg
	}
	ahead := len(m.all)
	m.all += samples
	bad, fault := breaks(m.watch, m.all)
	if fault != api.OK {
		m.broken, m.kept = true, ""
		return bad - ahead, fault
	}
	m.kept += samples
	m.kept = m.kept[max(0, len(m.kept)-api.MaxSamples):]
	return len(samples), api.OK
}

func (m *wellModel) draw(n int, extra string) (string, api.Errno) {
	switch {
	case n < 0 || n > api.MaxRead || len(extra) > api.MaxExtra:
		return "", api.ErrArg
	case m.broken:
		return "", api.ErrDead
	case m.generator != nil && m.generator.rounds <= api.MaxReads:
		return m.generator.read(n, extra), api.OK
	case len(m.kept) < api.MinSamples:
		return "", api.ErrLittle
	}
	if m.generator == nil {
		m.generator = newModel(m.kind, wantSum(m.kept), "", m.name)
	} else {
		m.generator.reseed(wantSum(m.kept), "")
	}
	m.kept = ""
	m.seedings++
	return m.generator.read(n, extra), api.OK
}

// wellPair is a well beside its model: whatever is asked of one is asked of the other.
type wellPair struct {
	well  *spring.Well
	model *wellModel
}

func newWell(t *testing.T, kind int, w api.Watch, name string) wellPair {
	t.Helper()
	well, e := spring.Open(kind, w, name)
	if well == nil || e != api.OK {
		t.Fatalf("P9: Open(%d, %v, %d bytes): %d", kind, w, len(name), e)
	}
	p := wellPair{well, &wellModel{kind: kind, watch: w, name: name}}
	p.keeps(t, 0)
	return p
}

// keeps fails the test unless so many samples are kept, in the model too.
func (p wellPair) keeps(t *testing.T, number int) {
	t.Helper()
	if got := p.well.Samples(); got != number || len(p.model.kept) != number {
		t.Errorf("P9: Samples() = %d, want %d (and %d, says the model)", got, number, len(p.model.kept))
	}
}

// fed fails the test unless well and model answer these samples alike; it tells how. The list is written over behind the call, lest the well may lean on it.
func (p wellPair) fed(t *testing.T, samples string) api.Errno {
	t.Helper()
	list := []byte(samples + "spare")
	number, want := p.model.feed(samples)
	if n, e := p.well.Feed(list[:len(samples)]); n != number || e != want {
		t.Errorf("P9: Feed(%.80q) = %d, %d, want %d, %d", samples, n, e, number, want)
	}
	if string(list) != samples+"spare" {
		t.Errorf("P2: Feed(%.80q) changed its list to %.80q", samples, list)
	}
	copy(list, strings.Repeat("\x00", len(list)))
	p.keeps(t, len(p.model.kept))
	return want
}

// drawn fails the test unless well and model answer alike; it tells how. The bytes and their spare room are written over, lest the well may lean on them.
func (p wellPair) drawn(t *testing.T, n int, extra string) api.Errno {
	t.Helper()
	want, fault := p.model.draw(n, extra)
	got, e := p.well.Draw(n, extra)
	if string(got) != want || e != fault {
		t.Errorf("P10: kind %d, Draw(%d, %d bytes) = %x, %d, want %x, %d", p.model.kind, n, len(extra), got, e, want, fault)
	}
	got = got[:cap(got)]
	for i := range got {
		got[i] = 77
	}
	p.keeps(t, len(p.model.kept))
	return fault
}

// takes fails the test unless all samples are taken, and so many kept then.
func (p wellPair) takes(t *testing.T, samples string, kept int) {
	t.Helper()
	if e := p.fed(t, samples); e != api.OK {
		t.Errorf("P9: the test has Feed(%.80q) go well, the document %d", samples, e)
	}
	p.keeps(t, kept)
}

// gives fails the test unless n bytes come.
func (p wellPair) gives(t *testing.T, n int, extra string) {
	t.Helper()
	if e := p.drawn(t, n, extra); e != api.OK {
		t.Errorf("P10: the test has Draw(%d, %d bytes) go well, the document %d", n, len(extra), e)
	}
}

// refuses fails the test unless Draw answers that error.
func (p wellPair) refuses(t *testing.T, n int, extra string, want api.Errno) {
	t.Helper()
	if e := p.drawn(t, n, extra); e != want {
		t.Errorf("P10: the test has Draw(%d, %d bytes) answer %d, the document %d", n, len(extra), want, e)
	}
}

// breaksBy feeds samples and fails the test unless the watch breaks at that one.
func (p wellPair) breaksBy(t *testing.T, samples string, number int, want api.Errno) {
	t.Helper()
	ahead := len(p.model.all)
	if e := p.fed(t, samples); e != want {
		t.Errorf("P9: the test has Feed(%.80q) answer %d, the document %d", samples, want, e)
	}
	if bad, _ := breaks(p.model.watch, p.model.all); bad-ahead != number {
		t.Errorf("P9: the test has Feed(%.80q) break at %d, the document at %d", samples, number, bad-ahead)
	}
	p.keeps(t, 0)
}

// isDry fails the test unless the well answers nothing but errors: whatever is asked, and whatever samples come.
func (p wellPair) isDry(t *testing.T) {
	t.Helper()
	for _, samples := range []string{"", "x", noise(api.MinSamples), noise(api.MaxSamples), noise(api.MaxSamples + 1)} {
		if e := p.fed(t, samples); e != api.ErrDead {
			t.Errorf("P9: the model of a broken well takes samples: %d", e)
		}
		for _, n := range readLengths {
			p.refuses(t, n, "", api.ErrDead)
			p.refuses(t, n, pattern(api.MaxExtra), api.ErrDead)
			p.refuses(t, n, pattern(api.MaxExtra+1), api.ErrArg)
		}
		for _, n := range wrongNumbers {
			p.refuses(t, n, "", api.ErrArg)
		}
	}
	p.keeps(t, 0)
}

func TestP9WellsThatMayBe(t *testing.T) {
	for _, kind := range kinds {
		for _, w := range someLimits() {
			newWell(t, kind, w, "name")
		}
		for length := range api.MaxExtra + 1 {
			newWell(t, kind, lax, pattern(length))
		}
	}
}

func TestP9NoKind(t *testing.T) {
	for _, kind := range wrongKinds {
		for _, w := range []api.Watch{lax, {}, limits(2, 2, 3)} {
			for _, name := range []string{"", pattern(api.MaxExtra), pattern(api.MaxExtra + 1)} {
				if well, e := spring.Open(kind, w, name); well != nil || e != api.ErrKind {
					t.Errorf("P9: Open(%d, %v, %d bytes): %d, want ErrKind", kind, w, len(name), e)
				}
			}
		}
	}
}

func TestP9WrongLimitsAndNames(t *testing.T) {
	refuses := func(kind int, w api.Watch, name string) {
		t.Helper()
		if well, e := spring.Open(kind, w, name); well != nil || e != api.ErrArg {
			t.Errorf("P9: Open(%d, %v, %d bytes): %d, want ErrArg", kind, w, len(name), e)
		}
	}
	for _, kind := range kinds {
		for _, n := range wrongLimits {
			for _, w := range []api.Watch{limits(n, 5, 4), limits(3, n, 2), limits(3, 5, n), limits(n, n, n)} {
				refuses(kind, w, "")
				refuses(kind, w, pattern(api.MaxExtra+1))
			}
		}
		for window := 2; window <= api.MaxWindow; window++ {
			refuses(kind, limits(2, window, window+1), "")
		}
		for _, length := range []int{api.MaxExtra + 1, 256, 257, 1 << 16} {
			refuses(kind, lax, pattern(length))
		}
	}
}

// The last 200 are kept: the sum of others would bring other bytes.
func TestP9HowManyAreKept(t *testing.T) {
	for _, kind := range kinds {
		for _, pieces := range [][]int{
			{32}, {199}, {200}, {199, 1}, {200, 0}, {100, 100}, {1, 199},
			{200, 1}, {199, 2}, {1, 200}, {100, 101}, {200, 199}, {200, 200}, {200, 200, 1}, {150, 150, 150, 150}, {32, 200, 168}, {7, 13, 200, 0, 199, 1, 1},
		} {
			p := newWell(t, kind, lax, "")
			all := 0
			for i, length := range pieces {
				all += length
				p.takes(t, pattern(300)[i:i+length], min(all, 200))
			}
			p.gives(t, 40, "")
			p.keeps(t, 0)
		}
	}
}

func TestP9ManySamplesOneByOne(t *testing.T) {
	p := newWell(t, api.BySum, lax, "name")
	for i := range 650 {
		p.takes(t, pattern(650)[i:i+1], min(i+1, api.MaxSamples))
	}
	p.gives(t, 200, "")
	p.keeps(t, 0)
}

func TestP9TooManyAtOnceChangeNothing(t *testing.T) {
	for _, number := range []int{api.MaxSamples + 1, 256, 257, 1 << 16} {
		p := newWell(t, api.ByMac, limits(3, 50, 4), "")
		wrong := func() {
			t.Helper()
			for _, samples := range []string{noise(number), strings.Repeat("a", number), strings.Repeat("b", number)} {
				if e := p.fed(t, samples); e != api.ErrArg {
					t.Errorf("P9: the model answers %d to %d samples", e, number)
				}
			}
		}
		wrong()
		p.takes(t, "aa", 2)
		wrong()
		p.takes(t, noise(api.MaxSamples-2), api.MaxSamples)
		wrong()
		p.gives(t, 40, "")
		wrong()
		p.takes(t, "bb", 2)
		wrong()
		p.breaksBy(t, "b", 0, api.ErrStuck)
	}
}

func TestP9NoSamples(t *testing.T) {
	p := newWell(t, api.ByMac, limits(2, 2, 2), "")
	for range 3 {
		if n, e := p.well.Feed(nil); n != 0 || e != api.OK {
			t.Errorf("P9: Feed(nil) = %d, %d", n, e)
		}
		p.takes(t, "", 0)
	}
	p.takes(t, noise(40), 40)
	p.takes(t, "", 40)
}

// A well's Feed answers as a guard's, in every row of samples that comes in two pieces.
func TestP9FeedIsAGuards(t *testing.T) {
	for _, w := range someLimits() {
		each("ab", 7, func(samples string) {
			for cut := range 8 {
				p, g := newWell(t, api.ByMac, w, ""), newGuard(t, w)
				for _, piece := range []string{samples[:cut], samples[cut:], "ab", noise(201)} {
					n, e := g.Feed([]byte(piece))
					if m, f := p.well.Feed([]byte(piece)); m != n || f != e {
						t.Fatalf("P9: watch %v, samples %q, cut at %d: Feed(%.80q) = %d, %d, a guard's %d, %d", w, samples, cut, piece, m, f, n, e)
					}
				}
			}
		})
	}
}

// Runs and windows go on, also behind a seeding, and when older samples are kept no more.
func TestP9TheWatchGoesOn(t *testing.T) {
	for _, kind := range kinds {
		p := newWell(t, kind, limits(3, 50, 4), "")
		p.takes(t, noise(41)[1:]+"aa", 42)
		p.gives(t, 1, "")
		p.keeps(t, 0)
		p.breaksBy(t, "a", 0, api.ErrStuck)
		p.isDry(t)

		p = newWell(t, kind, limits(3, 50, 4), "")
		p.takes(t, "ab"+noise(40)+"ab", 44) // a window begins with a
		p.gives(t, 1, "")
		p.takes(t, "a", 1)
		p.breaksBy(t, "bab", 1, api.ErrSkew)
		p.isDry(t)

		p = newWell(t, kind, limits(50, 50, 50), "")
		p.takes(t, noise(200), 200)
		p.takes(t, strings.Repeat("a", 48), 200)
		p.takes(t, "a", 200)
		p.breaksBy(t, "a", 0, api.ErrStuck)
		p.isDry(t)
	}
}

// What is kept is thrown away when the watch breaks, the samples of that call too, wherever the bad one stands.
func TestP9ABrokenWatchThrowsAllAway(t *testing.T) {
	for _, kind := range kinds {
		for _, ahead := range []int{0, 1, 31, 32, 40, 200} {
			for _, all := range []int{0, 1, 33, 100, 198} {
				for _, seeded := range []bool{false, true} {
					p := newWell(t, kind, limits(2, 50, 2), "name")
					if seeded {
						p.takes(t, noise(250)[50:], 200)
						p.gives(t, 10, "")
					}
					p.takes(t, noise(ahead), ahead)
					p.breaksBy(t, noise(251)[251-all:]+"\xff\xff", all+1, api.ErrStuck)
					p.isDry(t)
				}
			}
		}
		p := newWell(t, kind, limits(50, 50, 2), "name")
		p.takes(t, noise(150), 150)
		p.breaksBy(t, "xyxabcdefg", 2, api.ErrSkew)
		p.isDry(t)
	}
}

func TestP10Bytes(t *testing.T) {
	for _, kind := range kinds {
		for _, name := range []string{"", "name", pattern(api.MaxExtra)} {
			for n := range api.MaxRead + 1 {
				p := newWell(t, kind, lax, name)
				p.takes(t, pattern(20), 20)
				p.takes(t, pattern(60)[20:], 60)
				p.gives(t, n, "")
				p.gives(t, n, "extra")
				p.gives(t, 50, "")
			}
		}
	}
}

// Names of every length are seeded with, and what is given besides of every length read with.
func TestP10NamesAndExtras(t *testing.T) {
	for _, kind := range kinds {
		for length := range api.MaxExtra + 1 {
			p := newWell(t, kind, lax, pattern(length))
			p.takes(t, noise(32), 32)
			p.gives(t, 33, "")
			p.gives(t, 33, pattern(length))
			p = newWell(t, kind, lax, "")
			p.takes(t, noise(32), 32)
			p.gives(t, 0, pattern(length))
			p.gives(t, 33, "")
		}
	}
}

// A well is a generator with the sum of the samples for entropy, no nonce, and the name; then reseeded with nothing besides: held against the generators themselves.
func TestP10AWellIsAGenerator(t *testing.T) {
	for _, kind := range kinds {
		p := newWell(t, kind, lax, "name")
		p.takes(t, noise(77), 77)
		source, _ := spring.New(kind, wantSum(noise(77)), "", "name")
		alike := func(times int) {
			t.Helper()
			for i := range times {
				got, e := p.well.Draw(30*i%201, pattern(i%2*i))
				want, f := source.Read(30*i%201, pattern(i%2*i))
				if !bytes.Equal(got, want) || e != f || e != api.OK {
					t.Errorf("P10: kind %d, draw %d: %x, %d, want %x, %d", kind, i, got, e, want, f)
				}
			}
		}
		alike(api.MaxReads)
		for round := range 3 {
			more := pattern(100 + 50*round)
			if n, e := p.well.Feed([]byte(more)); n != len(more) || e != api.OK {
				t.Errorf("P9: Feed: %d, %d", n, e)
			}
			if e := source.Reseed(wantSum(more), ""); e != api.OK {
				t.Errorf("P6: Reseed: %d", e)
			}
			alike(api.MaxReads)
		}
		if got, e := p.well.Draw(5, ""); len(got) > 0 || e != api.ErrLittle {
			t.Errorf("P10: a well without samples, behind eight draws: %x, %d, want ErrLittle", got, e)
		}
	}
}

// 31 samples are too few, 32 enough, for the first seeding and for later ones.
func TestP10HowManyItTakes(t *testing.T) {
	for _, kind := range kinds {
		p := newWell(t, kind, lax, "")
		for range 3 {
			for kept := range api.MinSamples {
				for _, n := range []int{0, 1, api.MaxRead} {
					p.refuses(t, n, "", api.ErrLittle)
					p.refuses(t, n, pattern(api.MaxExtra), api.ErrLittle)
				}
				p.takes(t, pattern(32)[kept:kept+1], kept+1)
			}
			p.gives(t, 40, "")
			p.keeps(t, 0)
			for range api.MaxReads - 1 {
				p.gives(t, 40, "")
			}
		}
	}
}

// Samples that come while the generator has reads left are kept until it has none.
func TestP10SeedsNoSoonerThanItMust(t *testing.T) {
	for _, kind := range kinds {
		p := newWell(t, kind, lax, "name")
		p.takes(t, noise(40), 40)
		p.gives(t, 5, "")
		for range 3 {
			kept := 0
			for i := range api.MaxReads - 1 {
				kept = min(kept+40, api.MaxSamples)
				p.takes(t, pattern(300)[i:i+40], kept)
				p.gives(t, 5, "")
				p.keeps(t, kept)
			}
			p.gives(t, 5, "")
			p.keeps(t, 0)
		}
	}
}

func TestP10NoBytes(t *testing.T) {
	for _, kind := range kinds {
		p := newWell(t, kind, lax, "")
		p.takes(t, noise(32), 32)
		p.gives(t, 0, "")
		p.keeps(t, 0)
		for range api.MaxReads - 2 {
			p.gives(t, 0, "")
		}
		p.gives(t, 40, "")
		p.refuses(t, 0, "", api.ErrLittle)
	}
}

// What is refused changes nothing (P1), and ErrArg comes ahead of ErrLittle.
func TestP10WrongInputsChangeNothing(t *testing.T) {
	long, huge := pattern(api.MaxExtra+1), pattern(1<<16)
	for _, kind := range kinds {
		p := newWell(t, kind, lax, "")
		wrong := func() {
			t.Helper()
			for _, n := range append(wrongNumbers, math.MinInt+40, math.MaxInt-1) {
				p.refuses(t, n, "", api.ErrArg)
				p.refuses(t, n, long, api.ErrArg)
			}
			for _, n := range readLengths {
				p.refuses(t, n, long, api.ErrArg)
				p.refuses(t, n, huge, api.ErrArg)
			}
		}
		for range 2 {
			wrong()
			p.takes(t, noise(31), 31)
			wrong()
			p.refuses(t, 40, "", api.ErrLittle)
			p.takes(t, "x", 32)
			wrong()
			p.keeps(t, 32)
			for range api.MaxReads {
				p.gives(t, 40, "")
				wrong()
			}
			p.refuses(t, 40, "", api.ErrLittle)
		}
	}
}

// Where several errors apply: in Feed the broken watch comes ahead of the number, in Draw behind what is asked for, and ahead of the samples.
func TestP1WhichErrorComesFirst(t *testing.T) {
	for _, kind := range kinds {
		p := newWell(t, kind, limits(2, 2, 2), "")
		p.refuses(t, api.MaxRead+1, "", api.ErrArg)
		p.refuses(t, 1, "", api.ErrLittle)
		p.breaksBy(t, "aa", 1, api.ErrStuck)
		p.refuses(t, 1, "", api.ErrDead)
		p.refuses(t, -1, "", api.ErrArg)
		p.refuses(t, 1, pattern(api.MaxExtra+1), api.ErrArg)
		if e := p.fed(t, noise(api.MaxSamples+1)); e != api.ErrDead {
			t.Errorf("P9: the model answers %d", e)
		}

		p = newWell(t, kind, limits(2, 50, 50), "")
		p.takes(t, noise(32), 32)
		for range api.MaxReads {
			p.gives(t, 1, "")
		}
		p.refuses(t, 1, "", api.ErrLittle)
		p.takes(t, noise(40), 40)
		p.breaksBy(t, "aa", 1, api.ErrStuck)
		p.refuses(t, 1, "", api.ErrDead)
	}
}

// Feeds and draws in many orders, of wells of all kinds by turns: none hangs on another.
func TestP10LongRuns(t *testing.T) {
	r := rand.New(rand.NewSource(10))
	told := [8]int{}
	seedings := 0
	for range 300 {
		var pairs []wellPair
		for _, kind := range kinds {
			for range 2 {
				window := 2 + r.Intn(49)
				w := limits(3+r.Intn(4), window, min(window, 4+r.Intn(47)))
				pairs = append(pairs, newWell(t, kind, w, pattern(r.Intn(api.MaxExtra+1))))
			}
		}
		letters := 4 + r.Intn(1+r.Intn(252))
		for range 120 {
			p := pairs[r.Intn(len(pairs))]
			if r.Intn(3) == 0 {
				samples := make([]byte, r.Intn(60)*r.Intn(6)*r.Intn(2)+r.Intn(20))
				for i := range samples {
					samples[i] = byte(r.Intn(letters))
				}
				told[p.fed(t, string(samples))]++
			} else {
				told[p.drawn(t, r.Intn(230)-10, pattern(r.Intn(70)*r.Intn(2)))]++
			}
		}
		for _, p := range pairs {
			seedings += max(0, p.model.seedings-1)
		}
		if t.Failed() {
			t.FailNow()
		}
	}
	for _, e := range []api.Errno{api.OK, api.ErrArg, api.ErrStuck, api.ErrSkew, api.ErrDead, api.ErrLittle} {
		if told[e] < 50 {
			t.Errorf("the runs are no good trial: %v", told)
		}
	}
	if seedings < 200 {
		t.Errorf("the runs are no good trial: only %d reseedings", seedings)
	}
}

// Wells, generators, guards and summers by turns: what one answers hangs on the calls on it alone (P2).
func TestP2AllSideBySide(t *testing.T) {
	for _, kind := range kinds {
		w := limits(3, 50, 50)
		one, other, broken := newWell(t, kind, w, "name"), newWell(t, kind, w, "name"), newWell(t, kind, w, "name")
		generator, guard, summer := newPair(t, kind, wantSum(pattern(40)), "", "name"), newGuard(t, w), spring.NewSummer()
		all := ""
		one.takes(t, pattern(40), 40)
		other.takes(t, pattern(40), 40)
		broken.takes(t, pattern(40), 40)
		feeds(t, guard, "aa", 2, api.OK)
		broken.breaksBy(t, "aaab", 2, api.ErrStuck)
		for i := range api.MaxReads {
			one.gives(t, 20+i, "")
			generator.reads(t, 20+i, "")
			mustAdd(t, summer, pattern(i))
			all += pattern(i)
			broken.refuses(t, 20, "", api.ErrDead)
			holds(t, summer, all)
		}
		generator.refuses(t, 1, "", api.ErrReseed)
		one.refuses(t, 1, "", api.ErrLittle)
		other.keeps(t, 40)
		feeds(t, guard, "ba", 2, api.OK)
		other.takes(t, "aa", 42)
		feeds(t, guard, "a", 1, api.OK)
		feeds(t, guard, "a", 0, api.ErrStuck)
		isDead(t, guard)
		other.takes(t, "baa", 45)
		guard.Reset()
		broken.isDry(t)
		one.refuses(t, 1, "", api.ErrLittle)
		other.gives(t, 40, "")
		generator.reseeds(t, seed, "")
		one.refuses(t, 1, "", api.ErrLittle)
		other.breaksBy(t, "a", 0, api.ErrStuck)
		feeds(t, guard, "aa", 2, api.OK)
		generator.reads(t, 40, "")
		one.takes(t, noise(32), 32)
		one.gives(t, 40, "")
		holds(t, summer, all)
	}
}

// Samples that come in one list again and again, written over in between, are those that came; its spare room stays as it is.
func TestP2OneListForAllSamples(t *testing.T) {
	for _, kind := range kinds {
		p := newWell(t, kind, lax, "")
		list := make([]byte, 20, 400)
		for i := range 15 {
			copy(list, pattern(300)[20*i:])
			p.model.feed(string(list))
			if n, e := p.well.Feed(list); n != 20 || e != api.OK {
				t.Errorf("P9: Feed = %d, %d", n, e)
			}
			clear(list)
		}
		p.keeps(t, api.MaxSamples)
		p.gives(t, 40, "")
		if !bytes.Equal(list[:400], make([]byte, 400)) {
			t.Errorf("P2: Feed changed the list's spare room: %v", list[:400])
		}
	}
}

// Bytes that were drawn stay as they were, whatever is asked after that; what is written into them, or into their spare room, is the caller's alone.
func TestP2DrawnBytesAreNewMemory(t *testing.T) {
	for _, kind := range kinds {
		p := newWell(t, kind, lax, "")
		for range 3 {
			p.takes(t, pattern(100), 100)
			var answers [][]byte
			var wants []string
			for _, n := range []int{0, 1, 32, 40, 200, 64, 31} {
				want, _ := p.model.draw(n, "")
				got, e := p.well.Draw(n, "")
				if string(got) != want || e != api.OK {
					t.Errorf("P10: kind %d, Draw(%d) = %x, %d, want %x", kind, n, got, e, want)
				}
				answers, wants = append(answers, got), append(wants, want)
			}
			for i, answer := range answers {
				if string(answer) != wants[i] {
					t.Errorf("P2: kind %d: an answer was changed later: %x, want %x", kind, answer, wants[i])
				}
				whole := answer[:cap(answer)]
				for j := range whole {
					whole[j] = 77
				}
			}
			p.gives(t, 50, "")
		}
	}
}

// Wells that were opened and fed alike answer alike, however the samples were cut; one that is asked for fewer bytes, that once, gives the first ones (P11).
func TestP11FewerBytesOfAWell(t *testing.T) {
	for _, kind := range kinds {
		begin := func(cut int) *spring.Well {
			p := newWell(t, kind, lax, "name")
			p.takes(t, pattern(200)[:cut], cut)
			p.takes(t, pattern(200)[cut:], 200)
			for range api.MaxReads {
				p.gives(t, 9, "e")
			}
			p.takes(t, pattern(150)[cut/2:], 150-cut/2)
			p.takes(t, pattern(150)[:cut/2], 150)
			return p.well
		}
		for _, extra := range []string{"", "extra"} {
			all, e := begin(0).Draw(api.MaxRead, extra)
			if len(all) != api.MaxRead || e != api.OK {
				t.Fatalf("P10: kind %d, Draw(%d, %q): %d bytes, %d", kind, api.MaxRead, extra, len(all), e)
			}
			for n := range api.MaxRead + 1 {
				if got, e := begin(0).Draw(n, extra); !bytes.Equal(got, all[:n]) || e != api.OK {
					t.Errorf("P11: kind %d, Draw(%d, %q) = %x, %d, want %x", kind, n, extra, got, e, all[:n])
				}
			}
		}
		for cut := range 201 {
			p, q := newWell(t, kind, lax, ""), newWell(t, kind, lax, "")
			p.takes(t, pattern(200)[:cut], cut)
			p.takes(t, pattern(200)[cut:], 200)
			q.takes(t, pattern(200), 200)
			a, _ := p.well.Draw(32, "")
			b, _ := q.well.Draw(32, "")
			if len(a) != 32 || !bytes.Equal(a, b) {
				t.Errorf("P11: kind %d: samples cut at %d bring other bytes: %x, %x", kind, cut, a, b)
			}
		}
	}
}

// No well gives a byte while its watch is broken: in every row of samples that breaks it, wherever bytes are drawn.
func TestP11NoByteBehindABreak(t *testing.T) {
	for _, kind := range kinds {
		for _, w := range []api.Watch{limits(2, 4, 3), limits(3, 4, 2), limits(4, 5, 4)} {
			each("ab", 6, func(samples string) {
				p := newWell(t, kind, w, "")
				p.takes(t, noise(40), 40)
				p.gives(t, 3, "")
				for i := range samples {
					p.fed(t, samples[i:i+1])
					if e := p.drawn(t, 3, ""); p.model.broken != (e == api.ErrDead) {
						t.Errorf("P11: watch %v, %q: %d", w, samples[:i+1], e)
					}
				}
			})
		}
	}
}
