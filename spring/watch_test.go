package spring_test

import (
	"bytes"
	"math"
	"math/rand"
	"slices"
	"strings"
	"testing"

	"spring/api"
	"spring/spring"
)

// wrongLimits: what no limit may be, however the others are.
var wrongLimits = []int{1, 0, -1, -2, -50, api.MaxWindow + 1, api.MaxWindow + 2, 256 + 2, math.MaxInt, math.MinInt, math.MinInt + 2}

func limits(stuck, window, skew int) api.Watch {
	return api.Watch{Stuck: stuck, Window: window, Skew: skew}
}

// someLimits: every choice among small numbers, and the bounds.
func someLimits() []api.Watch {
	var out []api.Watch
	for stuck := 2; stuck <= 5; stuck++ {
		for window := 2; window <= 5; window++ {
			for skew := 2; skew <= window; skew++ {
				out = append(out, limits(stuck, window, skew))
			}
		}
	}
	most := api.MaxWindow
	return append(out, limits(2, most, 2), limits(most, 2, 2), limits(most, most, 2), limits(2, most, most), limits(most, most, most), limits(7, 20, 9))
}

// breaks tells, as the document does, at which of all samples that ever came the watch breaks, and by what; len(all) with OK if at none.
func breaks(w api.Watch, all string) (int, api.Errno) {
	for i := range all {
		ran := all[:i+1]
		if strings.HasSuffix(ran, strings.Repeat(all[i:i+1], w.Stuck)) {
			return i, api.ErrStuck
		}
		window := ran[i/w.Window*w.Window:]
		if strings.Count(window, window[:1]) >= w.Skew {
			return i, api.ErrSkew
		}
	}
	return len(all), api.OK
}

func newGuard(t *testing.T, w api.Watch) *spring.Guard {
	t.Helper()
	g, e := spring.NewGuard(w)
	if g == nil || e != api.OK {
		t.Fatalf("P8: NewGuard(%v): %d", w, e)
	}
	return g
}

// feeds feeds samples and fails the test unless the answer is as wanted, and the list left as it was. It is written over behind the call, lest the guard may lean on it.
func feeds(t *testing.T, g *spring.Guard, samples string, number int, want api.Errno) {
	t.Helper()
	list := []byte(samples + "spare")
	if n, e := g.Feed(list[:len(samples)]); n != number || e != want {
		t.Errorf("P8: Feed(%.80q) = %d, %d, want %d, %d", samples, n, e, number, want)
	}
	if string(list) != samples+"spare" {
		t.Errorf("P2: Feed(%.80q) changed its list to %.80q", samples, list)
	}
	copy(list, strings.Repeat("\x00", len(list)))
}

// isDead fails the test unless the guard refuses all samples, however many.
func isDead(t *testing.T, g *spring.Guard) {
	t.Helper()
	for _, samples := range []string{"", "x", "xyz", noise(api.MaxSamples), noise(api.MaxSamples + 1)} {
		feeds(t, g, samples, 0, api.ErrDead)
	}
}

// noise makes samples that break no watch: none comes twice within 251.
func noise(number int) string {
	out := make([]byte, number)
	for i := range out {
		out[i] = byte(i % 251)
	}
	return string(out)
}

// inPieces feeds samples, cut at these places, and fails the test unless the watch breaks where the document has it.
func inPieces(t *testing.T, w api.Watch, g *spring.Guard, samples string, cuts []int) {
	t.Helper()
	bad, fault := breaks(w, samples)
	from := 0
	for _, to := range append(cuts, len(samples)) {
		switch {
		case bad >= to:
			feeds(t, g, samples[from:to], to-from, api.OK)
		case bad >= from:
			feeds(t, g, samples[from:to], bad-from, fault)
		default:
			feeds(t, g, samples[from:to], 0, api.ErrDead)
		}
		from = to
	}
	if t.Failed() {
		t.Fatalf("watch %v, samples %q, cut at %v", w, samples, cuts)
	}
}

// each calls back with every text of that length that has the letters alone.
func each(letters string, length int, back func(string)) {
	if length == 0 {
		back("")
		return
	}
	each(letters, length-1, func(begin string) {
		for i := range letters {
			back(begin + letters[i:i+1])
		}
	})
}

func TestP8LimitsThatMayBe(t *testing.T) {
	for stuck := 2; stuck <= api.MaxWindow; stuck++ {
		newGuard(t, limits(stuck, 2, 2))
	}
	for window := 2; window <= api.MaxWindow; window++ {
		for skew := 2; skew <= window; skew++ {
			newGuard(t, limits(2, window, skew))
		}
		newGuard(t, limits(api.MaxWindow, window, window))
	}
}

func TestP8LimitsThatMayNotBe(t *testing.T) {
	var wrong []api.Watch
	for _, n := range wrongLimits {
		wrong = append(wrong, limits(n, 5, 4), limits(3, n, 2), limits(3, 5, n), limits(n, 50, 50), limits(3, 50, n))
		wrong = append(wrong, limits(3, n, n), limits(n, n, n))
	}
	for window := 2; window <= api.MaxWindow; window++ {
		wrong = append(wrong, limits(2, window, window+1), limits(window, window, window+1), limits(2, window, 1))
	}
	for _, w := range wrong {
		if g, e := spring.NewGuard(w); g != nil || e != api.ErrArg {
			t.Errorf("P8: NewGuard(%v) = %v, %d, want nil, ErrArg", w, g, e)
		}
	}
}

func TestP8Examples(t *testing.T) {
	w := limits(3, 5, 4)
	feeds(t, newGuard(t, w), "\x02\x01\x01\x01", 3, api.ErrStuck)
	feeds(t, newGuard(t, w), "\x01\x02\x01\x01\x02\x01\x01\x03\x01\x04", 10, api.OK)
	feeds(t, newGuard(t, w), "\x01\x02\x01\x01\x03\x07\x07\x01\x07\x07", 9, api.ErrSkew)
}

func TestP8HowManyAtOnce(t *testing.T) {
	g := newGuard(t, limits(2, 50, 2))
	if n, e := g.Feed(nil); n != 0 || e != api.OK {
		t.Errorf("P8: Feed(nil) = %d, %d", n, e)
	}
	feeds(t, g, "", 0, api.OK)
	for _, number := range []int{1, 2, 199, api.MaxSamples} {
		g.Reset()
		feeds(t, g, noise(number), number, api.OK)
	}
	for _, number := range []int{api.MaxSamples + 1, 256, 257, 1 << 16} {
		feeds(t, newGuard(t, limits(2, 50, 2)), noise(number), 0, api.ErrArg)
		feeds(t, newGuard(t, limits(2, 50, 2)), strings.Repeat("a", number), 0, api.ErrArg)
	}
}

func TestP8EverySampleIsOne(t *testing.T) {
	for sample := range 256 {
		one, other := string([]byte{byte(sample)}), string([]byte{byte(sample + 1)})
		feeds(t, newGuard(t, limits(3, 50, 50)), other+strings.Repeat(one, 4), 3, api.ErrStuck)
		feeds(t, newGuard(t, limits(3, 50, 50)), strings.Repeat(one, 4), 2, api.ErrStuck)
		feeds(t, newGuard(t, limits(3, 50, 3)), strings.Repeat(one+other, 4), 4, api.ErrSkew)
	}
}

func TestP8Bounds(t *testing.T) {
	for n := 2; n <= api.MaxWindow; n++ {
		feeds(t, newGuard(t, limits(n, 50, 50)), "b"+strings.Repeat("a", n-1)+"b", n+1, api.OK)
		feeds(t, newGuard(t, limits(n, 50, 50)), "b"+strings.Repeat("a", 90), n, api.ErrStuck)
	}
	for n := 2; n <= 25; n++ { // how often a comes in a window of 50
		feeds(t, newGuard(t, limits(2, 50, n)), strings.Repeat("ab", 60), 2*n-2, api.ErrSkew)
	}
	for n := 26; n <= 50; n++ {
		feeds(t, newGuard(t, limits(2, 50, n)), strings.Repeat("ab", 60), 120, api.OK)
	}
	feeds(t, newGuard(t, limits(50, 50, 50)), strings.Repeat("a", 200), 49, api.ErrStuck)
	feeds(t, newGuard(t, limits(50, 50, 49)), strings.Repeat("a", 200), 48, api.ErrSkew)
	feeds(t, newGuard(t, limits(49, 50, 50)), strings.Repeat("a", 200), 48, api.ErrStuck)
}

func TestP8BothIsStuck(t *testing.T) {
	for n := 2; n <= api.MaxWindow; n++ {
		for window := n; window <= api.MaxWindow; window++ {
			feeds(t, newGuard(t, limits(n, window, n)), strings.Repeat("a", n), n-1, api.ErrStuck)
		}
	}
	g := newGuard(t, limits(2, 6, 3))
	feeds(t, g, "aba", 3, api.OK)
	feeds(t, g, "a", 0, api.ErrStuck)
	isDead(t, g)
}

func TestP8WindowsAreCountedFromTheFirstSample(t *testing.T) {
	g := newGuard(t, limits(50, 4, 3))
	feeds(t, g, "baa", 3, api.OK)
	feeds(t, g, "", 0, api.OK)
	feeds(t, g, "a", 1, api.OK)
	feeds(t, g, "aac", 3, api.OK)
	feeds(t, g, "bb", 2, api.OK) // the second begins a window
	feeds(t, g, "cb", 2, api.OK)
	feeds(t, g, "cb", 2, api.OK)
	feeds(t, g, "ccbc", 4, api.OK) // the last begins a window
	feeds(t, g, "cdc", 2, api.ErrSkew)
}

func TestP8RunsGoOnAcrossWindowsAndFeeds(t *testing.T) {
	for stuck := 3; stuck <= api.MaxWindow; stuck++ {
		g := newGuard(t, limits(stuck, 50, 50))
		feeds(t, g, noise(51)[1:]+noise(50)[1:], 99, api.OK) // one short of two windows
		for range stuck - 1 {
			feeds(t, g, "a", 1, api.OK)
		}
		feeds(t, g, "a", 0, api.ErrStuck)
	}
}

func TestP8EveryShortRowOfSamples(t *testing.T) {
	for _, w := range someLimits() {
		for length := range 8 {
			each("abc", length, func(samples string) { inPieces(t, w, newGuard(t, w), samples, nil) })
		}
	}
}

func TestP8CutAnyhow(t *testing.T) {
	for _, w := range someLimits() {
		each("a\x00", 9, func(samples string) {
			for cut := range 10 {
				inPieces(t, w, newGuard(t, w), samples, []int{cut})
			}
			inPieces(t, w, newGuard(t, w), samples, []int{1, 2, 3, 4, 5, 6, 7, 8})
		})
	}
}

func TestP8LongRowsCutAnyhow(t *testing.T) {
	r := rand.New(rand.NewSource(8))
	broken := [8]int{}
	for range 20000 {
		window := 2 + r.Intn(49)
		w := limits(2+r.Intn(49), window, 2+r.Intn(window-1))
		letters := 1 + r.Intn(12)
		samples := make([]byte, 150)
		for i := range samples {
			samples[i] = byte(r.Intn(letters) * r.Intn(2))
		}
		cuts := []int{r.Intn(151), r.Intn(151), r.Intn(151)}
		slices.Sort(cuts)
		_, e := breaks(w, string(samples))
		broken[e]++
		inPieces(t, w, newGuard(t, w), string(samples), cuts)
	}
	if broken[api.OK] < 500 || broken[api.ErrStuck] < 500 || broken[api.ErrSkew] < 500 {
		t.Errorf("the rows are no good trial: %v", broken)
	}
}

func TestP8BehindABreak(t *testing.T) {
	for _, c := range []struct {
		watch   api.Watch
		samples string
		number  int
		fault   api.Errno
	}{
		{limits(3, 12, 5), "aaa", 2, api.ErrStuck},
		{limits(3, 12, 5), "baaab", 3, api.ErrStuck},
		{limits(3, 6, 3), "abaabc", 3, api.ErrSkew},
		{limits(3, 12, 5), "abcabcababab", 10, api.ErrSkew},
	} {
		g := newGuard(t, c.watch)
		for range 3 {
			feeds(t, g, c.samples, c.number, c.fault)
			isDead(t, g)
			isDead(t, g)
			g.Reset()
		}
	}
}

func TestP8ResetAnywhere(t *testing.T) {
	for _, w := range []api.Watch{limits(2, 4, 2), limits(3, 4, 2), limits(3, 4, 3), limits(4, 5, 4), limits(50, 3, 3)} {
		for length := range 5 {
			each("ab", length, func(ahead string) {
				each("ab", 6, func(behind string) {
					g := newGuard(t, w)
					g.Reset()
					inPieces(t, w, g, ahead, nil)
					g.Reset()
					inPieces(t, w, g, behind, []int{3})
					g.Reset()
					g.Reset()
					inPieces(t, w, g, behind, nil)
				})
			})
		}
	}
}

func TestP8RefusalChangesNothing(t *testing.T) {
	for _, w := range []api.Watch{limits(2, 4, 2), limits(3, 4, 3), limits(4, 5, 4), limits(50, 3, 3)} {
		each("ab", 7, func(samples string) {
			bad, fault := breaks(w, samples)
			for cut := range bad + 1 {
				g := newGuard(t, w)
				feeds(t, g, samples[:cut], cut, api.OK)
				for _, long := range []string{strings.Repeat("a", api.MaxSamples+1), strings.Repeat("ab", api.MaxSamples), noise(1000)} {
					feeds(t, g, long, 0, api.ErrArg)
				}
				feeds(t, g, samples[cut:], bad-cut, fault)
			}
		})
	}
}

func TestP8SideBySide(t *testing.T) {
	w := limits(3, 6, 4)
	one, other, third := newGuard(t, w), newGuard(t, w), newGuard(t, limits(2, 6, 4))
	feeds(t, one, "aa", 2, api.OK)
	feeds(t, other, "aa", 2, api.OK)
	feeds(t, third, "ab", 2, api.OK)
	feeds(t, one, "a", 0, api.ErrStuck)
	feeds(t, third, "ab", 2, api.OK)
	feeds(t, other, "ba", 2, api.OK)
	other.Reset()
	isDead(t, one)
	feeds(t, third, "cac", 3, api.OK)
	one.Reset()
	feeds(t, other, "aab", 3, api.OK)
	feeds(t, one, "aaa", 2, api.ErrStuck)
	feeds(t, other, "aab", 1, api.ErrSkew)
}

func TestP8OneListForAllFeeds(t *testing.T) {
	g := newGuard(t, limits(3, 4, 3))
	list := make([]byte, 1, 8)
	for i, sample := range []byte("abaccbcbdd") {
		list[0] = sample
		if n, e := g.Feed(list); n != 1 || e != api.OK {
			t.Fatalf("P8: sample %d: %d, %d", i, n, e)
		}
		list[0] = 'd'
	}
	feeds(t, g, "d", 0, api.ErrStuck)
	if !bytes.Equal(list[:8], []byte{'d', 0, 0, 0, 0, 0, 0, 0}) {
		t.Errorf("P2: the list's spare room is %v", list[:8])
	}
}
