// Package spring: random bytes, and what they are made of: see DOC.md.
package spring

import (
	"slices"

	"spring/api"
	"spring/digest"
	"spring/generate"
	"spring/watch"
)

// Sum tells the sum of some bytes (P3).
func Sum(data string) (string, api.Errno) {
	if len(data) > api.MaxData {
		return "", api.ErrArg
	}
	sum := digest.Sum([]byte(data))
	return string(sum[:]), api.OK
}

// Mac tells the sum of some bytes with a key (P3).
func Mac(key string, data string) (string, api.Errno) {
	if len(key) > api.MaxData || len(data) > api.MaxData {
		return "", api.ErrArg
	}
	mac := digest.Mac([]byte(key), []byte(data))
	return string(mac[:]), api.OK
}

// Summer sums up bytes that come piece by piece.
type Summer struct {
	state digest.State
}

// NewSummer makes one (P4).
func NewSummer() *Summer { return &Summer{state: digest.New()} }

// Add takes a piece (P4).
func (s *Summer) Add(data []byte) api.Errno {
	if len(data) > api.MaxData {
		return api.ErrArg
	}
	s.state.Add(data)
	return api.OK
}

// Sum tells the sum of all pieces (P4).
func (s *Summer) Sum() string {
	sum := s.state.Sum()
	return string(sum[:])
}

// Source is a generator.
type Source struct {
	generator generate.Generator
	rounds    uint64
}

// New makes a generator (P5).
func New(kind int, entropy string, nonce string, name string) (*Source, api.Errno) {
	generator := generate.Unseeded(generate.Kind(kind))
	if generator == nil {
		return nil, api.ErrKind
	}
	if !maySeed(entropy) || len(nonce) > api.MaxExtra || len(name) > api.MaxExtra {
		return nil, api.ErrArg
	}
	generator.Seed([]byte(entropy + nonce + name))
	return &Source{generator: generator, rounds: 1}, api.OK
}

// maySeed tells whether entropy is as long as a seeding wants it.
func maySeed(entropy string) bool {
	return api.MinEntropy <= len(entropy) && len(entropy) <= api.MaxEntropy
}

// Reseed gives a generator new entropy (P6).
func (s *Source) Reseed(entropy string, extra string) api.Errno {
	if !maySeed(entropy) || len(extra) > api.MaxExtra {
		return api.ErrArg
	}
	s.generator.Reseed([]byte(entropy + extra))
	s.rounds = 1
	return api.OK
}

// Read draws bytes (P7).
func (s *Source) Read(n int, extra string) ([]byte, api.Errno) {
	if !mayRead(n, extra) {
		return nil, api.ErrArg
	}
	if s.spent() {
		return nil, api.ErrReseed
	}
	out := s.generator.Read(n, []byte(extra), s.rounds)
	s.rounds++
	return out, api.OK
}

// mayRead tells whether a read may be asked for so.
func mayRead(n int, extra string) bool {
	return 0 <= n && n <= api.MaxRead && len(extra) <= api.MaxExtra
}

// spent tells whether a generator wants new entropy.
func (s *Source) spent() bool { return s.rounds > api.MaxReads }

// Guard keeps watch over samples.
type Guard struct {
	limits api.Watch
	state  watch.State
	broken bool
}

// NewGuard makes one (P8).
func NewGuard(w api.Watch) (*Guard, api.Errno) {
	if !mayWatch(w) {
		return nil, api.ErrArg
	}
	return &Guard{limits: w}, api.OK
}

// mayWatch tells whether samples may be held to these limits.
func mayWatch(w api.Watch) bool {
	return 2 <= w.Stuck && w.Stuck <= api.MaxWindow &&
		2 <= w.Window && w.Window <= api.MaxWindow &&
		2 <= w.Skew && w.Skew <= w.Window
}

// Feed brings samples (P8).
func (g *Guard) Feed(samples []byte) (int, api.Errno) {
	if g.broken {
		return 0, api.ErrDead
	}
	if len(samples) > api.MaxSamples {
		return 0, api.ErrArg
	}
	fault := g.state.Take(samples, g.limits)
	if fault == nil {
		return len(samples), api.OK
	}
	*g = Guard{limits: g.limits, broken: true}
	return fault.Ahead(), faultNumber(fault)
}

// faultNumber tells by which error callers learn of a fault.
func faultNumber(fault watch.Fault) api.Errno {
	switch fault.(type) {
	case watch.Stuck:
		return api.ErrStuck
	case watch.Skew:
		return api.ErrSkew
	}
	return api.OK
}

// Reset lets a guard begin anew (P8).
func (g *Guard) Reset() { *g = Guard{limits: g.limits} }

// Well is a generator that is fed by samples.
type Well struct {
	kind    int
	name    string
	guard   Guard
	samples []byte  // MaxSamples of them at most
	source  *Source // nil until there were samples enough
}

// Open makes one (P9).
func Open(kind int, w api.Watch, name string) (*Well, api.Errno) {
	if generate.Unseeded(generate.Kind(kind)) == nil {
		return nil, api.ErrKind
	}
	if !mayWatch(w) || len(name) > api.MaxExtra {
		return nil, api.ErrArg
	}
	return &Well{kind: kind, name: name, guard: Guard{limits: w}}, api.OK
}

// Feed brings samples (P9).
func (w *Well) Feed(samples []byte) (int, api.Errno) {
	number, e := w.guard.Feed(samples)
	if e == api.OK {
		w.keep(samples)
	}
	if w.guard.broken {
		w.samples = nil
	}
	return number, e
}

// keep puts samples behind those that are kept; if they are too many then, the oldest go.
func (w *Well) keep(samples []byte) {
	w.samples = append(w.samples, samples...)
	excess := max(0, len(w.samples)-api.MaxSamples)
	w.samples = slices.Delete(w.samples, 0, excess)
}

// Draw draws bytes (P10).
func (w *Well) Draw(n int, extra string) ([]byte, api.Errno) {
	if !mayRead(n, extra) {
		return nil, api.ErrArg
	}
	if w.guard.broken {
		return nil, api.ErrDead
	}
	if w.source == nil || w.source.spent() {
		if len(w.samples) < api.MinSamples {
			return nil, api.ErrLittle
		}
		w.seed()
	}
	return w.source.Read(n, extra)
}

// seed makes entropy of the samples. None of what it calls can refuse: kind and name were looked at by Open, and a sum is as long as entropy may be.
func (w *Well) seed() {
	sum := digest.Sum(w.samples)
	entropy := string(sum[:])
	w.samples = nil
	if w.source == nil {
		w.source, _ = New(w.kind, entropy, "", w.name)
		return
	}
	w.source.Reseed(entropy, "")
}

// Samples tells how many are kept (P9).
func (w *Well) Samples() int { return len(w.samples) }
