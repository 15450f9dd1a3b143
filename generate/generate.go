// Package generate: generators, which make bytes out of a seed. What a call may ask of them, and how often, is for the callers to hold to.
package generate

import "spring/api"

// Kind tells generators apart by what they make their bytes with.
type Kind int

// The kinds begin where those of package api do, since callers name them by those numbers.
const (
	ByMac Kind = iota + api.ByMac
	BySum
)

// Generator is what all kinds have in common. Rounds is told to Read, not kept here: it is counted alike for all kinds.
type Generator interface {
	// Seed lets it begin anew: nothing of an earlier seed is left.
	Seed(seed []byte)
	// Reseed brings new bytes to those that it was seeded with.
	Reseed(fresh []byte)
	// Read draws n bytes.
	Read(n int, extra []byte, rounds uint64) []byte
}

// Unseeded makes a generator that has no seed yet, or nil if it is no kind.
func Unseeded(kind Kind) Generator {
	switch kind {
	case ByMac:
		return &macGenerator{}
	case BySum:
		return &sumGenerator{}
	}
	return nil
}
