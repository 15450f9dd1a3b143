// Package watch: watch over samples, one by one. Which limits may be set, and that no samples come behind a fault, is for the callers to hold to.
package watch

import "spring/api"

// Fault is something wrong with samples; its type tells what: Stuck or Skew.
type Fault interface {
	// Ahead tells how many of the samples that were taken at once came ahead of the bad one.
	Ahead() int
}

// Stuck is a sample that came too often one behind the other.
type Stuck int

// Ahead: see Fault.
func (s Stuck) Ahead() int { return int(s) }

// Skew is a sample that came too often in a window.
type Skew int

// Ahead: see Fault.
func (s Skew) Ahead() int { return int(s) }

// State is what must be known of the samples so far. Its zero value is that of no samples.
type State struct {
	run    run
	window window
}

// Take looks at samples, one behind the other, as far as the first that is bad; nil, if none is. A sample that is bad in both ways is Stuck.
func (s *State) Take(samples []byte, limits api.Watch) Fault {
	for ahead, sample := range samples {
		if s.run.count(sample) >= limits.Stuck {
			return Stuck(ahead)
		}
		if s.window.count(sample, limits.Window) >= limits.Skew {
			return Skew(ahead)
		}
	}
	return nil
}

// run is one sample that comes again and again.
type run struct {
	sample byte
	times  int // 0: no sample has come, whatever sample says
}

// count takes a sample and tells how often it has come one behind the other.
func (r *run) count(sample byte) int {
	if sample != r.sample {
		*r = run{sample: sample}
	}
	r.times++
	return r.times
}

// window is some samples one behind the other, of which the first is counted.
type window struct {
	first byte
	times int
	came  int // of all samples
}

// count takes a sample and tells how often the first one of its window has come in it.
func (w *window) count(sample byte, length int) int {
	if w.came == length {
		*w = window{}
	}
	if w.came == 0 {
		w.first = sample
	}
	w.came++
	if sample == w.first {
		w.times++
	}
	return w.times
}
