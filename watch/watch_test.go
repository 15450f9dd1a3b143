package watch_test

import (
	"testing"

	"spring/api"
	"spring/watch"
)

var limits = api.Watch{Stuck: 3, Window: 5, Skew: 4}

func TestFaultsAreToldByTheirType(t *testing.T) {
	for samples, want := range map[string]watch.Fault{
		"":           nil,
		"abaabaacad": nil,
		"aaa":        watch.Stuck(2),
		"baaa":       watch.Stuck(3),
		"abaa\x00a":  nil,
		"abaca":      nil,
		"abaacggagg": watch.Skew(9),
		"aabaa":      watch.Skew(4),
	} {
		var state watch.State
		if got := state.Take([]byte(samples), limits); got != want {
			t.Errorf("P8: Take(%q) = %T %v, want %T %v", samples, got, got, want, want)
		}
	}
}

func TestAheadCountsWhatWasTakenAtOnce(t *testing.T) {
	var stuck, skew watch.State
	if stuck.Take([]byte("abcaa"), limits) != nil || skew.Take([]byte("abcdeaba"), limits) != nil {
		t.Fatal("P8: samples that are all right have a fault")
	}
	if fault := stuck.Take([]byte("a"), limits); fault != watch.Stuck(0) || fault.Ahead() != 0 {
		t.Errorf("P8: %T %v, want Stuck 0", fault, fault)
	}
	limits := api.Watch{Stuck: 3, Window: 5, Skew: 3}
	if fault := skew.Take([]byte("ba"), limits); fault != watch.Skew(1) || fault.Ahead() != 1 {
		t.Errorf("P8: %T %v, want Skew 1", fault, fault)
	}
}

func TestZeroStateHasSeenNothing(t *testing.T) {
	var state watch.State
	if fault := state.Take([]byte{0, 0, 1}, limits); fault != nil {
		t.Errorf("P8: two samples 0 at the start: %T %v", fault, fault)
	}
	state = watch.State{}
	if fault := state.Take([]byte{0, 0, 0}, limits); fault != watch.Stuck(2) {
		t.Errorf("P8: three samples 0 at the start: %T %v", fault, fault)
	}
}
