package power

import (
	"math"
	"testing"
)

func TestNew(t *testing.T) {
	for _, p := range []*Power{New(), {}} {
		if p.Off() || p.Life() != 0 || p.Torn() != -1 {
			t.Error(p.Off(), p.Life(), p.Torn())
		}
		for _, k := range []int{0, 1, -1, math.MaxInt, math.MinInt} {
			if p.Kept(k) {
				t.Error("kept", k)
			}
		}
	}
}

func TestCutAndStart(t *testing.T) {
	p := New()
	p.Start()
	if p.Life() != 0 || p.Off() {
		t.Error("Start of a power that is on")
	}
	p.Cut([]bool{false, true}, 5)
	if !p.Off() || p.Life() != 0 || p.Kept(0) || !p.Kept(1) || p.Kept(2) || p.Kept(-1) || p.Torn() != 5 {
		t.Error("Cut")
	}
	p.Cut([]bool{true}, 6)
	if p.Kept(0) || !p.Kept(1) || p.Torn() != 5 {
		t.Error("Cut of a power that is off")
	}
	if p.Spend() {
		t.Error("Spend without power")
	}
	p.Start()
	if p.Off() || p.Life() != 1 || !p.Kept(1) || p.Torn() != 5 || !p.Spend() {
		t.Error("Start")
	}
	p.Start()
	p.Cut(nil, -7)
	p.Start()
	if p.Life() != 2 || p.Kept(1) || p.Torn() != -7 {
		t.Error("the second life")
	}
}

func TestTrip(t *testing.T) {
	p := New()
	p.Trip(3, []bool{true}, 9)
	if p.Torn() != -1 || p.Kept(0) {
		t.Error("Trip alone loses power")
	}
	for i, want := range []bool{true, true, false, false} {
		if p.Spend() != want {
			t.Error("Spend", i)
		}
		if p.Off() != (i >= 2) {
			t.Error("Off", i)
		}
	}
	if !p.Kept(0) || p.Torn() != 9 {
		t.Error("the loss")
	}
	p.Start()
	for range 10 {
		if !p.Spend() {
			t.Error("a loss comes twice")
		}
	}
}

func TestTripReplaces(t *testing.T) {
	p := New()
	p.Trip(1, nil, 0)
	p.Trip(2, nil, 0)
	if !p.Spend() || p.Spend() {
		t.Error("the later Trip does not count")
	}
	p.Start()
	for _, n := range []int{0, -1, math.MinInt} {
		p.Trip(1, nil, 0)
		p.Trip(n, nil, 0)
		if !p.Spend() {
			t.Error("Trip schedules none", n)
		}
	}
}

func TestCutEndsTheSchedule(t *testing.T) {
	p := New()
	p.Trip(1, nil, 3)
	p.Cut(nil, 4)
	p.Start()
	if !p.Spend() || p.Torn() != 4 {
		t.Error("the schedule outlives a Cut")
	}
}

func TestTripWhileOff(t *testing.T) {
	p := New()
	p.Cut(nil, 1)
	p.Trip(2, nil, 2)
	if p.Spend() || p.Spend() || p.Spend() {
		t.Error("Spend without power")
	}
	p.Cut(nil, 3)
	p.Start()
	if !p.Spend() || p.Spend() || p.Torn() != 2 {
		t.Error("calls without power count for Trip")
	}
}

func TestKeepIsCopied(t *testing.T) {
	p := New()
	keep := []bool{true}
	p.Trip(1, keep, 0)
	keep[0] = false
	p.Spend()
	if !p.Kept(0) {
		t.Error("Trip keeps its argument")
	}
	p.Start()
	keep[0] = true
	p.Cut(keep[:0], 0)
	if p.Kept(0) {
		t.Error("memory behind the length is read")
	}
}

func TestPowerStaysOn(t *testing.T) {
	p := New()
	for range 1000 {
		if !p.Spend() || p.Off() {
			t.Fatal("lost")
		}
	}
}
