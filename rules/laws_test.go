package rules_test

import (
	"math/rand"
	"testing"

	"yardarm/api"
	"yardarm/history"
	"yardarm/rules"
)

// samples tells histories that are well-formed.
func samples() []api.History {
	all := []api.History{{}, chapter()}
	for seed := range int64(400) {
		all = append(all, sound(rand.New(rand.NewSource(seed)), 60, 1+int(seed)%9))
	}
	return all
}

// P15.3: what is wrong is of the first rule that is broken.
func TestFirstAndPlace(t *testing.T) {
	for seed, h := range samples() {
		r := rand.New(rand.NewSource(int64(seed)))
		for range 5 {
			h, _ = history.Number(bent(r, h))
			b, broken, _ := rules.First(h)
			for rule := api.RuBegin; rule <= api.RuWant; rule++ {
				at, is, err := rules.Place(h, rule)
				if err != api.OK || broken && rule == b.Rule && (!is || at != b.Place) || is && (!broken || rule < b.Rule) {
					t.Errorf("First of %v is %v, %v; Place of %d is %d, %v, %d", brief(h), b, broken, rule, at, is, err)
				}
			}
			if rules.Sound(h) == broken {
				t.Errorf("Sound of %v is %v", brief(h), broken)
			}
		}
	}
}

// P15.3: a well-formed history, completed, is well-formed.
func TestCompleted(t *testing.T) {
	open := 0
	for _, h := range samples() {
		full, err := history.Complete(h)
		if err != api.OK || !rules.Sound(full) {
			t.Errorf("Sound of %v, completed, is false, %d", brief(h), err)
		}
		open += len(full.Events) - len(h.Events)
	}
	if open == 0 {
		t.Error("no history was open")
	}
}

// P15.3: so is the beginning of one, of its events alone, as long as no object has two writers; then the order is missing.
func TestBeginnings(t *testing.T) {
	var sound, missing int
	for _, h := range samples() {
		for n := range h.Events {
			part := h
			part.Events = h.Events[:n]
			part.Orders, part.Matches, part.Wants = nil, nil, nil
			part, err := history.Number(part)
			if err != api.OK {
				t.Errorf("Number of the beginning %d of %v is %d", n, brief(h), err)
			}
			two := false
			for x := range part.Objects {
				l, _ := rules.Writers(part, x)
				two = two || len(l) > 1
			}
			b, broken, _ := rules.First(part)
			switch {
			case broken != two || two && b.Rule != api.RuMissing:
				t.Errorf("First of the beginning %d of %v is %v, %v", n, brief(h), b, broken)
			case two:
				missing++
			default:
				sound++
			}
		}
	}
	if sound == 0 || missing == 0 {
		t.Errorf("of the beginnings %d are well-formed, and %d lack an order", sound, missing)
	}
}
