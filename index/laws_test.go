package index_test

import (
	"math/rand"
	"slices"
	"testing"

	"yardarm/api"
	"yardarm/index"
)

// samples tells histories that are well-formed.
func samples(t *testing.T) []api.History {
	t.Helper()
	all := []api.History{{}, read(t, chapter)}
	for seed := range int64(120) {
		all = append(all, drawn(rand.New(rand.NewSource(seed+1000)), 90, 1+int(seed)%8))
	}
	return all
}

// P16.6: ranks are from 0 to how many installers there are, each that of one version; who installs the next one is told of each but the last.
func TestRanks(t *testing.T) {
	for _, h := range samples(t) {
		for x := range h.Objects {
			l, _ := index.Installed(h, x)
			all := []api.Version{first}
			for _, e := range h.Events {
				if e.Kind == api.EvWrite && e.Object == x {
					all = append(all, e.Version)
				}
			}
			ranks := make([]int, len(l)+1)
			for _, v := range all {
				if rank, is := index.Rank(h, x, v); is {
					ranks[rank]++
				}
			}
			if slices.Min(ranks) != 1 || slices.Max(ranks) != 1 {
				t.Errorf("of %v, %d the ranks are met %v times", brief(h), x, ranks)
			}
			for rank := range ranks {
				n, is := index.Next(h, x, rank)
				if is != (rank < len(l)) || is && n != l[rank] {
					t.Errorf("Next of %v, %d, %d is %d, %v", brief(h), x, rank, n, is)
				}
				v, _, _ := index.Final(h, n, x)
				if got, has := index.Rank(h, x, v); is && (got != rank+1 || !has) {
					t.Errorf("of %v, %d Next of %d has made the rank %d, %v", brief(h), x, rank, got, has)
				}
			}
		}
	}
}

// P16.6: installers are committed.
func TestInstallersCommitted(t *testing.T) {
	several := 0
	for _, h := range samples(t) {
		done, _ := index.Committed(h)
		for x := range h.Objects {
			l, _ := index.Installed(h, x)
			for _, n := range l {
				if !slices.Contains(done, n) {
					t.Errorf("of %v %d installs %d, and has not committed", brief(h), n, x)
				}
			}
			if len(l) > 1 {
				several++
			}
		}
	}
	if several < 20 {
		t.Errorf("only %d objects have several installers", several)
	}
}

// P16.6: each that has committed is in one line, that of the session of its begin.
func TestLines(t *testing.T) {
	for _, h := range samples(t) {
		var all []int
		for s := range h.Sessions {
			l, _ := index.Line(h, s)
			for _, n := range l {
				if own, _, _ := index.Begun(h, n); own != s {
					t.Errorf("of %v %d is in the line %d, not %d", brief(h), n, s, own)
				}
			}
			all = append(all, l...)
		}
		slices.Sort(all)
		if done, _ := index.Committed(h); !slices.Equal(all, done) {
			t.Errorf("of %v %v are in lines, and %v have committed", brief(h), all, done)
		}
	}
}

// P16.6: what a scan names is among its sights, and these are of all objects.
func TestNamed(t *testing.T) {
	named := 0
	for _, h := range samples(t) {
		for at, e := range h.Events {
			if e.Kind != api.EvScan {
				continue
			}
			l, err := index.Sights(h, at)
			if len(l) != len(h.Objects) || err != api.OK {
				t.Errorf("Sights of %v, %d is %v, %d", brief(h), at, l, err)
			}
			for x, s := range l {
				if s.Object != x {
					t.Errorf("Sights of %v, %d is %v", brief(h), at, l)
				}
			}
			for _, s := range e.Scan {
				named++
				if !slices.Contains(l, s) {
					t.Errorf("Sights of %v, %d is %v, without %v", brief(h), at, l, s)
				}
			}
		}
	}
	if named < 100 {
		t.Errorf("only %d versions are named", named)
	}
}
