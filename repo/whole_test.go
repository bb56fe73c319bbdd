package repo

import (
	"bytes"
	"maps"
	"math/rand"
	"reflect"
	"slices"
	"testing"

	"cellarer/api"
	"cellarer/catalog"
	"cellarer/medium"
	"cellarer/plan"
	"cellarer/rebuild"
	"cellarer/tree"
)

// configs returns some Configs, with much and with little room.
func configs() []api.Config {
	return []api.Config{
		{Block: 64, Cap: 60, Primary: 3, Copies: 2, Drives: 2, Stage: 2000, Batch: 7},
		{Block: 256, Cap: 200, Primary: 4, Copies: 4, Drives: 3, Stage: 4000, Batch: 64},
		{Block: 32, Cap: 50, Primary: 2, Copies: 1, Drives: 1, Stage: 600, Batch: 3},
		{Block: 100, Cap: 12, Primary: 5, Copies: 3, Drives: 4, Stage: 900, Batch: 20},
		{Block: 33, Cap: 4, Primary: 8, Copies: 0, Drives: 2, Stage: 300, Batch: 1},
	}
}

// op is a call of a Repo, with what it makes of the model.
type op struct {
	what string
	call func(k *Repo) api.Errno
	next []snapshot
}

// randomTree returns a tree with texts that often occur again.
func randomTree(r *rand.Rand) []api.File {
	var l []string
	for range r.Intn(4) {
		l = append(l, text(r.Intn(6), r.Intn(120)))
	}
	return files(l...)
}

// randomOp returns a call that the model allows or refuses.
func (g *rig) randomOp(r *rand.Rand) op {
	name := string(rune('a' + r.Intn(10)))
	at := slices.IndexFunc(g.model, func(s snapshot) bool { return s.name == name })
	switch n := r.Intn(12); {
	case n < 4:
		l := randomTree(r)
		next := g.model
		if at < 0 && len(g.model) < api.MaxSnaps {
			next = append(slices.Clone(g.model), snapshot{name, l})
		}
		return op{"backup " + name, func(k *Repo) api.Errno { return k.Backup(name, l...) }, next}
	case n < 6:
		next := g.model
		if at >= 0 {
			next = slices.Delete(slices.Clone(g.model), at, at+1)
		}
		return op{"expire " + name, func(k *Repo) api.Errno { return k.Expire(name) }, next}
	case n < 8:
		return op{"migrate", (*Repo).Migrate, g.model}
	case n < 9:
		return op{"copy", (*Repo).Copy, g.model}
	case n < 11:
		vol := r.Intn(g.c.Primary + g.c.Copies)
		return op{"reclaim", func(k *Repo) api.Errno { return k.Reclaim(vol) }, g.model}
	}
	return op{"renew", (*Repo).Renew, g.model}
}

// do carries a call out that nothing interrupts.
func (g *rig) do(o op) {
	g.t.Helper()
	has := func(name string) bool {
		return slices.ContainsFunc(g.model, func(s snapshot) bool { return "backup "+s.name == name || "expire "+s.name == name })
	}
	switch e := o.call(g.k); e {
	case api.OK:
		g.model = o.next
	case api.ErrTwice:
		if o.what[0] != 'b' || !has(o.what) {
			g.t.Fatal(o.what, e)
		}
	case api.ErrNone:
		if o.what[0] != 'e' || has(o.what) {
			g.t.Fatal(o.what, e)
		}
	case api.ErrState:
		if o.what != "reclaim" {
			g.t.Fatal(o.what, e)
		}
	case api.ErrFull, api.ErrScratch, api.ErrLimit:
	default:
		g.t.Fatal(o.what, e)
	}
}

// onTapes returns the snapshots that were migrated whole.
func (g *rig) onTapes() []snapshot {
	c := g.k.Catalog()
	var l []snapshot
	for i, s := range c.Snaps {
		whole := len(s.Locs) > 0
		for _, p := range s.Man.Parts {
			for _, id := range p.Ids {
				whole = whole && len(c.Chunks[catalog.Chunk(c, id)].Locs) > 0
			}
		}
		if whole {
			l = append(l, g.model[i])
		}
	}
	return l
}

// tapesTell sees that what is on tapes can be had from the tapes alone (T3).
func (g *rig) tapesTell() {
	g.t.Helper()
	h := g.twin()
	h.model = g.onTapes()
	h.ok(h.rebuild())
	h.sound()
	got, want := h.k.Catalog(), rebuild.Part(g.k.Catalog())
	if got.Seq < want.Seq {
		g.t.Fatal("the Seq went back", got.Seq, want.Seq)
	}
	got.Seq = want.Seq
	a, e := catalog.Bytes(got)
	b, f := catalog.Bytes(want)
	if e != api.OK || f != api.OK || !bytes.Equal(a, b) {
		g.t.Fatalf("the tapes tell %+v, not %+v", got, want)
	}
}

// TestAListOfTrees is T1, with T3 on the way.
func TestAListOfTrees(t *testing.T) {
	for i, c := range configs() {
		r := rand.New(rand.NewSource(int64(i)))
		g := newRig(t, c)
		done := map[string]int{}
		for step := range 250 {
			o := g.randomOp(r)
			g.do(o)
			done[o.what[:4]]++
			g.sound()
			if step%5 == 0 {
				g.tapesTell()
			}
			if step%40 == 39 {
				g.ok(g.open())
				g.sound()
			}
		}
		if len(done) != 6 {
			t.Error(done)
		}
	}
}

// trip schedules a loss within the next writes, with any kind of surviving writes.
func (g *rig) trip(r *rand.Rand, most int) {
	keep := make([]bool, r.Intn(30))
	all := r.Intn(3)
	for i := range keep {
		keep[i] = all == 1 || all == 2 && r.Intn(2) == 0
	}
	g.p.Trip(1+r.Intn(most), keep, r.Intn(20)-8)
}

// recovers opens the repository after a loss, during which the power is lost again some times.
func (g *rig) recovers(r *rand.Rand) {
	g.t.Helper()
	for range 3 {
		g.p.Start()
		g.trip(r, 30)
		if e := g.open(); e == api.OK {
			break
		} else if e != api.ErrOff {
			g.t.Fatal("recovery", e)
		}
	}
	g.p.Start()
	g.p.Trip(0, nil, 0)
	g.ok(g.open())
}

// settle takes over what an interrupted call has done.
func (g *rig) settle(o op) {
	g.t.Helper()
	if !shows(g.k, g.model) {
		g.model = o.next
	}
	g.sound()
	was := g.k.Catalog()
	g.ok(g.open())
	if !reflect.DeepEqual(g.k.Catalog(), was) {
		g.t.Fatal("recovering twice is not as once")
	}
	g.sound()
	g.tapesTell()
}

// TestPowerLoss is T2.
func TestPowerLoss(t *testing.T) {
	for i, c := range configs() {
		r := rand.New(rand.NewSource(int64(100 + i)))
		g := newRig(t, c)
		lost := 0
		for step := range 1200 {
			if step%30 == 29 {
				// A repository that is full has nothing left to interrupt.
				g = newRig(t, c)
			}
			o := g.randomOp(r)
			if r.Intn(3) == 0 {
				g.do(o)
				continue
			}
			g.trip(r, 3+r.Intn(20))
			e := o.call(g.k)
			g.p.Trip(0, nil, 0)
			if e != api.ErrOff {
				if g.p.Off() {
					t.Fatal("the power is off without an error", o.what, e)
				}
				if e == api.OK {
					g.model = o.next
				}
				continue
			}
			lost++
			if !g.k.Down() {
				t.Fatal("not down", o.what)
			}
			g.recovers(r)
			g.settle(o)
		}
		if lost < 50 {
			t.Error("few losses", lost)
		}
	}
}

// TestLossAtEveryWrite interrupts each call of a script at each of its writes.
func TestLossAtEveryWrite(t *testing.T) {
	c := api.Config{Block: 64, Cap: 30, Primary: 2, Copies: 2, Drives: 1, Stage: 2000, Batch: 4}
	backup := func(name string, l ...string) func(g *rig) op {
		return func(g *rig) op {
			return op{name, func(k *Repo) api.Errno { return k.Backup(name, files(l...)...) }, append(slices.Clone(g.model), snapshot{name, files(l...)})}
		}
	}
	same := func(call func(*Repo) api.Errno) func(g *rig) op {
		return func(g *rig) op { return op{"same", call, g.model} }
	}
	expire := func(name string) func(g *rig) op {
		return func(g *rig) op {
			return op{name, func(k *Repo) api.Errno { return k.Expire(name) }, slices.DeleteFunc(slices.Clone(g.model), func(s snapshot) bool { return s.name == name })}
		}
	}
	script := []func(g *rig) op{
		backup("one", text(1, 90), text(2, 60)), same((*Repo).Migrate), backup("two", text(2, 60), text(3, 50)), same((*Repo).Migrate), same((*Repo).Copy), expire("one"),
		same(func(k *Repo) api.Errno { return k.Reclaim(0) }), same((*Repo).Renew), same(func(k *Repo) api.Errno { return k.Reclaim(2) }), expire("two"),
	}
	keeps := [][]bool{nil, slices.Repeat([]bool{true}, 40), slices.Repeat([]bool{true, false}, 20)}
	for step := range script {
		for n := 1; ; n++ {
			interrupted := false
			for k, keep := range keeps {
				for _, torn := range []int{-1, 0, 1, 30} {
					g := newRig(t, c)
					for _, earlier := range script[:step] {
						g.do(earlier(g))
					}
					o := script[step](g)
					g.p.Trip(n, keep, torn)
					e := o.call(g.k)
					g.p.Trip(0, nil, 0)
					if e == api.OK {
						continue
					}
					interrupted = true
					g.expect(e, api.ErrOff)
					g.p.Start()
					if (n+k)%3 == 0 {
						g.p.Trip(1+n%4, keep, torn)
						g.open()
						g.p.Start()
						g.p.Trip(0, nil, 0)
					}
					g.ok(g.open())
					if !shows(g.k, g.model) && !shows(g.k, o.next) {
						t.Fatal("step", step, "write", n, keep, torn)
					}
					g.settle(o)
				}
			}
			if !interrupted {
				break
			}
		}
	}
}

// TestMediaFaults is T4, with the bounds of T5.
func TestMediaFaults(t *testing.T) {
	exact, lost := 0, 0
	for i, c := range configs() {
		r := rand.New(rand.NewSource(int64(200 + i)))
		for range 40 {
			g := newRig(t, c)
			for range 12 {
				g.do(g.randomOp(r))
			}
			g.k.Migrate()
			if r.Intn(4) > 0 {
				g.k.Copy()
			}
			for range r.Intn(40) {
				g.damage(r)
			}
			for _, s := range g.model {
				l, e := g.k.Restore(s.name)
				switch {
				case e == api.OK && tree.Same(l, s.tree):
					exact++
				case e == api.ErrMedia && len(l) == 0 && !g.readable(s.tree):
					lost++
				default:
					t.Fatal("restore", e, g.readable(s.tree))
				}
				if e == api.OK {
					g.bounded()
				}
			}
		}
	}
	if exact < 50 || lost < 20 {
		t.Error(exact, lost)
	}
}

// damage spoils a cell or inverts a bit.
func (g *rig) damage(r *rand.Rand) {
	vol := r.Intn(g.r.Vols())
	m, _ := g.r.Medium(vol)
	at := r.Intn(len(m.Cells))
	bad, e := medium.Spoil(m, at)
	if r.Intn(2) == 0 && m.Cells[at].Kind == api.CellBlock {
		bad, e = medium.Flip(m, at, r.Intn(8*len(m.Cells[at].Data)))
	}
	g.ok(e)
	g.ok(g.r.Put(vol, bad))
}

// bounded sees that the last Restore read each location at most once; if no read failed, that each volume was mounted
// at most once and read in ascending order.
func (g *rig) bounded() {
	g.t.Helper()
	c := g.k.Catalog()
	reads, mounted := map[api.Loc]int{}, map[int]int{}
	failed, ascending := false, true
	last := map[int]api.Loc{}
	for _, m := range g.k.Moves() {
		if m.Kind == api.MoveMount {
			mounted[m.Vol]++
			continue
		}
		reads[m.Loc]++
		was, ok := last[m.Vol]
		ascending = ascending && (!ok || plan.Ahead(was, m.Loc))
		last[m.Vol] = m.Loc
		i := slices.IndexFunc(c.Chunks, func(k api.Chunk) bool { return slices.Contains(k.Locs, m.Loc) })
		_, held := g.k.works.readChunk(c.Chunks[i].Id, m.Loc)
		failed = failed || !held
	}
	twice := func(n int) bool { return n > 1 }
	if slices.ContainsFunc(slices.Collect(maps.Values(reads)), twice) {
		g.t.Fatal("a location is read twice")
	}
	if !failed && (!ascending || slices.ContainsFunc(slices.Collect(maps.Values(mounted)), twice)) {
		g.t.Fatal("a volume is mounted twice or read out of order", g.k.Moves())
	}
}
