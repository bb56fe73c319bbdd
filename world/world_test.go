package world

import (
	"bytes"
	"math"
	"math/rand"
	"reflect"
	"slices"
	"testing"

	"cellarer/api"
	"cellarer/rebuild"
	"cellarer/tree"
)

func config() api.Config {
	return api.Config{Block: 64, Cap: 60, Primary: 3, Copies: 2, Drives: 2, Stage: 4000, Batch: 7}
}

func newWorld(t *testing.T, c api.Config) *World {
	t.Helper()
	w, e := New(c)
	if e != api.OK {
		t.Fatal(e)
	}
	return w
}

func files(texts ...string) []api.File {
	var l []api.File
	for i, s := range texts {
		l = append(l, api.File{Path: string(rune('a' + i)), Data: []byte(s)})
	}
	return l
}

func text(seed, n int) string {
	b := make([]byte, n)
	rand.New(rand.NewSource(int64(seed))).Read(b)
	return string(b)
}

func do(t *testing.T, w *World, x api.Step, want api.Errno) {
	t.Helper()
	if e := w.Do(x); e != want {
		t.Fatalf("%+v: %d, not %d", x, e, want)
	}
}

func TestNew(t *testing.T) {
	for i, edit := range []func(c *api.Config){
		func(c *api.Config) { c.Block = 31 }, func(c *api.Config) { c.Cap = 3 }, func(c *api.Config) { c.Cap = api.MaxCells + 1 }, func(c *api.Config) { c.Primary = 0 }, func(c *api.Config) { c.Copies = -1 },
		func(c *api.Config) { c.Primary = 7 }, func(c *api.Config) { c.Primary, c.Copies = math.MaxInt, math.MaxInt }, func(c *api.Config) { c.Primary, c.Copies = math.MinInt, math.MinInt+5 }, func(c *api.Config) { c.Drives = 5 },
		func(c *api.Config) { c.Stage = -1 }, func(c *api.Config) { c.Batch = 0 }, func(c *api.Config) { *c = api.Config{} },
	} {
		c := config()
		edit(&c)
		if w, e := New(c); w != nil || e != api.ErrArg {
			t.Error(i, e)
		}
	}
	w := newWorld(t, config())
	if w.Off() || len(w.Repo().Names()) != 0 || w.Repo().Down() || len(w.Repo().Catalog().Vols) != 5 {
		t.Error("a new world")
	}
	for vol, want := range map[int]api.Errno{-1: api.ErrArg, 0: api.OK, 4: api.OK, 5: api.ErrArg} {
		if m, e := w.Medium(vol); e != want || e == api.OK && (m.Cap != 60 || len(m.Cells) != 2) {
			t.Error(vol, m, e)
		}
	}
}

func TestCallsOfTheRepo(t *testing.T) {
	w := newWorld(t, config())
	l := files(text(1, 200), text(2, 100))
	do(t, w, api.Step{Kind: api.StepBackup, Name: "one", Tree: l}, api.OK)
	do(t, w, api.Step{Kind: api.StepBackup, Name: "one", Tree: l}, api.ErrTwice)
	do(t, w, api.Step{Kind: api.StepBackup, Name: ""}, api.ErrArg)
	do(t, w, api.Step{Kind: api.StepBackup, Name: "two"}, api.OK)
	if !slices.Equal(w.Repo().Names(), []string{"one", "two"}) {
		t.Error(w.Repo().Names())
	}
	do(t, w, api.Step{Kind: api.StepExpire, Name: "two"}, api.OK)
	do(t, w, api.Step{Kind: api.StepExpire, Name: "two"}, api.ErrNone)
	do(t, w, api.Step{Kind: api.StepMigrate}, api.OK)
	if w.Repo().Catalog().Vols[0].State != api.VolFilling {
		t.Error("not migrated")
	}
	do(t, w, api.Step{Kind: api.StepCopy}, api.OK)
	if w.Repo().Catalog().Vols[3].State != api.VolFilling {
		t.Error("not copied")
	}
	do(t, w, api.Step{Kind: api.StepRestore, Name: "one"}, api.OK)
	if len(w.Repo().Moves()) == 0 {
		t.Error("not restored")
	}
	do(t, w, api.Step{Kind: api.StepRestore, Name: "none"}, api.ErrNone)
	do(t, w, api.Step{Kind: api.StepReclaim, Vol: 0}, api.OK)
	do(t, w, api.Step{Kind: api.StepReclaim, Vol: 0}, api.ErrState)
	do(t, w, api.Step{Kind: api.StepReclaim, Vol: 9}, api.ErrArg)
	if v := w.Repo().Catalog().Vols; v[0].Epoch != 1 || v[1].State != api.VolFilling {
		t.Error(v)
	}
	do(t, w, api.Step{Kind: api.StepBackup, Name: "three", Tree: files("staged")}, api.OK)
	do(t, w, api.Step{Kind: api.StepRebuild}, api.OK)
	if n := len(w.Repo().Catalog().Snaps[1].Locs); n != 1 {
		t.Error("not renewed", n)
	}
	do(t, w, api.Step{Kind: api.StepAudit}, api.OK)
	for _, kind := range []int{0, -1, api.StepErase + 1, math.MaxInt} {
		do(t, w, api.Step{Kind: kind}, api.ErrArg)
	}
}

func TestTripCutAndRecover(t *testing.T) {
	w := newWorld(t, config())
	l := files(text(1, 100))
	do(t, w, api.Step{Kind: api.StepBackup, Name: "two", Tree: l}, api.OK)
	do(t, w, api.Step{Kind: api.StepCut}, api.OK)
	if !w.Off() {
		t.Error("the power is on")
	}
	for _, kind := range []int{api.StepBackup, api.StepExpire, api.StepRestore, api.StepMigrate, api.StepCopy, api.StepReclaim, api.StepRebuild, api.StepAudit} {
		do(t, w, api.Step{Kind: kind}, api.ErrOff)
	}
	down := w.Repo()
	do(t, w, api.Step{Kind: api.StepRecover}, api.OK)
	if w.Off() || w.Repo() == down || !slices.Equal(w.Repo().Names(), []string{"two"}) {
		t.Error("not recovered", w.Repo().Names())
	}
	do(t, w, api.Step{Kind: api.StepTrip, N: 2, Keep: []bool{true, true}, Torn: -1}, api.OK)
	do(t, w, api.Step{Kind: api.StepBackup, Name: "lost", Tree: l}, api.ErrOff)
	if !w.Off() {
		t.Error("Trip does not trip")
	}
	do(t, w, api.Step{Kind: api.StepRecover}, api.OK)
	do(t, w, api.Step{Kind: api.StepTrip, N: 1}, api.OK)
	down = w.Repo()
	do(t, w, api.Step{Kind: api.StepRecover}, api.ErrOff)
	if w.Repo() != down {
		t.Error("a recovery with an error replaces the Repo")
	}
	do(t, w, api.Step{Kind: api.StepRecover}, api.OK)
	do(t, w, api.Step{Kind: api.StepRestore, Name: "two"}, api.OK)
}

func TestBadAndFlip(t *testing.T) {
	w := newWorld(t, config())
	do(t, w, api.Step{Kind: api.StepBackup, Name: "one", Tree: files(text(1, 100))}, api.OK)
	do(t, w, api.Step{Kind: api.StepMigrate}, api.OK)
	for i, c := range []struct {
		x api.Step
		e api.Errno
	}{
		{api.Step{Kind: api.StepBad, Vol: 9}, api.ErrArg}, {api.Step{Kind: api.StepBad, Vol: -1, At: -1}, api.ErrArg}, {api.Step{Kind: api.StepBad, At: -1}, api.ErrNone}, {api.Step{Kind: api.StepBad, At: 60}, api.ErrNone},
		{api.Step{Kind: api.StepFlip, Vol: 9}, api.ErrArg}, {api.Step{Kind: api.StepFlip, At: 1}, api.ErrNone}, {api.Step{Kind: api.StepFlip, At: 0, N: 112}, api.ErrArg}, {api.Step{Kind: api.StepFlip, At: 0, N: -1}, api.ErrArg},
	} {
		if e := w.Do(c.x); e != c.e {
			t.Error(i, e)
		}
	}
	was, _ := w.Medium(0)
	do(t, w, api.Step{Kind: api.StepBad, At: 2}, api.OK)
	do(t, w, api.Step{Kind: api.StepFlip, At: 3, N: 9}, api.OK)
	m, _ := w.Medium(0)
	if !m.Cells[2].Bad || m.Cells[3].Data[1] != was.Cells[3].Data[1]^2 {
		t.Error(m)
	}
	do(t, w, api.Step{Kind: api.StepRestore, Name: "one"}, api.ErrMedia)
	if n, e := w.Repo().Audit(); n == 0 || e != api.OK {
		t.Error(n, e)
	}
	do(t, w, api.Step{Kind: api.StepFlip, At: 0, N: 0}, api.OK)
	down := w.Repo()
	do(t, w, api.Step{Kind: api.StepErase}, api.ErrLabel)
	if w.Repo() != down {
		t.Error("a rebuild with an error replaces the Repo")
	}
}

func TestErase(t *testing.T) {
	w := newWorld(t, config())
	l := files(text(1, 100), text(2, 180))
	do(t, w, api.Step{Kind: api.StepBackup, Name: "one", Tree: l}, api.OK)
	do(t, w, api.Step{Kind: api.StepMigrate}, api.OK)
	do(t, w, api.Step{Kind: api.StepBackup, Name: "staged", Tree: files("x")}, api.OK)
	part := rebuild.Part(w.Repo().Catalog())
	for _, cut := range []bool{true, false} {
		if cut {
			do(t, w, api.Step{Kind: api.StepCut}, api.OK)
		}
		do(t, w, api.Step{Kind: api.StepErase}, api.OK)
		if got, e := w.Repo().Restore("one"); e != api.OK || !tree.Same(got, l) || w.Off() {
			t.Error(e)
		}
		if !reflect.DeepEqual(w.Repo().Catalog(), part) {
			t.Error(w.Repo().Catalog(), part)
		}
	}
}

func TestTheZeroWorld(t *testing.T) {
	var w World
	if w.Do(api.Step{Kind: api.StepMigrate}) != api.ErrArg || !w.Off() || w.Repo() != nil {
		t.Error("the zero world")
	}
	if _, e := w.Medium(0); e != api.ErrArg {
		t.Error(e)
	}
}

// script returns random steps: calls, losses of power and recoveries.
func script(r *rand.Rand, steps int) []api.Step {
	var l []api.Step
	for range steps {
		x := api.Step{Kind: 1 + r.Intn(api.StepRestore), Name: string(rune('a' + r.Intn(5))), Vol: r.Intn(6), Torn: r.Intn(12) - 4}
		for i := range r.Intn(3) {
			x.Tree = append(x.Tree, api.File{Path: string(rune('a' + i)), Data: []byte(text(r.Intn(5), r.Intn(150)))})
		}
		for range r.Intn(12) {
			x.Keep = append(x.Keep, r.Intn(2) == 0)
		}
		if r.Intn(4) == 0 {
			x.Kind, x.N = api.StepTrip, 1+r.Intn(12)
		}
		l = append(l, x)
	}
	return l
}

// TestScripts compares worlds with a plain list of trees, through losses of power at any write (T1, T2) and losses of the disk (T3).
func TestScripts(t *testing.T) {
	losses := 0
	for seed := range 40 {
		w := newWorld(t, config())
		model := map[string][]api.File{}
		var names []string
		for _, x := range script(rand.New(rand.NewSource(int64(seed))), 60) {
			e := w.Do(x)
			next := after(names, x)
			if w.Off() {
				losses++
				if e != api.ErrOff {
					t.Fatal(x, e)
				}
				do(t, w, api.Step{Kind: api.StepRecover}, api.OK)
				if !slices.Equal(w.Repo().Names(), names) {
					names = next
				}
			} else if e == api.OK {
				names = next
			}
			if x.Kind == api.StepBackup && slices.Equal(names, next) && e != api.ErrTwice {
				model[x.Name] = x.Tree
			}
			if !slices.Equal(w.Repo().Names(), names) {
				t.Fatal(x, w.Repo().Names(), names)
			}
			for _, name := range names {
				if l, e := w.Repo().Restore(name); e != api.OK || !tree.Same(l, model[name]) {
					t.Fatal(seed, x, name, e)
				}
			}
		}
		erased(t, w, model)
	}
	if losses < 100 {
		t.Error(losses)
	}
}

// after returns the names after a step that is carried out.
func after(names []string, x api.Step) []string {
	i := slices.Index(names, x.Name)
	if x.Kind == api.StepBackup && i < 0 {
		return append(slices.Clone(names), x.Name)
	}
	if x.Kind == api.StepExpire && i >= 0 {
		return slices.Delete(slices.Clone(names), i, i+1)
	}
	return names
}

// erased loses the disk, and sees that all that was on tapes is there.
func erased(t *testing.T, w *World, model map[string][]api.File) {
	t.Helper()
	do(t, w, api.Step{Kind: api.StepTrip}, api.OK)
	e := w.Do(api.Step{Kind: api.StepMigrate})
	part := rebuild.Part(w.Repo().Catalog())
	if e == api.OK && len(part.Snaps) != len(w.Repo().Names()) {
		t.Fatal("not all is migrated")
	}
	do(t, w, api.Step{Kind: api.StepErase}, api.OK)
	got := w.Repo().Catalog()
	if len(got.Snaps) != len(part.Snaps) || !slices.EqualFunc(got.Chunks, part.Chunks, func(a, b api.Chunk) bool { return bytes.Equal(a.Id[:], b.Id[:]) && slices.Equal(a.Locs, b.Locs) }) {
		t.Fatal("the tapes tell something else")
	}
	for _, s := range part.Snaps {
		if l, e := w.Repo().Restore(s.Man.Name); e != api.OK || !tree.Same(l, model[s.Man.Name]) {
			t.Fatal(s.Man.Name, e)
		}
	}
}
