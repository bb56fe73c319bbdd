package repo

import (
	"bytes"
	"math/rand"
	"slices"
	"testing"

	"cellarer/api"
	"cellarer/catalog"
	"cellarer/disk"
	"cellarer/drive"
	"cellarer/frame"
	"cellarer/manifest"
	"cellarer/power"
	"cellarer/robot"
	"cellarer/sha"
	"cellarer/tree"
)

// rig is a repository with its devices, and what it should contain.
type rig struct {
	t *testing.T
	c api.Config
	p *power.Power
	d *disk.Disk
	r *robot.Robot
	k *Repo
	// model is the list of the snapshots.
	model []snapshot
}

type snapshot struct {
	name string
	tree []api.File
}

func config() api.Config {
	return api.Config{Block: 64, Cap: 60, Primary: 3, Copies: 2, Drives: 2, Stage: 4000, Batch: 7}
}

func devices(t *testing.T, c api.Config) *rig {
	t.Helper()
	g := &rig{t: t, c: c, p: power.New()}
	var e, f api.Errno
	g.d, e = disk.New(g.p, 600)
	g.r, f = robot.New(g.p, c.Primary+c.Copies, c.Cap, c.Drives)
	if e != api.OK || f != api.OK {
		t.Fatal(e, f)
	}
	return g
}

func newRig(t *testing.T, c api.Config) *rig {
	t.Helper()
	g := devices(t, c)
	k, e := New(g.p, g.d, g.r, c)
	if e != api.OK {
		t.Fatal(e)
	}
	g.k = k
	return g
}

func (g *rig) ok(e api.Errno) {
	g.t.Helper()
	g.expect(e, api.OK)
}

func (g *rig) expect(e, want api.Errno) {
	g.t.Helper()
	if e != want {
		g.t.Fatalf("error %d, not %d", e, want)
	}
}

func (g *rig) open() api.Errno {
	k, e := Open(g.p, g.d, g.r, g.c)
	if e == api.OK {
		g.k = k
	}
	return e
}

func (g *rig) rebuild() api.Errno {
	k, e := Rebuild(g.p, g.d, g.r, g.c)
	if e == api.OK {
		g.k = k
	}
	return e
}

// backup adds a snapshot to the repository and to the model.
func (g *rig) backup(name string, texts ...string) {
	g.t.Helper()
	l := files(texts...)
	g.ok(g.k.Backup(name, l...))
	g.model = append(g.model, snapshot{name, l})
}

// files returns a tree with these texts.
func files(texts ...string) []api.File {
	var l []api.File
	for i, s := range texts {
		l = append(l, api.File{Path: string(rune('a' + i)), Data: []byte(s)})
	}
	return l
}

// text returns n bytes that depend on the seed.
func text(seed, n int) string {
	b := make([]byte, n)
	rand.New(rand.NewSource(int64(seed))).Read(b)
	return string(b)
}

// shows reports whether the visible state of a Repo is the model.
func shows(k *Repo, model []snapshot) bool {
	var names []string
	for _, s := range model {
		names = append(names, s.name)
	}
	if !slices.Equal(k.Names(), names) {
		return false
	}
	for _, s := range model {
		l, e := k.Restore(s.name)
		if e != api.OK || !tree.Same(l, s.tree) {
			return false
		}
	}
	return true
}

// sound sees that the visible state is the model, and that the catalog fits to what is on the tapes.
func (g *rig) sound() {
	g.t.Helper()
	if !shows(g.k, g.model) {
		g.t.Fatal("the visible state is another one", g.k.Names())
	}
	if n, e := g.k.Audit(); n != 0 || e != api.OK {
		g.t.Fatal("Audit", n, e)
	}
	c := g.k.Catalog()
	b, e := catalog.Bytes(c)
	if e != api.OK || len(b) > api.MaxState {
		g.t.Fatal("the catalog is not valid", e, len(b))
	}
	for vol, v := range c.Vols {
		if v.State == api.VolRetired {
			g.t.Fatal("a volume is left retired", vol)
		}
	}
}

// lies reports whether the bytes of a record are at a Loc, read from the cells themselves.
func (g *rig) lies(r api.Record, l api.Loc) bool {
	m, _ := g.r.Medium(l.Vol)
	marks := 0
	var b []byte
	good := true
	need := l.Off + l.Len
	for _, c := range m.Cells {
		if c.Kind == api.CellMark {
			marks++
			continue
		}
		if marks != l.File {
			continue
		}
		from, to := len(b), len(b)+len(c.Data)
		if c.Kind == api.CellTorn || c.Bad {
			to = from + g.c.Block
			good = good && (to <= l.Off || from >= need)
			b = append(b, make([]byte, g.c.Block)...)
			continue
		}
		b = append(b, c.Data...)
	}
	want, _ := frame.Bytes(r)
	return good && len(b) >= need && bytes.Equal(b[l.Off:need], want)
}

// readable reports whether each chunk of a snapshot has a location that can be read.
func (g *rig) readable(l []api.File) bool {
	c := g.k.Catalog()
	_, chunks, _ := manifest.Build("n", l)
	for _, b := range chunks {
		k := c.Chunks[catalog.Chunk(c, sha.Sum(b))]
		if !k.Staged && !slices.ContainsFunc(k.Locs, func(x api.Loc) bool { return g.lies(api.Record{Kind: api.RecChunk, Data: b}, x) }) {
			return false
		}
	}
	return true
}

// twin returns a rig with the same tapes and an empty disk.
func (g *rig) twin() *rig {
	g.t.Helper()
	h := devices(g.t, g.c)
	for vol := range g.r.Vols() {
		m, _ := g.r.Medium(vol)
		h.ok(h.r.Put(vol, m))
	}
	return h
}

// mount returns the drive that holds the volume.
func mount(g *rig, vol int) *drive.Drive {
	g.t.Helper()
	d, e := g.r.Mount(vol)
	g.ok(e)
	return d
}
