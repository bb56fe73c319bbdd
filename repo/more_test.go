package repo

import (
	"bytes"
	"slices"
	"strings"
	"testing"

	"cellarer/api"
	"cellarer/catalog"
	"cellarer/change"
	"cellarer/disk"
	"cellarer/manifest"
	"cellarer/medium"
	"cellarer/power"
	"cellarer/robot"
	"cellarer/sha"
	"cellarer/tree"
	"cellarer/volume"
	"cellarer/wal"
)

// spoil makes the block unreadable in which the record at the Loc begins.
func (g *rig) spoil(l api.Loc) {
	g.t.Helper()
	m, _ := g.r.Medium(l.Vol)
	at, e := medium.File(m, l.File)
	g.ok(e)
	m, e = medium.Spoil(m, at+l.Off/g.c.Block)
	g.ok(e)
	g.ok(g.r.Put(l.Vol, m))
}

// logged returns what the log holds.
func (g *rig) logged() (api.Catalog, [][]byte) {
	g.t.Helper()
	_, state, changes, e := wal.Open(g.d)
	g.ok(e)
	c, e := catalog.Read(state)
	g.ok(e)
	return c, changes
}

func TestLossWhileARepoIsMade(t *testing.T) {
	for i, make := range []func(*power.Power, *disk.Disk, *robot.Robot, api.Config) (*Repo, api.Errno){New, Open, Rebuild} {
		for n := 1; ; n++ {
			g := newRig(t, config())
			g.backup("one", text(1, 100))
			g.ok(g.k.Migrate())
			for vol := range 5 {
				m, _ := g.r.Medium(vol)
				m, _ = medium.Write(m, len(m.Cells), []byte("rest"))
				g.ok(g.r.Put(vol, m))
			}
			g.p.Trip(n, nil, -1)
			k, e := make(g.p, g.d, g.r, g.c)
			if g.p.Off() != (e == api.ErrOff) || (k == nil) != g.p.Off() {
				t.Fatal(i, n, e)
			}
			if e == api.OK {
				if n < 8 {
					t.Error(i, n, "few writes")
				}
				break
			}
		}
	}
}

func TestChangesAreAppended(t *testing.T) {
	c := config()
	g := devices(t, c)
	g.d, _ = disk.New(g.p, 400)
	k, e := New(g.p, g.d, g.r, c)
	g.ok(e)
	g.k = k
	appended, saved := 0, 0
	for i := range 300 {
		_, before := g.logged()
		name := string(rune('a' + i%5))
		var x api.Change
		if i%10 < 5 {
			g.ok(g.k.Backup(name, files("text")...))
			s := g.k.Catalog().Snaps[i%5]
			x = api.Change{Kind: api.ChAdd, Snap: s}
			if i%10 == 0 {
				x.Chunks = g.k.Catalog().Chunks
			}
		} else {
			x = api.Change{Kind: api.ChDrop, Seq: g.k.Catalog().Snaps[0].Seq}
			g.ok(g.k.Expire(name))
		}
		state, changes := g.logged()
		switch b, _ := change.Bytes(x); {
		case len(changes) == len(before)+1 && bytes.Equal(changes[len(before)], b):
			appended++
		case len(changes) == 0 && sameCatalog(state, g.k.Catalog()):
			saved++
		default:
			t.Fatal(i, len(before), len(changes))
		}
	}
	if appended < 200 || saved < 1 {
		t.Error(appended, saved)
	}
}

func sameCatalog(a, b api.Catalog) bool {
	x, e := catalog.Bytes(a)
	y, f := catalog.Bytes(b)
	return e == api.OK && f == api.OK && bytes.Equal(x, y)
}

// TestTheDiskIsErasedUnderARepo sees that the next change makes everything durable again.
func TestTheDiskIsErasedUnderARepo(t *testing.T) {
	g := newRig(t, config())
	g.backup("one", text(1, 100))
	g.ok(g.d.Erase())
	g.sound()
	g.backup("two", text(2, 100))
	g.ok(g.open())
	g.sound()
}

// fill backs the same chunks up until less than the length of their manifest is left of the state, and returns what is left.
func (g *rig) fill() int {
	g.t.Helper()
	l := short(6, 25)
	for i := 0; ; i++ {
		name := string(rune('a' + i))
		if e := g.k.Backup(name, files(l...)...); e == api.ErrLimit {
			break
		} else {
			g.ok(e)
		}
		g.model = append(g.model, snapshot{name, files(l...)})
	}
	b, e := catalog.Bytes(g.k.Catalog())
	g.ok(e)
	return api.MaxState - len(b)
}

// sized returns a name and a tree of known chunks whose snapshot takes so many bytes of the state.
func sized(t *testing.T, size int) (string, []api.File) {
	t.Helper()
	l := short(6, 25)
	texts := 11 + 1 + 6*5
	ids := (size - texts) / 32
	rest := (size - texts) % 32
	if ids < 6 || ids > 150 {
		t.Fatal("no such snapshot", size)
	}
	name := "n" + strings.Repeat("n", min(rest, 19))
	rest -= min(rest, 19)
	var out []api.File
	for i := range 6 {
		n := min(25, ids-(5-i))
		ids -= n
		path := string(rune('a'+i)) + strings.Repeat("p", min(rest, 19))
		rest -= min(rest, 19)
		out = append(out, api.File{Path: path, Data: []byte(l[i][:8*n])})
	}
	return name, out
}

func TestTheStateIsFilledToTheLastByte(t *testing.T) {
	c := config()
	c.Stage, c.Block, c.Cap = api.MaxBytes, 256, 200
	g := newRig(t, c)
	left := g.fill()
	name, l := sized(t, left+1)
	g.expect(g.k.Backup(name, l...), api.ErrLimit)
	g.sound()
	name, l = sized(t, left)
	g.ok(g.k.Backup(name, l...))
	g.model = append(g.model, snapshot{name, l})
	if b, _ := catalog.Bytes(g.k.Catalog()); len(b) != api.MaxState {
		t.Error(len(b))
	}
	g.sound()
	g.ok(g.open())
	g.sound()
	g.expect(g.k.Migrate(), api.ErrLimit)
	g.sound()
	if v := volumeOf(g, 0); v.Files() != g.k.Catalog().Vols[0].Files || v.Files() == 0 {
		t.Error("the volume was not trimmed", v.Files())
	}
}

func TestRenewForgetsWhatCannotBeRead(t *testing.T) {
	g := newRig(t, config())
	g.backup("one", text(1, 150))
	g.ok(g.k.Migrate())
	g.ok(g.k.Copy())
	k := g.k.Catalog().Chunks[0]
	g.spoil(k.Locs[0])
	bad, _ := g.k.Audit()
	g.ok(g.k.Renew())
	if n, e := g.k.Audit(); n != 0 || e != api.OK || bad == 0 {
		t.Error(n, e, bad)
	}
	c := g.k.Catalog()
	if l := c.Chunks[0].Locs; len(l) != 1 || l[0] != k.Locs[1] {
		t.Error(l)
	}
	if state, changes := g.logged(); len(changes) != 0 || !sameCatalog(state, c) {
		t.Error("the catalog was not saved")
	}
	g.ok(g.open())
	if !sameCatalog(g.k.Catalog(), c) {
		t.Error("another catalog after Open")
	}
	g.sound()
	g.ok(g.k.Migrate())
	g.sound()
	if l := g.k.Catalog().Chunks[0].Locs; len(l) != 2 || l[0].Vol != 0 {
		t.Error("the chunk was not written again", l)
	}
}

// TestRenewOfOtherSnapshots lays records on a tape of which the catalog does not know.
func TestRenewOfOtherSnapshots(t *testing.T) {
	other := func(name string, seq int) api.Record {
		r, _ := manifestRecord(api.Snap{Seq: seq, Man: api.Manifest{Name: name}})
		return r
	}
	for i, c := range []struct {
		file int
		r    api.Record
		want api.Errno
	}{{1, other("n", 5), api.ErrMedia}, {1, other("m", 5), api.ErrMedia}, {1, other("n", 0), api.OK}, {0, other("n", 1), api.ErrMedia}, {0, other("m", 0), api.ErrMedia}, {0, other("n", 0), api.OK}} {
		g := newRig(t, config())
		g.backup("n")
		g.ok(g.k.Migrate())
		was := g.k.Catalog()
		_, e := volumeOf(g, 0).Append(c.file, c.r)
		g.ok(e)
		if e := g.k.Renew(); e != c.want {
			t.Error(i, e)
		}
		if c.want != api.OK && !sameCatalog(g.k.Catalog(), was) {
			t.Error(i, "an error changes the catalog")
		}
		if n := g.k.Catalog().Vols[0].Files; c.want == api.OK && n != c.file+1 {
			t.Error(i, n)
		}
		if !shows(g.k, g.model) {
			t.Error(i, g.k.Names())
		}
	}
}

// TestRestoreEndsAtOnce sees that nothing is mounted any more once a chunk is lost.
func TestRestoreEndsAtOnce(t *testing.T) {
	g := newRig(t, api.Config{Block: 256, Cap: 4, Primary: 4, Copies: 0, Drives: 1, Stage: 1000, Batch: 1})
	l := short(1, 3)
	g.backup("one", l[0])
	g.ok(g.k.Migrate())
	var locs []api.Loc
	for _, k := range g.k.Catalog().Chunks {
		locs = append(locs, k.Locs...)
	}
	slices.SortFunc(locs, func(a, b api.Loc) int { return a.Vol - b.Vol })
	if len(locs) != 3 || locs[0].Vol != 0 || locs[2].Vol == 0 {
		t.Fatal(locs)
	}
	g.spoil(locs[0])
	g.r.Mount(3)
	mounted := g.r.Mounts()
	if _, e := g.k.Restore("one"); e != api.ErrMedia || g.r.Mounts() != mounted+1 || g.r.Holds(0) != 0 {
		t.Error(e, g.r.Mounts()-mounted, g.r.Holds(0))
	}
}

func TestGroupsOfTwoAreSplit(t *testing.T) {
	g := newRig(t, api.Config{Block: 64, Cap: 4, Primary: 3, Copies: 0, Drives: 1, Stage: 1000, Batch: 2})
	g.backup("one", short(1, 3)[0])
	g.expect(g.k.Migrate(), api.ErrScratch)
	for vol, v := range g.k.Catalog().Vols {
		if v.Files != 1 {
			t.Error(vol, v)
		}
	}
	g.sound()
}

// TestOnlyTheExpectedRecordCounts points a catalog to records that resemble the expected ones.
func TestOnlyTheExpectedRecordCounts(t *testing.T) {
	data := []byte(text(4, 30))
	good := api.Record{Kind: api.RecChunk, Data: data}
	l := []api.Record{
		{Kind: api.RecChunk, Seq: 1, Data: data}, {Kind: api.RecManifest, Data: data}, {Kind: api.RecChunk, Data: []byte(text(5, 30))}, {Kind: api.RecChunk, Data: data[:29]}, good,
	}
	man, chunks, _ := manifest.Build("n", []api.File{{Path: "p", Data: data}})
	if len(chunks) != 1 {
		t.Skip("the text has more than one chunk")
	}
	for i := range 9 {
		g := newRig(t, config())
		v := volumeOf(g, 0)
		offs, e := v.Append(0, l...)
		g.ok(e)
		loc := api.Loc{Vol: 0, File: 1, Off: offs[min(i, 4)], Len: frameLen(l[min(i, 4)])}
		switch i {
		case 5:
			loc.Len++
		case 6:
			loc.Len--
		case 7:
			loc.Off--
			loc.Len++
		case 8:
			loc.Len += 13
		}
		c, _ := catalog.New(0, 0, 0, 1, 1)
		c.Seq = 1
		c.Vols[0] = api.Vol{State: api.VolFilling, Files: 1}
		c.Snaps = []api.Snap{{Man: man}}
		c.Chunks = []api.Chunk{{Id: sha.Sum(data), Locs: []api.Loc{loc}}}
		b, e := catalog.Bytes(c)
		g.ok(e)
		log, _, _, _ := wal.Open(g.d)
		g.ok(log.Save(b))
		g.ok(g.open())
		files, e := g.k.Restore("n")
		n, f := g.k.Audit()
		if i == 4 && (e != api.OK || string(files[0].Data) != string(data) || n != 0) || i != 4 && (e != api.ErrMedia || n != 1) || f != api.OK {
			t.Error(i, e, n, f)
		}
		if e := g.k.Copy(); i == 4 && e != api.OK || i != 4 && e != api.ErrMedia {
			t.Error(i, e)
		}
	}
}

// TestFullVolumesAreLeft sees that groups go to the first volume with room, and on to a scratch one.
func TestFullVolumesAreLeft(t *testing.T) {
	g := newRig(t, api.Config{Block: 64, Cap: 14, Primary: 3, Copies: 0, Drives: 1, Stage: 1000, Batch: 64})
	g.backup("a", text(1, 60))
	g.ok(g.k.Migrate())
	first := g.k.Catalog().Vols[0].Files
	g.backup("b", text(2, 200))
	g.ok(g.k.Migrate())
	g.backup("c")
	g.ok(g.k.Migrate())
	c := g.k.Catalog()
	if first != 1 || c.Vols[1].Files != 1 || c.Vols[0].Files != 2 || c.Vols[2].State != api.VolScratch {
		t.Error(c.Vols)
	}
	g.sound()
	m, _ := g.r.Medium(0)
	short, _ := medium.End(m, 3)
	g.ok(g.r.Put(0, short))
	g.ok(g.k.Backup("d"))
	g.ok(g.k.Migrate())
	if v := g.k.Catalog().Vols; v[0].Files != 2 || v[1].Files+v[2].Files != 2 {
		t.Error("a damaged tape was written to", v)
	}
}

// TestAnExpiryNeedsRoom sees that a snapshot on tapes stays if its expiry cannot be written.
func TestAnExpiryNeedsRoom(t *testing.T) {
	g := newRig(t, api.Config{Block: 256, Cap: 4, Primary: 1, Copies: 0, Drives: 1, Stage: 1000, Batch: 64})
	g.backup("a")
	g.ok(g.k.Migrate())
	g.expect(g.k.Expire("a"), api.ErrScratch)
	g.sound()
	if v, _ := volume.New(mount(g, 0), 256); v.Files() != 1 {
		t.Error(v.Files())
	}
	g.backup("b", "staged")
	if l, e := g.k.Restore("b"); e != api.OK || !tree.Same(l, files("staged")) {
		t.Error(e)
	}
}
