package repo

import (
	"bytes"
	"math"
	"reflect"
	"slices"
	"strings"
	"testing"

	"cellarer/api"
	"cellarer/catalog"
	"cellarer/cdc"
	"cellarer/change"
	"cellarer/disk"
	"cellarer/drive"
	"cellarer/medium"
	"cellarer/mounts"
	"cellarer/power"
	"cellarer/rebuild"
	"cellarer/robot"
	"cellarer/tree"
	"cellarer/volume"
	"cellarer/wal"
)

// label returns what a volume's label says.
func (g *rig) label(vol int) api.Label {
	g.t.Helper()
	m, _ := g.r.Medium(vol)
	d, _ := drive.New(power.New(), m)
	v, _ := volume.New(d, g.c.Block)
	l, e := v.Label()
	g.ok(e)
	return l
}

func TestFit(t *testing.T) {
	g := devices(t, config())
	g.ok(Fit(g.p, g.d, g.r, g.c))
	g.expect(Fit(nil, g.d, g.r, g.c), api.ErrArg)
	g.expect(Fit(g.p, nil, g.r, g.c), api.ErrArg)
	g.expect(Fit(g.p, g.d, nil, g.c), api.ErrArg)
	for n, want := range map[int]api.Errno{399: api.ErrArg, 400: api.OK} {
		d, _ := disk.New(g.p, n)
		g.expect(Fit(g.p, d, g.r, g.c), want)
	}
	for i, edit := range []func(c *api.Config){
		func(c *api.Config) { c.Block = 31 }, func(c *api.Config) { c.Block = api.MaxBlock + 1 }, func(c *api.Config) { c.Cap = 3 }, func(c *api.Config) { c.Cap = api.MaxCells + 1 }, func(c *api.Config) { c.Cap = 61 },
		func(c *api.Config) { c.Primary = 0 }, func(c *api.Config) { c.Primary, c.Copies = 0, 5 }, func(c *api.Config) { c.Primary, c.Copies = 6, -1 }, func(c *api.Config) { c.Primary = 4 }, func(c *api.Config) { c.Primary, c.Copies = math.MaxInt, math.MaxInt },
		func(c *api.Config) { c.Primary, c.Copies = math.MinInt, math.MinInt+5 }, func(c *api.Config) { c.Drives = 0 }, func(c *api.Config) { c.Drives = 5 }, func(c *api.Config) { c.Drives = 1 },
		func(c *api.Config) { c.Stage = -1 }, func(c *api.Config) { c.Stage = api.MaxBytes + 1 }, func(c *api.Config) { c.Batch = 0 }, func(c *api.Config) { c.Batch = api.MaxRecords + 1 },
	} {
		c := config()
		edit(&c)
		if e := Fit(g.p, g.d, g.r, c); e != api.ErrArg {
			t.Error(i, e)
		}
		for _, f := range []func(*power.Power, *disk.Disk, *robot.Robot, api.Config) (*Repo, api.Errno){New, Open, Rebuild} {
			if k, e := f(g.p, g.d, g.r, c); k != nil || e != api.ErrArg {
				t.Error(i, e)
			}
		}
	}
	for _, edit := range []func(c *api.Config){
		func(c *api.Config) { c.Block = 32 }, func(c *api.Config) { c.Block = api.MaxBlock }, func(c *api.Config) { c.Primary, c.Copies = 5, 0 }, func(c *api.Config) { c.Stage = 0 },
		func(c *api.Config) { c.Stage = api.MaxBytes }, func(c *api.Config) { c.Batch = 1 }, func(c *api.Config) { c.Batch = api.MaxRecords },
	} {
		c := config()
		edit(&c)
		g.ok(Fit(g.p, g.d, g.r, c))
	}
}

func TestNew(t *testing.T) {
	g := newRig(t, config())
	if c := g.k.Catalog(); c.Seq != 0 || len(c.Snaps)+len(c.Chunks)+len(c.Exps) != 0 || len(c.Vols) != 5 || c.Vols[2] != (api.Vol{State: api.VolScratch}) || c.Vols[3] != (api.Vol{Pool: 1, State: api.VolScratch}) {
		t.Error(c)
	}
	for vol := range 5 {
		if l := g.label(vol); l != (api.Label{Vol: vol, Pool: vol / 3}) {
			t.Error(l)
		}
		if m, _ := g.r.Medium(vol); len(m.Cells) != 2 {
			t.Error(m)
		}
	}
	g.backup("one", "text")
	g.ok(g.k.Migrate())
	k, e := New(g.p, g.d, g.r, g.c)
	if e != api.OK || len(k.Names()) != 0 || !shows(k, nil) {
		t.Error(e)
	}
	g.model = nil
	g.ok(g.open())
	g.sound()
	g.p.Cut(nil, -1)
	for _, f := range []func(*power.Power, *disk.Disk, *robot.Robot, api.Config) (*Repo, api.Errno){New, Open, Rebuild} {
		if k, e := f(g.p, g.d, g.r, g.c); k != nil || e != api.ErrOff {
			t.Error(e)
		}
	}
}

func TestOpen(t *testing.T) {
	g := newRig(t, config())
	g.backup("one", "first", text(1, 200))
	g.ok(g.k.Migrate())
	g.backup("two", "second", text(1, 200))
	g.ok(g.k.Copy())
	was := g.k.Catalog()
	for range 2 {
		g.p.Cut(nil, -1)
		g.p.Start()
		g.ok(g.open())
		g.sound()
		if !reflect.DeepEqual(g.k.Catalog(), was) {
			t.Error("another catalog")
		}
	}
	m, _ := g.r.Medium(0)
	longer, _ := medium.Write(m, len(m.Cells), []byte("rest of an aggregate"))
	longer, _ = medium.Mark(longer, len(longer.Cells))
	g.ok(g.r.Put(0, longer))
	scratch, _ := g.r.Medium(1)
	scratch, _ = medium.Write(scratch, 2, []byte("rest"))
	g.ok(g.r.Put(1, scratch))
	g.ok(g.open())
	if n, _ := g.r.Medium(0); len(n.Cells) != len(m.Cells) {
		t.Error("the volume was not trimmed")
	}
	if n, _ := g.r.Medium(1); len(n.Cells) != 2 {
		t.Error("the scratch volume was not trimmed")
	}
	short, _ := medium.End(m, 1)
	g.ok(g.r.Put(0, short))
	g.ok(g.open())
	if n, _ := g.r.Medium(0); len(n.Cells) != 1 {
		t.Error("a damaged volume was not left as it is")
	}
}

func TestOpenErrors(t *testing.T) {
	good, _ := catalog.New(0, 0, 0, 1, 1)
	few, _ := catalog.New(0, 0, 0, 1)
	bytesOf := func(c api.Catalog) []byte { b, _ := catalog.Bytes(c); return b }
	drop, _ := change.Bytes(api.Change{Kind: api.ChDrop, Seq: 1})
	add, _ := change.Bytes(api.Change{Kind: api.ChAdd, Snap: api.Snap{Man: api.Manifest{Name: "n"}}})
	for i, c := range []struct {
		state   []byte
		changes [][]byte
		e       api.Errno
	}{
		{nil, nil, api.ErrState}, {bytesOf(good)[1:], nil, api.ErrState}, {bytesOf(good), [][]byte{add, drop}, api.ErrState}, {bytesOf(good), [][]byte{add[1:]}, api.ErrState},
		{bytesOf(few), nil, api.ErrState}, {bytesOf(good), [][]byte{add}, api.OK}, {bytesOf(good), nil, api.OK},
	} {
		g := newRig(t, config())
		l, _, _, _ := wal.Open(g.d)
		g.ok(l.Save(c.state))
		for _, x := range c.changes {
			g.ok(l.Append(x))
		}
		if k, e := Open(g.p, g.d, g.r, g.c); e != c.e || (k == nil) != (e != api.OK) {
			t.Error(i, e)
		}
		if _, state, changes, _ := wal.Open(g.d); c.e != api.OK && (!bytes.Equal(state, c.state) || len(changes) != len(c.changes)) {
			t.Error(i, "an error changes the disk")
		}
	}
	g := newRig(t, config())
	g.d.Erase()
	g.expect(g.open(), api.ErrState)
}

func TestOpenOfARetiredVolume(t *testing.T) {
	for _, epoch := range []int{5, api.MaxEpoch} {
		g := newRig(t, config())
		c, _ := catalog.New(0, 0, 0, 1, 1)
		c.Vols[1].State, c.Vols[1].Epoch = api.VolRetired, epoch
		b, _ := catalog.Bytes(c)
		l, _, _, _ := wal.Open(g.d)
		g.ok(l.Save(b))
		g.ok(g.open())
		v := g.k.Catalog().Vols[1]
		if epoch == 5 && (v != (api.Vol{State: api.VolScratch, Epoch: 6}) || g.label(1).Epoch != 6) || epoch != 5 && v.State != api.VolRetired {
			t.Error(v, g.label(1))
		}
	}
}

func TestRebuild(t *testing.T) {
	g := newRig(t, config())
	g.backup("one", "first", text(1, 200))
	g.backup("two", "second", text(1, 150))
	g.ok(g.k.Migrate())
	g.ok(g.k.Copy())
	g.ok(g.k.Expire("one"))
	g.model = g.model[1:]
	part := rebuild.Part(g.k.Catalog())
	g.backup("three", "staged only")
	g.model = g.model[:1]
	m, _ := g.r.Medium(0)
	m, _ = medium.Write(m, len(m.Cells), []byte("rest"))
	g.ok(g.r.Put(0, m))
	g.d.Erase()
	g.ok(g.rebuild())
	g.sound()
	if got := g.k.Catalog(); !reflect.DeepEqual(got, part) {
		t.Errorf("%+v, not %+v", got, part)
	}
	if n, _ := g.r.Medium(0); len(n.Cells) != len(m.Cells)-1 {
		t.Error("the volume was not trimmed")
	}
	g.ok(g.open())
	g.sound()
}

func TestRebuildErrors(t *testing.T) {
	g := newRig(t, config())
	g.backup("one", "first", text(1, 200))
	g.ok(g.k.Migrate())
	good, _ := g.r.Medium(0)
	spoilt, _ := medium.Spoil(good, 0)
	other, _ := g.r.Medium(1)
	pool, _ := medium.Write(api.Medium{Cap: g.c.Cap}, 0, append([]byte("CELL\x00\x01\x00\x00\x00\x00"), 0, 0, 0, 0))
	for i, m := range []api.Medium{spoilt, other, pool, {Cap: g.c.Cap}} {
		g.ok(g.r.Put(0, m))
		if k, e := Rebuild(g.p, g.d, g.r, g.c); k != nil || e != api.ErrLabel {
			t.Error(i, e)
		}
	}
	g.ok(g.r.Put(0, good))
	v := volumeOf(g, 0)
	_, e := v.Append(v.Files(), api.Record{Kind: api.RecExpire, Seq: 5, Data: []byte{0, 0, 0, 9}})
	g.ok(e)
	if k, e := Rebuild(g.p, g.d, g.r, g.c); k != nil || e != api.ErrArg {
		t.Error(e)
	}
	g.ok(g.open())
	g.sound()
}

// volumeOf returns a volume on which a test writes.
func volumeOf(g *rig, vol int) *volume.Volume {
	v, e := volume.New(mount(g, vol), g.c.Block)
	g.ok(e)
	return v
}

func TestAnswersAreNewMemory(t *testing.T) {
	g := newRig(t, config())
	data := []byte(text(3, 90))
	want := string(data)
	g.ok(g.k.Backup("one", api.File{Path: "p", Data: data}))
	clear(data)
	g.model = []snapshot{{"one", []api.File{{Path: "p", Data: []byte(want)}}}}
	g.sound()
	c := g.k.Catalog()
	for i := range c.Chunks {
		clear(c.Chunks[i].Data)
	}
	clear(c.Vols)
	clear(g.k.Names())
	l, _ := g.k.Restore("one")
	clear(l[0].Data)
	g.ok(g.k.Migrate())
	g.sound()
	g.k.Restore("one")
	moves := g.k.Moves()
	was := slices.Clone(moves)
	clear(moves)
	if !slices.Equal(g.k.Moves(), was) || len(was) == 0 {
		t.Error("Moves are the Repo's own memory")
	}
}

func TestBackupErrors(t *testing.T) {
	c := config()
	c.Stage = 100
	g := newRig(t, c)
	g.backup("one", text(1, 60))
	long := files(text(2, 201))
	twice := []api.File{{Path: "a"}, {Path: "a"}}
	for i, x := range []struct {
		name string
		l    []api.File
		e    api.Errno
	}{
		{"", long, api.ErrArg}, {"a b", nil, api.ErrArg}, {strings.Repeat("x", 21), nil, api.ErrArg}, {"one", long, api.ErrLen}, {"one", make([]api.File, 7), api.ErrLen}, {"one", []api.File{{}}, api.ErrArg},
		{"one", twice, api.ErrTwice}, {"two", twice, api.ErrTwice}, {"one", files(text(2, 200)), api.ErrTwice}, {"two", files(text(2, 41)), api.ErrFull},
	} {
		if e := g.k.Backup(x.name, x.l...); e != x.e {
			t.Error(i, e)
		}
		g.sound()
	}
	g.backup("two", text(2, 40), text(1, 60))
	g.ok(g.k.Migrate())
	g.backup("three", text(3, 100))
	for i := 0; len(g.model) < api.MaxSnaps; i++ {
		g.backup("more"+string(rune('a'+i)), text(1, 60))
	}
	g.expect(g.k.Backup("last", files(text(9, 50))...), api.ErrFull)
	g.expect(g.k.Backup("last"), api.ErrLimit)
	g.expect(g.k.Backup("one"), api.ErrTwice)
	g.sound()
}

func TestBackupSortsTheTree(t *testing.T) {
	g := newRig(t, config())
	l := []api.File{{Path: "b", Data: []byte("2")}, {Path: "a", Data: []byte("1")}, {Path: "B"}}
	g.ok(g.k.Backup("n", l...))
	want, _ := tree.Sort(l)
	got, e := g.k.Restore("n")
	if e != api.OK || !tree.Same(got, want) || l[0].Path != "b" {
		t.Error(got, e)
	}
	g.ok(g.k.Backup("empty"))
	if got, e := g.k.Restore("empty"); e != api.OK || len(got) != 0 {
		t.Error(got, e)
	}
}

func TestChunksAreKeptOnce(t *testing.T) {
	g := newRig(t, config())
	g.backup("one", text(1, 200), text(1, 200))
	n := len(g.k.Catalog().Chunks)
	g.backup("two", text(1, 200))
	if c := g.k.Catalog(); len(c.Chunks) != n || catalog.Staged(c) != 200 {
		t.Error(len(c.Chunks), catalog.Staged(c))
	}
	g.ok(g.k.Migrate())
	g.backup("three", text(1, 200))
	if c := g.k.Catalog(); len(c.Chunks) != n || catalog.Staged(c) != 0 {
		t.Error(len(c.Chunks), catalog.Staged(c))
	}
	g.sound()
}

// short returns n files' texts of so many chunks that each has 8 bytes, all of them distinct.
func short(n, chunks int) []string {
	var l []string
	at := 0
	for range n {
		s := ""
		for range chunks {
			for {
				at++
				b := []byte{'x', 'y', 'z', byte(at), byte(at >> 8), byte(at >> 16), 0, 1, 9}
				if cdc.Next(b) == 8 {
					s += string(b[:8])
					break
				}
			}
		}
		l = append(l, s)
	}
	return l
}

func TestLimitOfTheChunks(t *testing.T) {
	c := config()
	c.Stage = api.MaxBytes
	g := newRig(t, c)
	l := short(9, 25)
	g.backup("one", l[:6]...)
	g.backup("two", l[6:8]...)
	if n := len(g.k.Catalog().Chunks); n != 200 {
		t.Fatal(n)
	}
	g.expect(g.k.Backup("three", files(l[8])...), api.ErrLimit)
	g.ok(g.k.Backup("three", files(l[0])...))
}

func TestLimitOfTheState(t *testing.T) {
	c := config()
	c.Stage = api.MaxBytes
	g := newRig(t, c)
	l := short(6, 25)
	e := api.OK
	for i := 0; e == api.OK; i++ {
		name := string(rune('a' + i))
		if e = g.k.Backup(name, files(l...)...); e == api.OK {
			g.model = append(g.model, snapshot{name, files(l...)})
		}
	}
	g.expect(e, api.ErrLimit)
	if len(g.model) < 3 || len(g.model) > 7 {
		t.Error(len(g.model))
	}
	g.sound()
	g.ok(g.open())
	g.sound()
}

func TestRestore(t *testing.T) {
	g := newRig(t, config())
	g.backup("one", text(1, 200), text(2, 200))
	g.ok(g.k.Migrate())
	g.backup("two", text(3, 200), text(2, 200))
	if _, e := g.k.Restore("none"); e != api.ErrNone {
		t.Error(e)
	}
	g.p.Trip(1, nil, 0)
	mounted := g.r.Mounts()
	if l, e := g.k.Restore("two"); e != api.OK || !tree.Same(l, g.model[1].tree) {
		t.Error(e)
	}
	c := g.k.Catalog()
	reads := 0
	moves := g.k.Moves()
	var last api.Loc
	for _, m := range moves {
		if m.Kind == api.MoveRead {
			reads++
			if last.File > m.Loc.File || last.File == m.Loc.File && last.Off >= m.Loc.Off {
				t.Error("reads are out of order", moves)
			}
			last = m.Loc
			if m.Vol != m.Loc.Vol {
				t.Error(m)
			}
		}
	}
	want := 0
	for _, k := range c.Chunks {
		if !k.Staged && slices.ContainsFunc(c.Snaps[1].Man.Parts, func(p api.Part) bool { return slices.Contains(p.Ids, k.Id) }) {
			want++
		}
	}
	if reads != want || want == 0 || len(moves)-reads != g.r.Mounts()-mounted {
		t.Error(reads, want, moves)
	}
	if _, e := g.k.Restore("none"); e != api.ErrNone || !slices.Equal(g.k.Moves(), moves) {
		t.Error("a Restore with an error changes Moves")
	}
	if g.p.Off() {
		t.Error("Restore spent power")
	}
}

func TestRestoreInRounds(t *testing.T) {
	g := newRig(t, config())
	g.backup("one", text(1, 200), text(2, 100))
	g.ok(g.k.Migrate())
	g.ok(g.k.Copy())
	k := g.k.Catalog().Chunks[0]
	spoil := func(l api.Loc) {
		m, _ := g.r.Medium(l.Vol)
		at, _ := medium.File(m, l.File)
		m, _ = medium.Spoil(m, at+l.Off/g.c.Block)
		g.ok(g.r.Put(l.Vol, m))
	}
	if len(k.Locs) != 2 || k.Locs[1].Vol != 3 {
		t.Fatal(k.Locs)
	}
	spoil(k.Locs[0])
	if !shows(g.k, g.model) {
		t.Fatal("a copy is not used")
	}
	moves := g.k.Moves()
	if !slices.ContainsFunc(moves, func(m api.Move) bool { return m.Kind == api.MoveRead && m.Loc == k.Locs[0] }) {
		t.Error("the first location was not tried")
	}
	if last := moves[len(moves)-1]; last.Kind != api.MoveRead || last.Vol != 3 {
		t.Error(moves)
	}
	if n, e := g.k.Audit(); n == 0 || e != api.OK {
		t.Error(n, e)
	}
	spoil(k.Locs[1])
	if l, e := g.k.Restore("one"); e != api.ErrMedia || len(l) != 0 {
		t.Error(e)
	}
	if !slices.Equal(g.k.Moves(), moves) {
		t.Error("a Restore with an error changes Moves")
	}
	g.expect(g.k.Reclaim(k.Locs[0].Vol), api.ErrMedia)
	g.expect(g.k.Renew(), api.ErrMedia)
}

func TestExpire(t *testing.T) {
	g := newRig(t, config())
	g.backup("one", text(1, 200))
	g.backup("two", text(2, 200))
	g.expect(g.k.Expire("none"), api.ErrNone)
	g.ok(g.k.Expire("one"))
	g.model = g.model[1:]
	if c := g.k.Catalog(); len(c.Exps) != 0 || c.Seq != 2 || catalog.Staged(c) != 200 || c.Vols[0].State != api.VolScratch {
		t.Error(c)
	}
	g.sound()
	g.ok(g.k.Migrate())
	g.ok(g.k.Expire("two"))
	g.model = nil
	c := g.k.Catalog()
	if len(c.Exps) != 1 || c.Exps[0].Seq != 2 || c.Exps[0].Of != 1 || c.Seq != 3 || len(c.Snaps) != 0 || len(c.Chunks) == 0 {
		t.Error(c)
	}
	r, _ := expiryRecord(2, 1)
	if !g.lies(r, c.Exps[0].Locs[0]) || !bytes.Equal(r.Data, []byte{0, 0, 0, 1}) {
		t.Error("the expiry is not on the tape")
	}
	g.sound()
	g.d.Erase()
	g.ok(g.rebuild())
	g.sound()
}

func TestLimitOfTheExpiries(t *testing.T) {
	c := config()
	c.Cap, c.Block = api.MaxCells, api.MaxBlock
	g := newRig(t, c)
	for range api.MaxExps {
		g.ok(g.k.Backup("n", files("same")...))
		g.ok(g.k.Migrate())
		g.ok(g.k.Expire("n"))
	}
	g.backup("n", "same")
	g.ok(g.k.Migrate())
	var before []api.Medium
	for vol := range 5 {
		m, _ := g.r.Medium(vol)
		before = append(before, m)
	}
	was := g.k.Catalog()
	g.expect(g.k.Expire("n"), api.ErrLimit)
	for vol := range 5 {
		if m, _ := g.r.Medium(vol); len(m.Cells) != len(before[vol].Cells) {
			t.Error("the volume was not trimmed", vol)
		}
	}
	if !reflect.DeepEqual(g.k.Catalog(), was) {
		t.Error("an error changes the catalog")
	}
	g.sound()
}

func TestMigrateAndCopy(t *testing.T) {
	g := newRig(t, config())
	g.backup("one", text(1, 200), text(2, 200))
	g.ok(g.k.Copy())
	if c := g.k.Catalog(); c.Vols[3].State != api.VolScratch {
		t.Error("Copy copies what is not migrated")
	}
	n := len(g.k.Catalog().Chunks)
	g.ok(g.k.Migrate())
	c := g.k.Catalog()
	if catalog.Staged(c) != 0 || c.Vols[0].Files != (n+1+6)/7 {
		t.Error(c.Vols, n)
	}
	g.sound()
	g.ok(g.k.Copy())
	c = g.k.Catalog()
	for _, k := range c.Chunks {
		if len(k.Locs) != 2 || k.Locs[0].Vol != 0 || k.Locs[1].Vol != 3 {
			t.Error(k)
		}
	}
	if len(c.Snaps[0].Locs) != 2 {
		t.Error(c.Snaps)
	}
	g.sound()
	g.p.Trip(1, nil, 0)
	g.ok(g.k.Migrate())
	g.ok(g.k.Copy())
	g.k.Audit()
	if g.p.Off() {
		t.Error("power was spent although nothing was written")
	}
}

func TestCopyWithoutVolumes(t *testing.T) {
	c := config()
	c.Copies = 0
	g := newRig(t, c)
	g.ok(g.k.Copy())
	g.backup("one", "text")
	g.ok(g.k.Migrate())
	g.expect(g.k.Copy(), api.ErrScratch)
	g.sound()
}

// TestGroupsAreSplit fills tapes on which a whole group has no room.
func TestGroupsAreSplit(t *testing.T) {
	g := newRig(t, api.Config{Block: 64, Cap: 8, Primary: 2, Copies: 0, Drives: 1, Stage: 1000, Batch: 64})
	g.backup("one", text(1, 200))
	e := g.k.Migrate()
	c := g.k.Catalog()
	if e != api.ErrScratch || c.Vols[0].Files < 2 || c.Vols[1].Files < 2 {
		t.Error(e, c.Vols)
	}
	g.sound()
	g.ok(g.open())
	g.sound()
	g = newRig(t, api.Config{Block: 256, Cap: 4, Primary: 6, Copies: 0, Drives: 1, Stage: 1000, Batch: 64})
	g.backup("one", text(1, 60), text(2, 60), text(3, 60))
	n := len(g.k.Catalog().Chunks)
	e = g.k.Migrate()
	c = g.k.Catalog()
	if c.Vols[0].Files != 1 || e == api.OK && n > 5 || n < 5 {
		t.Error(e, n, c.Vols)
	}
	g.sound()
}

func TestReclaim(t *testing.T) {
	g := newRig(t, config())
	g.backup("one", text(1, 200))
	g.backup("two", text(2, 200))
	g.ok(g.k.Migrate())
	g.ok(g.k.Copy())
	g.ok(g.k.Expire("one"))
	g.model = g.model[1:]
	for _, vol := range []int{-1, 5, math.MaxInt, math.MinInt} {
		g.expect(g.k.Reclaim(vol), api.ErrArg)
	}
	g.expect(g.k.Reclaim(1), api.ErrState)
	chunks := len(g.k.Catalog().Chunks)
	for _, vol := range []int{0, 3} {
		g.ok(g.k.Reclaim(vol))
		c := g.k.Catalog()
		if v := c.Vols[vol]; v.State != api.VolScratch || v.Epoch != 1 || v.Files != 0 {
			t.Error(v)
		}
		for _, k := range c.Chunks {
			if slices.ContainsFunc(k.Locs, func(l api.Loc) bool { return l.Vol == vol }) {
				t.Error("a location on a scratch volume", k)
			}
		}
		if m, _ := g.r.Medium(vol); len(m.Cells) != 2 || g.label(vol) != (api.Label{Vol: vol, Pool: vol / 3, Epoch: 1}) {
			t.Error(g.label(vol))
		}
		g.sound()
	}
	if c := g.k.Catalog(); c.Vols[1].State != api.VolFilling || c.Vols[4].State != api.VolFilling || len(c.Chunks) >= chunks || len(c.Exps) != 1 {
		t.Error(c)
	}
	g.d.Erase()
	g.ok(g.rebuild())
	g.sound()
	if g.k.Catalog().Vols[0].Epoch != 1 {
		t.Error("the epoch of the label is lost")
	}
}

func TestReclaimWithoutRoom(t *testing.T) {
	g := newRig(t, api.Config{Block: 64, Cap: 60, Primary: 1, Copies: 1, Drives: 1, Stage: 1000, Batch: 64})
	g.backup("one", text(1, 200))
	g.ok(g.k.Migrate())
	g.expect(g.k.Reclaim(0), api.ErrScratch)
	g.sound()
	g.ok(g.k.Copy())
	g.expect(g.k.Reclaim(0), api.ErrScratch)
	g.sound()
	g.ok(g.k.Expire("one"))
	g.model = nil
	g.ok(g.k.Reclaim(1))
	g.sound()
}

func TestReclaimOfTheLastEpoch(t *testing.T) {
	g := newRig(t, config())
	g.ok(volumeOf(g, 0).Format(api.Label{Epoch: api.MaxEpoch}))
	g.ok(g.rebuild())
	g.backup("one", "text")
	g.ok(g.k.Migrate())
	g.expect(g.k.Reclaim(0), api.ErrLimit)
	g.sound()
}

func TestRenew(t *testing.T) {
	g := newRig(t, config())
	g.backup("one", text(1, 200))
	g.backup("gone", text(5, 100))
	g.ok(g.k.Migrate())
	g.ok(g.k.Copy())
	g.backup("dropped", "text")
	g.ok(g.k.Expire("dropped"))
	g.ok(g.k.Expire("gone"))
	g.model = []snapshot{g.model[0]}
	g.backup("two", text(2, 200))
	g.ok(g.k.Renew())
	g.sound()
	c := g.k.Catalog()
	twin := g.twin()
	twin.ok(twin.rebuild())
	want := twin.k.Catalog()
	want.Seq = c.Seq
	if !reflect.DeepEqual(c, want) || c.Seq != 5 || catalog.Staged(c) != 0 {
		t.Errorf("%+v, not %+v", c, want)
	}
	g.ok(g.open())
	g.sound()
	m, _ := g.r.Medium(1)
	bad, _ := medium.Spoil(m, 0)
	g.ok(g.r.Put(1, bad))
	g.backup("three", text(3, 100))
	g.expect(g.k.Renew(), api.ErrLabel)
	if catalog.Staged(g.k.Catalog()) != 0 {
		t.Error("Renew does not migrate first")
	}
	g.sound()
}

func TestRenewKeepsTheSeq(t *testing.T) {
	g := newRig(t, config())
	g.ok(g.k.Backup("a"))
	g.ok(g.k.Expire("a"))
	g.ok(g.k.Renew())
	if g.k.Catalog().Seq != 1 {
		t.Error(g.k.Catalog())
	}
}

func TestAudit(t *testing.T) {
	g := newRig(t, config())
	g.backup("one", text(1, 100))
	g.ok(g.k.Migrate())
	g.backup("two", text(2, 100))
	g.ok(g.k.Migrate())
	g.ok(g.k.Copy())
	g.ok(g.k.Expire("one"))
	g.model = g.model[1:]
	g.sound()
	for vol := range 5 {
		m, _ := g.r.Medium(vol)
		empty, _ := medium.End(m, min(len(m.Cells), 2))
		g.ok(g.r.Put(vol, empty))
		want := 0
		c := g.k.Catalog()
		for _, k := range c.Chunks {
			for _, l := range k.Locs {
				if l.Vol == vol {
					want++
				}
			}
		}
		for _, s := range c.Snaps {
			for _, l := range s.Locs {
				if l.Vol == vol {
					want++
				}
			}
		}
		for _, x := range c.Exps {
			for _, l := range x.Locs {
				if l.Vol == vol {
					want++
				}
			}
		}
		if n, e := g.k.Audit(); n != want || e != api.OK {
			t.Error(vol, n, want, e)
		}
		g.ok(g.r.Put(vol, m))
	}
	exp := g.k.Catalog().Exps[0].Locs[0]
	m, _ := g.r.Medium(exp.Vol)
	at, _ := medium.File(m, exp.File)
	m, _ = medium.Flip(m, at, exp.Off*8+13*8)
	g.ok(g.r.Put(exp.Vol, m))
	if n, e := g.k.Audit(); n != 1 || e != api.OK {
		t.Error(n, e)
	}
	g.p.Cut(nil, -1)
	if n, e := g.k.Audit(); n != 0 || e != api.ErrOff {
		t.Error(n, e)
	}
}

func TestDown(t *testing.T) {
	g := newRig(t, config())
	g.backup("one", text(1, 100))
	g.ok(g.k.Migrate())
	g.k.Restore("one")
	was, moves := g.k.Catalog(), g.k.Moves()
	for range 2 {
		g.p.Cut(nil, -1)
		for range 2 {
			if !g.k.Down() {
				t.Error("not down")
			}
			_, e := g.k.Restore("nothing")
			_, f := g.k.Audit()
			for i, e := range []api.Errno{e, f, g.k.Backup(""), g.k.Expire("nothing"), g.k.Migrate(), g.k.Copy(), g.k.Reclaim(-1), g.k.Renew()} {
				if e != api.ErrOff {
					t.Error(i, e)
				}
			}
			if !reflect.DeepEqual(g.k.Catalog(), was) || !slices.Equal(g.k.Names(), []string{"one"}) || !slices.Equal(g.k.Moves(), moves) {
				t.Error("a Repo that is down forgets")
			}
			g.p.Start()
		}
	}
	g.ok(g.open())
	if g.k.Down() {
		t.Error("down after Open")
	}
	g.sound()
	var zero Repo
	if !zero.Down() || zero.Migrate() != api.ErrOff || len(zero.Names()) != 0 {
		t.Error("the zero Repo")
	}
}

func TestMovesKeepTheBound(t *testing.T) {
	g := newRig(t, api.Config{Block: 32, Cap: 40, Primary: 8, Copies: 0, Drives: 2, Stage: 4000, Batch: 3})
	for i := range 4 {
		g.backup(string(rune('a'+i)), text(i, 200))
		g.ok(g.k.Migrate())
	}
	g.backup("all", text(0, 200), text(1, 200), text(2, 200), text(3, 200))
	g.sound()
	mounted := g.r.Mounts()
	if _, e := g.k.Restore("all"); e != api.OK {
		t.Fatal(e)
	}
	var reads []api.Read
	seen := map[int]int{}
	for _, m := range g.k.Moves() {
		if m.Kind == api.MoveMount {
			seen[m.Vol]++
		} else {
			reads = append(reads, api.Read{Loc: m.Loc})
		}
	}
	n := 0
	for vol, k := range seen {
		n += k
		if k > 1 {
			t.Error("mounted twice", vol)
		}
	}
	if len(g.k.Moves()) > mounts.Bound(reads) || n != g.r.Mounts()-mounted || n == 0 {
		t.Error(g.k.Moves(), n, g.r.Mounts()-mounted)
	}
}
