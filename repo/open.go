package repo

import (
	"cellarer/api"
	"cellarer/catalog"
	"cellarer/change"
	"cellarer/disk"
	"cellarer/power"
	"cellarer/rebuild"
	"cellarer/robot"
	"cellarer/wal"
)

const (
	minBlock   = 32
	minCap     = 4
	minSectors = 400
)

// Fit returns OK if a Repo can use the devices with this Config.
func Fit(p *power.Power, d *disk.Disk, r *robot.Robot, c api.Config) api.Errno {
	if p == nil || d == nil || r == nil || !valid(c) {
		return api.ErrArg
	}
	if r.Vols() != c.Primary+c.Copies || r.Drives() != c.Drives || d.Sectors() < minSectors {
		return api.ErrArg
	}
	for vol := range r.Vols() {
		if m, e := r.Medium(vol); e != api.OK || m.Cap != c.Cap {
			return api.ErrArg
		}
	}
	return api.OK
}

func valid(c api.Config) bool {
	return within(c.Block, minBlock, api.MaxBlock) && within(c.Cap, minCap, api.MaxCells) &&
		within(c.Primary, 1, api.MaxVols) && within(c.Copies, 0, api.MaxVols-c.Primary) &&
		within(c.Drives, 1, api.MaxDrives) && within(c.Stage, 0, api.MaxBytes) && within(c.Batch, 1, api.MaxRecords)
}

func within(n, least, most int) bool { return n >= least && n <= most }

// employ returns the works of these devices, if they fit.
func employ(p *power.Power, d *disk.Disk, r *robot.Robot, c api.Config) (*works, api.Errno) {
	if e := Fit(p, d, r, c); e != api.OK {
		return nil, e
	}
	if p.Off() {
		return nil, api.ErrOff
	}
	return &works{Power: p, Disk: d, Robot: r, config: c, life: p.Life()}, api.OK
}

// New creates an empty repository.
func New(p *power.Power, d *disk.Disk, r *robot.Robot, c api.Config) (*Repo, api.Errno) {
	w, e := employ(p, d, r, c)
	if e != api.OK {
		return nil, e
	}
	for vol := range w.Vols() {
		if e := w.format(vol, 0); e != api.OK {
			return nil, e
		}
	}
	fresh, e := catalog.New(w.pools()...)
	if e != api.OK {
		return nil, e
	}
	if e := w.begin(fresh); e != api.OK {
		return nil, e
	}
	return &Repo{*w}, api.OK
}

// Open recovers the repository from the disk.
func Open(p *power.Power, d *disk.Disk, r *robot.Robot, c api.Config) (*Repo, api.Errno) {
	w, e := employ(p, d, r, c)
	if e != api.OK {
		return nil, e
	}
	if e := w.recover(); e != api.OK {
		return nil, e
	}
	for vol, v := range w.known.Vols {
		if v.State == api.VolRetired {
			e = w.relabel(vol)
		} else {
			e = w.trim(vol)
		}
		// A volume of which nothing else can be made is left as it is.
		if e == api.ErrOff {
			return nil, e
		}
	}
	return &Repo{*w}, api.OK
}

// Rebuild recovers the repository from the tapes alone.
func Rebuild(p *power.Power, d *disk.Disk, r *robot.Robot, c api.Config) (*Repo, api.Errno) {
	w, e := employ(p, d, r, c)
	if e != api.OK {
		return nil, e
	}
	found, e := w.scan()
	if e != api.OK {
		return nil, e
	}
	if e := w.begin(found); e != api.OK {
		return nil, e
	}
	for vol := range w.Vols() {
		if e := w.trim(vol); e != api.OK {
			return nil, e
		}
	}
	return &Repo{*w}, api.OK
}

// begin saves the catalog on an erased disk.
func (w *works) begin(c api.Catalog) api.Errno {
	b, e := encode(c)
	if e != api.OK {
		return e
	}
	if e := w.Erase(); e != api.OK {
		return e
	}
	log, _, _, e := wal.Open(w.Disk)
	if e != api.OK {
		return e
	}
	w.Log, w.known = log, c
	return w.Save(b)
}

// recover takes the catalog from the log, and saves it.
func (w *works) recover() api.Errno {
	log, state, changes, e := wal.Open(w.Disk)
	if e != api.OK {
		return e
	}
	c, e := replay(state, changes)
	if e != api.OK || len(c.Vols) != w.Vols() {
		return api.ErrState
	}
	b, e := encode(c)
	if e != api.OK {
		return api.ErrState
	}
	w.Log, w.known = log, c
	return w.Save(b)
}

// replay applies changes to a state.
func replay(state []byte, changes [][]byte) (api.Catalog, api.Errno) {
	c, e := catalog.Read(state)
	if e != api.OK {
		return api.Catalog{}, e
	}
	for _, b := range changes {
		x, e := change.Read(b)
		if e != api.OK {
			return api.Catalog{}, e
		}
		if c, e = change.Apply(c, x); e != api.OK {
			return api.Catalog{}, e
		}
	}
	return c, api.OK
}

// scan returns the catalog that the tapes tell of.
func (w *works) scan() (api.Catalog, api.Errno) {
	var vols []api.Vol
	var found []api.Found
	for vol := range w.Vols() {
		v, l, e := w.scanVolume(vol)
		if e != api.OK {
			return api.Catalog{}, e
		}
		vols, found = append(vols, v), append(found, l...)
	}
	return rebuild.From(vols, found...)
}

// scanVolume returns what a volume tells of itself, and its records.
func (w *works) scanVolume(vol int) (api.Vol, []api.Found, api.Errno) {
	v, e := w.volume(vol)
	if e != api.OK {
		return api.Vol{}, nil, e
	}
	label, e := v.Label()
	if e != api.OK {
		return api.Vol{}, nil, e
	}
	if label.Vol != vol || label.Pool != w.pool(vol) {
		return api.Vol{}, nil, api.ErrLabel
	}
	out := api.Vol{Pool: label.Pool, Epoch: label.Epoch, State: api.VolScratch, Files: v.Files()}
	if out.Files > 0 {
		out.State = api.VolFilling
	}
	var found []api.Found
	for i := range out.Files {
		file := i + 1
		records, offs, _, e := v.Scan(file)
		if e != api.OK {
			return api.Vol{}, nil, e
		}
		for k, r := range records {
			found = append(found, api.Found{Rec: r, Loc: api.Loc{Vol: vol, File: file, Off: offs[k], Len: frameLen(r)}})
		}
	}
	return out, found, api.OK
}
