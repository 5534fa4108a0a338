package store

import (
	"slices"

	"croft/api"
	"croft/disk"
	"croft/grove"
	"croft/layout"
	"croft/mark"
	"croft/nmap"
	"croft/roll"
	"croft/seglog"
	"croft/super"
	"croft/tree"
	"croft/verify"
)

// Look is what stands on a disk.
type Look struct {
	Geometry api.Geometry
	Mark     mark.Mark
	Found    roll.Found
	Nodes    *grove.Grove
}

const (
	headAt   = 0
	maxEpoch = 1 << 31
)

// Format makes a disk one of a store without points.
func Format(d *disk.Disk, g api.Geometry) api.Errno {
	head, e := super.Put(g)
	if e != api.OK || d.Count() < layout.Sectors(g) {
		return api.ErrRange
	}
	// An older mark of an even epoch would stand beside the one of epoch 1, and be taken for the later one.
	older := layout.Region(0) + api.Region - 1
	return inOrder(
		func() api.Errno { return d.Write(headAt, head) },
		func() api.Errno { return d.Write(older, make([]byte, api.Sector)) },
		d.Flush,
		func() api.Errno { return set(d, mark.Mark{Epoch: 1, Place: api.Place{Next: 1}}) },
	)
}

// inOrder does one thing after the other, up to the first error.
func inOrder(l ...func() api.Errno) api.Errno {
	for _, f := range l {
		if e := f(); e != api.OK {
			return e
		}
	}
	return api.OK
}

// set writes a mark: nothing of its head may be sure ahead of its body.
func set(d *disk.Disk, m mark.Mark) api.Errno {
	body, e := mark.Body(m)
	if e != api.OK {
		return e
	}
	head, e := mark.Head(m)
	if e != api.OK {
		return e
	}
	at := layout.Region(m.Epoch)
	return inOrder(
		func() api.Errno { return seglog.Write(d, at, body) },
		d.Flush,
		func() api.Errno { return d.Write(at+len(body), head) },
		d.Flush,
	)
}

// Marks answers the marks that stand in the regions, the greater epoch first.
func Marks(d *disk.Disk) ([]mark.Mark, api.Errno) {
	var marks []mark.Mark
	for epoch := range 2 {
		region := layout.Region(epoch)
		var l [][]byte
		for i := range api.Region {
			b, e := d.Read(region + i)
			if e != api.OK {
				return nil, e
			}
			l = append(l, b)
		}
		if m, e := mark.Read(l); e == api.OK && layout.Region(m.Epoch) == region {
			marks = append(marks, m)
		}
	}
	slices.SortFunc(marks, func(a, b mark.Mark) int { return b.Epoch - a.Epoch })
	return marks, api.OK
}

// Examine answers what stands on a disk, if it is a store's.
func Examine(d *disk.Disk) (Look, api.Errno) {
	g, e := geometry(d)
	if e != api.OK {
		return Look{}, e
	}
	marks, e := Marks(d)
	if e != api.OK {
		return Look{}, e
	}
	if len(marks) == 0 {
		return Look{}, api.ErrCorrupt
	}
	found, e := roll.Forward(d, g, marks[0])
	if e == api.ErrRange {
		e = api.ErrCorrupt
	}
	if e != api.OK {
		return Look{}, e
	}
	nodes, e := load(d, g, found.Map)
	if e != api.OK {
		return Look{}, e
	}
	return Look{g, marks[0], found, nodes}, api.OK
}

func geometry(d *disk.Disk) (api.Geometry, api.Errno) {
	if d.Count() == 0 {
		return api.Geometry{}, api.ErrCorrupt
	}
	b, e := d.Read(headAt)
	if e != api.OK {
		return api.Geometry{}, e
	}
	g, e := super.Read(b)
	if e != api.OK || d.Count() < layout.Sectors(g) {
		return api.Geometry{}, api.ErrCorrupt
	}
	return g, api.OK
}

// load answers all nodes of a map, if they are a tree, or none.
func load(d *disk.Disk, g api.Geometry, m [api.Ids]int) (*grove.Grove, api.Errno) {
	if !nmap.Apart(m) {
		return nil, api.ErrCorrupt
	}
	nodes := grove.New()
	for _, id := range nmap.Ids(m) {
		if _, _, ok := layout.Where(g, m[id]); !ok {
			return nil, api.ErrCorrupt
		}
		x, e := seglog.Load(d, m[id])
		if e != api.OK {
			return nil, e
		}
		if x.Id != id || nodes.Put(id, x.Node) != api.OK {
			return nil, api.ErrCorrupt
		}
	}
	if len(nodes.Ids()) > 0 && verify.Check(nodes) != api.OK {
		return nil, api.ErrCorrupt
	}
	return nodes, api.OK
}

// Mount answers the store of a disk.
func Mount(d *disk.Disk) (*Store, api.Errno) {
	look, e := Examine(d)
	if e != api.OK {
		return nil, e
	}
	if look.Mark.Epoch > maxEpoch {
		return nil, api.ErrCorrupt
	}
	s := &Store{made: true, d: d, g: look.Geometry, nodes: look.Found.Map, place: look.Found.Place, epoch: look.Mark.Epoch, ages: look.Mark.Ages, now: look.Nodes, sure: look.Nodes}
	if len(look.Nodes.Ids()) == 0 {
		s.now = tree.Empty()
	}
	s.ages[s.place.Seg] = s.epoch + 1
	if e := s.mark(); e != api.OK {
		return nil, e
	}
	return s, api.OK
}
