package store

import (
	"croft/api"
	"croft/grove"
	"croft/layout"
	"croft/mark"
	"croft/nmap"
	"croft/plan"
	"croft/pool"
	"croft/seglog"
	"croft/usage"
	"croft/victim"
)

const written = 1

// Sync makes the tree of now sure.
func (s *Store) Sync() api.Errno {
	if e := s.writes(); e != api.OK {
		return e
	}
	l := s.now.Changed(s.sure)
	if len(l) == 0 {
		return api.OK
	}
	if e := s.log(s.now, l, api.Reserve); e != api.OK {
		return e
	}
	s.sure = s.now
	return api.OK
}

// Checkpoint sets a mark.
func (s *Store) Checkpoint() api.Errno {
	if e := s.writes(); e != api.OK {
		return e
	}
	return s.told(s.mark())
}

// Clean moves the nodes of the segment that is worth it most, sets a mark, and tells how many nodes went.
func (s *Store) Clean() (int, api.Errno) {
	if e := s.writes(); e != api.OK {
		return 0, e
	}
	var l []api.Entry
	if seg, ok := s.victim(); ok {
		for _, id := range usage.Needed(s.g, s.nodes, seg) {
			l = append(l, api.Entry{Kind: written, Id: id})
		}
		if e := s.log(s.sure, l, 0); e != api.OK {
			return 0, e
		}
	}
	if e := s.told(s.mark()); e != api.OK {
		return 0, e
	}
	return len(l), api.OK
}

// victim answers the segment that is worth most, of those that are not in use, or free.
func (s *Store) victim() (int, bool) {
	live := usage.Live(s.g, s.nodes)
	var l []victim.Seg
	for seg := range s.g.Segments {
		l = append(l, victim.Seg{Live: live[seg], Age: victim.Age(s.epoch, s.ages[seg])})
	}
	return victim.Pick(s.g.Size, l, append(s.free.All(), s.place.Seg, s.place.Next))
}

// log writes the entries of l, with their nodes in g, if that many segments stay free.
func (s *Store) log(g *grove.Grove, l []api.Entry, reserve int) api.Errno {
	parts, place, free, e := plan.Parts(s.g, s.place, s.free.All(), l)
	if e != api.OK || len(free) < reserve {
		return api.ErrFull
	}
	nodes, ages := s.nodes, s.ages
	all := items(g, l)
	for i, x := range parts {
		first, _ := layout.Address(s.g, x.Place.Seg, x.Place.Off)
		sectors, e := seglog.Sectors(x.Summary, s.epoch, s.seq+i, all)
		if e == api.OK {
			e = seglog.Write(s.d, first, sectors)
		}
		if e != api.OK {
			return s.told(e)
		}
		nodes, _ = nmap.Apply(nodes, x.Summary.Entries, behind(first, len(sectors)-1))
		ages[x.Place.Seg] = s.epoch
	}
	if e := s.told(s.d.Flush()); e != api.OK {
		return e
	}
	s.nodes, s.ages, s.place, s.free = nodes, ages, place, pool.New(free...)
	s.seq += len(parts)
	return api.OK
}

// items answers the nodes of g that entries tell as written.
func items(g *grove.Grove, l []api.Entry) []seglog.Item {
	var all []seglog.Item
	for _, x := range l {
		if n, ok := g.Get(x.Id); ok && x.Kind == written {
			all = append(all, seglog.Item{Id: x.Id, Node: n})
		}
	}
	return all
}

// behind answers the n sectors behind a summary's.
func behind(first, n int) []int {
	var l []int
	for i := range n {
		l = append(l, first+1+i)
	}
	return l
}

// told closes the store if the disk told an error.
func (s *Store) told(e api.Errno) api.Errno {
	if e == api.OK {
		return api.OK
	}
	s.closed = true
	return api.ErrIO
}

// mark sets the next mark; what it makes sure lets segments be free again.
func (s *Store) mark() api.Errno {
	m := mark.Mark{Epoch: s.epoch + 1, Place: s.place, Ages: s.ages, Map: s.nodes}
	if e := set(s.d, m); e != api.OK {
		return e
	}
	s.epoch, s.seq = m.Epoch, 0
	s.free = pool.New(usage.Free(s.g, s.nodes, s.place)...)
	return api.OK
}
