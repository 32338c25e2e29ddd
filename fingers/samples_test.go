package fingers

import (
	"math"
	"math/big"
	"slices"

	"carcanet/api"
)

const (
	least    = math.MinInt
	greatest = math.MaxInt
	end      = math.MaxUint64
)

// Peers

// at answers a peer of that name and identifier, each of whose other fields has a value of its own, the same one for all names.
func at(name string, id uint64) api.Peer {
	return api.Peer{
		Entry: api.Entry{Name: name, Id: id, From: 2, Until: 300, Index: 4, Tag: "tag"},
		Since: 5, Under: 6,
	}
}

// node answers the entry of the node whose fingers these are.
func node(id uint64) api.Entry {
	return api.Entry{Name: "me", Id: id, From: 7, Until: 800, Index: 9, Tag: "the node's tag"}
}

// row answers peers with the names a, b, c and so on, and these identifiers.
func row(ids ...uint64) []api.Peer {
	var list []api.Peer
	for i, id := range ids {
		list = append(list, at(string(rune('a'+i)), id))
	}
	return list
}

// many answers that row, of the identifiers 110, 120, 130 and so on.
func many(count int) []api.Peer {
	var ids []uint64
	for i := range count {
		ids = append(ids, uint64(110+10*i))
	}
	return row(ids...)
}

// powers answers peers at all powers of two ahead of a place.
func powers(from uint64) []api.Peer {
	var ids []uint64
	for bit := range 64 {
		ids = append(ids, from+1<<bit)
	}
	return row(ids...)
}

// with answers that peer, changed.
func with(p api.Peer, change func(p *api.Peer)) api.Peer {
	change(&p)
	return p
}

// taken answers that peer, taken at another time and by another key.
func taken(p api.Peer) api.Peer {
	return with(p, func(p *api.Peer) { p.Since, p.Under = p.Since+11, p.Under-13 })
}

// others answers peers of that one's name and identifier, each with another part that is not alike.
func others(p api.Peer) []api.Peer {
	return []api.Peer{
		taken(p),
		with(p, func(p *api.Peer) { p.Entry.From++ }),
		with(p, func(p *api.Peer) { p.Entry.Until += 1 << 32 }),
		with(p, func(p *api.Peer) { p.Entry.Index = greatest }),
		with(p, func(p *api.Peer) { p.Entry.Tag = "" }),
		with(p, func(p *api.Peer) { p.Since = least }),
		with(p, func(p *api.Peer) { p.Under-- }),
	}
}

// parts answers peers that are zero but for one part.
func parts() []api.Peer {
	var zero api.Peer
	return []api.Peer{
		with(zero, func(p *api.Peer) { p.Entry.Name = "a" }),
		with(zero, func(p *api.Peer) { p.Entry.Name = "\x00" }),
		with(zero, func(p *api.Peer) { p.Entry.Id = 1 }),
		with(zero, func(p *api.Peer) { p.Entry.Id = end }),
		with(zero, func(p *api.Peer) { p.Entry.From = -1 }),
		with(zero, func(p *api.Peer) { p.Entry.Until = 1 << 32 }),
		with(zero, func(p *api.Peer) { p.Entry.Index = 1 }),
		with(zero, func(p *api.Peer) { p.Entry.Tag = "\x00" }),
		with(zero, func(p *api.Peer) { p.Since = 1 }),
		with(zero, func(p *api.Peer) { p.Under = least }),
	}
}

// few answers peers of few names and identifiers, round the node 100.
func few() []api.Peer {
	return []api.Peer{
		at("a", 110), taken(at("a", 110)), at("b", 110), at("a", 99), at("b", 101), at("c", 100), at("", 90), at("me", 120), {},
	}
}

// lists answers all lists of at most so many of these.
func lists[T any](of []T, most int) [][]T {
	all := [][]T{nil}
	for done := 0; most > 0; most-- {
		for _, l := range all[done:len(all):len(all)] {
			done++
			for _, x := range of {
				all = append(all, append(slices.Clone(l), x))
			}
		}
	}
	return all
}

// nothings answers the ways in which nothing may come in.
func nothings[T any]() [][]T {
	return [][]T{nil, {}, make([]T, 0, 9), make([]T, 5)[:0], make([]T, 5)[3:3]}
}

// Places

// places answers identifiers of a circle, as they are met from a place on: that place itself, right ahead of it, at the powers of two, and last right behind it.
func places(from uint64) []uint64 {
	var list []uint64
	for _, far := range []uint64{0, 1, 2, 3, 4, 1<<31 - 1, 1 << 31, 1<<32 - 1, 1 << 32, 1<<32 + 1, 1<<62 - 1, 1 << 62, 1<<62 + 1, 1<<63 - 1, 1 << 63, 1<<63 + 1, end - 1<<32, end - 1, end} {
		list = append(list, from+far)
	}
	return list
}

// nodes answers identifiers at which a node may stand.
func nodes() []uint64 {
	return []uint64{0, 1, 100, 1 << 32, 1<<63 - 1, 1 << 63, 1<<63 + 1, end - 2, end}
}

// Fingers

// to answers the finger of a bit that leads to a peer.
func to(bit int, p api.Peer) api.Finger { return api.Finger{Bit: bit, Peer: p} }

// none answers the finger of a bit that leads to nobody.
func none(bit int) api.Finger { return api.Finger{Bit: bit} }

// leading answers fingers of the bits 0, 3, 6 and so on, each to one of these peers.
func leading(l []api.Peer) []api.Finger {
	var list []api.Finger
	for i, p := range l {
		list = append(list, to(3*i, p))
	}
	return list
}

// bits answers numbers that may come in as a bit.
func bits() []int {
	list := []int{least, least + 1, -1 << 32, 1 - 1<<32, 5 - 1<<32, -128, -64, -63, -2, -1}
	for bit := range 68 {
		list = append(list, bit)
	}
	return append(list, 127, 128, 255, 256, 1<<31-1, 1<<31, 1<<32, 1<<32+5, 1<<32+63, greatest-1, greatest)
}

// fewFingers answers fingers of few bits, some of which are none, and peers.
func fewFingers() []api.Finger {
	a, b := at("a", 110), at("b", 90)
	return []api.Finger{
		to(0, a), to(3, b), to(3, a), none(3), to(63, b), to(-1, a), none(-7), to(64, b), none(0), to(5, parts()[8]), to(5, at("", 100)),
	}
}

// names answers names that a finger's peer may have, of which some are the beginnings of others, some have bytes above 127, and one has none.
func names() []string {
	return []string{"", "\x00", " ", "A", "a", "a\x00", "a ", "aa", "ab", "me", "abcdefghijklmnop", "abcdefghijklmnopq", "tag", "\x7f", "\x80", "\xc3\xa9", "\xff", "\xff\x00"}
}

// Drawn ones

// rows answers numbers without a plain order, the same ones for the same seed.
func rows(seed uint64) func(below int) int {
	state := seed*2862933555777941757 + 3037000493
	return func(below int) int {
		state = state*6364136223846793005 + 1442695040888963407
		return int(state >> 33 % uint64(below))
	}
}

// drawn answers a peer by numbers that are drawn: of few names, certificates and times, and of places round a node.
func drawn(draw func(below int) int, me uint64) api.Peer {
	called := []string{"a", "b", "c", "d", "e", "f", "g", "h", "i", "j", "ab", "", "\xff", "me"}
	round := places(me)
	p := at(called[draw(len(called))], round[draw(len(round))])
	switch draw(8) {
	case 0, 1, 2:
		p.Entry.Id = me + uint64(draw(9))<<(8*draw(8))
	case 3, 4:
		p.Entry.Id = me + 1<<draw(64) + uint64(draw(3)) - 1
	case 5:
		if draw(3) == 0 {
			p = api.Peer{}
		}
	}
	p.Entry.Index, p.Since = p.Entry.Index*draw(2), p.Since*draw(2)
	return p
}

// drawnList answers a list of so many.
func drawnList(draw func(below int) int, me uint64, length int) []api.Peer {
	var list []api.Peer
	for range length {
		list = append(list, drawn(draw, me))
	}
	return list
}

// drawnFingers answers so many fingers, in no order, some of bits that are none.
func drawnFingers(draw func(below int) int, me uint64, length int) []api.Finger {
	var list []api.Finger
	for range length {
		x := to(draw(80)-8, drawn(draw, me))
		if draw(4) == 0 {
			x.Peer = api.Peer{}
		}
		list = append(list, x)
	}
	return list
}

// What the chapter's words ask for

// circle answers a number modulo 2^64.
func circle(x *big.Int) *big.Int { return x.Mod(x, new(big.Int).Lsh(big.NewInt(1), 64)) }

// far is chapter 9's Dist: how far b lies ahead of a.
func far(a, b uint64) *big.Int {
	x := new(big.Int).SetUint64(b)
	return circle(x.Sub(x, new(big.Int).SetUint64(a)))
}

// start is chapter 9's Start: an identifier and a power of two.
func start(id uint64, bit int) uint64 {
	x := new(big.Int).Exp(big.NewInt(2), big.NewInt(int64(bit)), nil)
	return circle(x.Add(x, new(big.Int).SetUint64(id))).Uint64()
}

// between is chapter 9's Inside: whether x is met on the way up from a, behind a, up to b, without b.
func between(a, x, b uint64) bool {
	if a == b {
		return x != a
	}
	return x != a && far(a, x).Cmp(far(a, b)) < 0
}

// wantFinger is the finger of a bit: the first one with the least Dist, of the node, who is none here, and its peers.
func wantFinger(me api.Entry, l []api.Peer, bit int) api.Peer {
	place := start(me.Id, bit)
	var owner api.Peer
	way := far(place, me.Id)
	for _, p := range l {
		if far(place, p.Entry.Id).Cmp(way) < 0 {
			owner, way = p, far(place, p.Entry.Id)
		}
	}
	return owner
}

func wantOf(me api.Entry, l []api.Peer) []api.Finger {
	list := []api.Finger{{Bit: 0, Peer: wantFinger(me, l, 0)}}
	for bit := 1; bit <= 63; bit++ {
		if p := wantFinger(me, l, bit); p != wantFinger(me, l, bit-1) {
			list = append(list, api.Finger{Bit: bit, Peer: p})
		}
	}
	return list
}

func wantAt(f []api.Finger, bit int) (api.Peer, bool) {
	var p api.Peer
	if bit < 0 || bit > 63 {
		return p, false
	}
	for _, x := range f {
		if x.Bit <= bit {
			p = x.Peer
		}
	}
	return p, p != api.Peer{}
}

func wantDrop(f []api.Finger, name string) []api.Finger {
	list := []api.Finger{}
	for _, x := range f {
		if x.Peer.Entry.Name == name {
			list = append(list, api.Finger{Bit: x.Bit})
		} else {
			list = append(list, x)
		}
	}
	return list
}

// wantKnown is whom a Hop may be: the peers, and then the fingers' but the zero ones.
func wantKnown(l []api.Peer, f []api.Finger) []api.Entry {
	var list []api.Entry
	for _, p := range l {
		list = append(list, p.Entry)
	}
	for _, x := range f {
		if (x.Peer != api.Peer{}) {
			list = append(list, x.Peer.Entry)
		}
	}
	return list
}

func wantHop(me api.Entry, l []api.Peer, f []api.Finger, key uint64) api.Entry {
	var inside []api.Entry
	for _, e := range wantKnown(l, f) {
		if between(me.Id, e.Id, key) {
			inside = append(inside, e)
		}
	}
	for _, e := range inside {
		greatest := true
		for _, other := range inside {
			greatest = greatest && far(me.Id, other.Id).Cmp(far(me.Id, e.Id)) <= 0
		}
		if greatest {
			return e
		}
	}
	return me
}
