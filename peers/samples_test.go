package peers

import (
	"math"
	"math/big"
	"slices"

	"carcanet/api"
)

const (
	least    = math.MinInt
	greatest = math.MaxInt
	end      = math.MaxUint64
)

// Peers

// at answers a peer of that name and identifier, each of whose other fields has a value of its own, the same one for all names.
func at(name string, id uint64) api.Peer {
	return api.Peer{
		Entry: api.Entry{Name: name, Id: id, From: 2, Until: 300, Index: 4, Tag: "tag"},
		Since: 5, Under: 6,
	}
}

// node answers the entry of the node whose peers these are.
func node(id uint64) api.Entry {
	return api.Entry{Name: "me", Id: id, From: 7, Until: 800, Index: 9, Tag: "the node's tag"}
}

// row answers peers with the names a, b, c and so on, and these identifiers.
func row(ids ...uint64) []api.Peer {
	var list []api.Peer
	for i, id := range ids {
		list = append(list, at(string(rune('a'+i)), id))
	}
	return list
}

// many answers that row, of the identifiers 110, 120, 130 and so on.
func many(count int) []api.Peer {
	var ids []uint64
	for i := range count {
		ids = append(ids, uint64(110+10*i))
	}
	return row(ids...)
}

// called answers peers of one identifier, with these names.
func called(id uint64, names ...string) []api.Peer {
	var list []api.Peer
	for _, name := range names {
		list = append(list, at(name, id))
	}
	return list
}

// with answers that peer, changed.
func with(p api.Peer, change func(p *api.Peer)) api.Peer {
	change(&p)
	return p
}

// taken answers that peer, taken at another time and by another key.
func taken(p api.Peer) api.Peer {
	return with(p, func(p *api.Peer) { p.Since, p.Under = p.Since+11, p.Under-13 })
}

// renewed answers another certificate of that peer's node.
func renewed(p api.Peer) api.Peer {
	return with(p, func(p *api.Peer) { p.Entry.Until, p.Entry.Tag = p.Entry.Until+7, "another tag" })
}

// moved answers that peer with another identifier.
func moved(p api.Peer, id uint64) api.Peer {
	return with(p, func(p *api.Peer) { p.Entry.Id = id })
}

// others answers peers of that one's name and identifier, each with another Entry.
func others(p api.Peer) []api.Peer {
	return []api.Peer{
		renewed(p),
		with(p, func(p *api.Peer) { p.Entry.From++ }),
		with(p, func(p *api.Peer) { p.Entry.From = least }),
		with(p, func(p *api.Peer) { p.Entry.Until++ }),
		with(p, func(p *api.Peer) { p.Entry.Until += 1 << 32 }),
		with(p, func(p *api.Peer) { p.Entry.Index-- }),
		with(p, func(p *api.Peer) { p.Entry.Index = greatest }),
		with(p, func(p *api.Peer) { p.Entry.Tag = "" }),
		with(p, func(p *api.Peer) { p.Entry.Tag += "\x00" }),
		with(p, func(p *api.Peer) { p.Entry.From, p.Entry.Until = p.Entry.Until, p.Entry.From }),
	}
}

// rising answers names that rise byte by byte, of which some are the beginnings of others, some have bytes above 127, and one has none.
func rising() []string {
	return []string{"", "\x00", "\x00\x00", "\x01", " ", "A", "Z", "a", "a\x00", "a\x00b", "a ", "aa", "ab", "aba", "abcdefghijklmnop", "abcdefghijklmnopq", "b", "z", "zz", "\x7f", "\x80", "\xc3\xa9", "\xe2\x82\xac", "\xef\xbf\xbd", "\xff", "\xff\x00", "\xff\xff"}
}

// places answers identifiers of a circle, as they are met from a place on: that place itself, right ahead of it, at the powers of two, and last right behind it.
func places(from uint64) []uint64 {
	var list []uint64
	for _, far := range []uint64{0, 1, 2, 1<<31 - 1, 1 << 31, 1<<32 - 1, 1 << 32, 1<<32 + 1, 1<<63 - 1, 1 << 63, 1<<63 + 1, end - 1<<32, end - 1, end} {
		list = append(list, from+far)
	}
	return list
}

// nodes answers identifiers at which a node may stand.
func nodes() []uint64 {
	return []uint64{0, 1, 100, 1 << 32, 1<<63 - 1, 1 << 63, 1<<63 + 1, end - 2, end}
}

// few answers peers of few names and identifiers, round the node 100.
func few() []api.Peer {
	return []api.Peer{
		at("a", 110), taken(at("a", 110)), renewed(at("a", 110)), at("a", 99), at("b", 110), at("b", 101), at("c", 100), at("", 90), at("me", 120),
	}
}

// lists answers all lists of at most so many of these.
func lists(of []api.Peer, most int) [][]api.Peer {
	all := [][]api.Peer{nil}
	for done := 0; most > 0; most-- {
		for _, l := range all[done:len(all):len(all)] {
			done++
			for _, p := range of {
				all = append(all, append(slices.Clone(l), p))
			}
		}
	}
	return all
}

// nothings answers the ways in which no peer may come in.
func nothings() [][]api.Peer {
	return [][]api.Peer{nil, {}, make([]api.Peer, 0, 9), many(5)[:0], many(5)[3:3]}
}

// counts answers numbers that First may be handed of a list of that length.
func counts(length int) []int {
	return []int{least, least + 1, -1 << 32, 1 - 1<<32, -length - 1, -length, -2, -1, 0, 1, 2, length - 1, length, length + 1, length + 2, 7, 8, 1 << 31, 1 << 32, 1<<32 + 1, greatest - 1, greatest}
}

// rows answers numbers without a plain order, the same ones for the same seed.
func rows(seed uint64) func(below int) int {
	state := seed*2862933555777941757 + 3037000493
	return func(below int) int {
		state = state*6364136223846793005 + 1442695040888963407
		return int(state >> 33 % uint64(below))
	}
}

// drawn answers a peer by numbers that are drawn: of few names, certificates and times, and of places round a node.
func drawn(draw func(below int) int, me uint64) api.Peer {
	names := []string{"a", "b", "c", "d", "e", "f", "g", "h", "i", "j", "ab", "", "\xff", "me"}
	round := places(me)
	p := at(names[draw(len(names))], round[draw(len(round))])
	if draw(2) == 0 {
		p.Entry.Id = me + uint64(draw(9))<<(8*draw(8))
	}
	p.Entry.Index, p.Since = draw(2), draw(3)
	return p
}

// drawnList answers a list of so many.
func drawnList(draw func(below int) int, me uint64, length int) []api.Peer {
	var list []api.Peer
	for range length {
		list = append(list, drawn(draw, me))
	}
	return list
}

// drawnRight answers a list that is Right, of at most so many.
func drawnRight(draw func(below int) int, me api.Entry, most int) []api.Peer {
	var list []api.Peer
	for range most {
		p := drawn(draw, me.Id)
		place := 0
		for place < len(list) && wantAhead(me.Id, list[place], p) {
			place++
		}
		if longer := slices.Insert(slices.Clone(list), place, p); wantRight(me, longer) {
			list = longer
		}
	}
	return list
}

// What the chapter's words ask for

// far is chapter 9's Dist: how far b lies ahead of a, on a circle of 2^64 places.
func far(a, b uint64) *big.Int {
	x := new(big.Int).SetUint64(b)
	x.Sub(x, new(big.Int).SetUint64(a))
	return x.Mod(x, new(big.Int).Lsh(big.NewInt(1), 64))
}

// comesFirst asks byte by byte whether a name comes first.
func comesFirst(a, b string) bool {
	for i := 0; i < len(b); i++ {
		if i == len(a) {
			return true
		}
		if int(a[i]) != int(b[i]) {
			return int(a[i]) < int(b[i])
		}
	}
	return false
}

// wantAhead asks whether x is ahead of y.
func wantAhead(from uint64, x, y api.Peer) bool {
	switch far(from, x.Entry.Id).Cmp(far(from, y.Entry.Id)) {
	case -1:
		return true
	case 0:
		return comesFirst(x.Entry.Name, y.Entry.Name)
	}
	return false
}

func wantPlace(l []api.Peer, name string) int {
	for i := range l {
		if l[i].Entry.Name == name {
			return i
		}
	}
	return -1
}

func wantRight(me api.Entry, l []api.Peer) bool {
	right := len(l) <= 7
	for i := range l {
		if l[i].Entry.Name == me.Name {
			right = false
		}
		for j := range i {
			if l[i].Entry.Name == l[j].Entry.Name {
				right = false
			}
		}
		if i+1 < len(l) && !wantAhead(me.Id, l[i], l[i+1]) {
			right = false
		}
	}
	return right
}

func wantDrop(l []api.Peer, name string) []api.Peer {
	list := []api.Peer{}
	for _, p := range l {
		if p.Entry.Name != name {
			list = append(list, p)
		}
	}
	return list
}

func wantAdd(me api.Entry, l []api.Peer, p api.Peer) []api.Peer {
	same := p.Entry.Name == me.Name
	for _, x := range l {
		same = same || x.Entry.Name == p.Entry.Name && x.Entry == p.Entry
	}
	if same {
		return l
	}
	list := wantDrop(l, p.Entry.Name)
	place := 0
	for place < len(list) && wantAhead(me.Id, list[place], p) {
		place++
	}
	list = slices.Insert(list, place, p)
	if len(list) > 7 {
		list = list[:7]
	}
	return list
}

func wantEntries(l []api.Peer) []api.Entry {
	list := []api.Entry{}
	for _, p := range l {
		list = append(list, p.Entry)
	}
	return list
}

func wantFirst(l []api.Peer, n int) []api.Entry {
	list := []api.Entry{}
	for i, e := range wantEntries(l) {
		if i < n {
			list = append(list, e)
		}
	}
	return list
}

func wantOwner(me api.Entry, l []api.Peer, key uint64) api.Entry {
	owner := me
	for _, e := range wantEntries(l) {
		if far(key, e.Id).Cmp(far(key, owner.Id)) < 0 {
			owner = e
		}
	}
	return owner
}

func wantBefore(me api.Entry, l []api.Peer) uint64 {
	last := me.Id
	for _, p := range l {
		last = p.Entry.Id
	}
	return last
}
