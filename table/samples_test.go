package table

import (
	"cmp"
	"math"
	"slices"

	"carcanet/api"
)

const (
	least    = math.MinInt
	greatest = math.MaxInt
)

// edges answers numbers at the ends of an int, and such as come to others if they lose their highest bits or their sign.
func edges() []int {
	return []int{least, least + 1, -1 << 32, 1 - 1<<32, -1 << 31, -2, -1, 0, 1, 2, 1<<31 - 1, 1 << 31, 1 << 32, 1<<32 + 1, greatest - 1, greatest}
}

// states answers all that a State may be handed, and such as come to one of the three if they lose their highest bits or their sign.
func states() []int {
	return []int{0, 1, 2, 3, 4, 5, 7, -1, -2, -3, 255, 257, 258, 259, 1<<32 + 1, 1<<32 + 2, 1<<32 + 3, least, least + 1, least + 2, least + 3, greatest}
}

// ids answers identifiers and nonces at the edges of their range, and such as come to 5 if they lose their highest bits.
func ids() []uint64 {
	return []uint64{0, 1, 4, 5, 6, 1 << 32, 1<<32 + 5, 1 << 63, 1<<63 + 5, math.MaxUint64 - 1, math.MaxUint64}
}

// Peers

func a() api.Entry {
	return api.Entry{Name: "a", Id: 1, From: 2, Until: 300, Index: 4, Tag: "the first tag"}
}

// renewed answers another certificate of that node.
func renewed(e api.Entry) api.Entry {
	return api.Entry{Name: e.Name, Id: e.Id, From: e.From + 7, Until: e.Until + 8, Index: e.Index + 9, Tag: "another tag"}
}

// moved answers that entry with another identifier.
func moved(e api.Entry) api.Entry {
	e.Id ^= 1 << 32
	return e
}

// named answers that entry with another name.
func named(e api.Entry, name string) api.Entry {
	e.Name = name
	return e
}

// others answers entries that are not of a's node.
func others() []api.Entry {
	list := []api.Entry{{}, moved(a()), {Name: "a"}, {Name: "a", Id: 2}, {Name: "a", Id: 1 << 63}, {Id: 1}}
	for _, name := range []string{"", "b", "A", "aa", "a\x00", "\x00a", " a", "ab"} {
		list = append(list, named(a(), name))
	}
	return list
}

// Sessions

// filled answers a session each of whose fields has a value of its own.
func filled() api.Session {
	return api.Session{
		Id: 101, Nonce: 102,
		Peer: api.Entry{Name: "peer", Id: 103, From: 104, Until: 105, Index: 6, Tag: "tag"},
		Role: 1, State: 3, Send: "send", Hear: "hear",
		Epoch: 7, Count: 8, Since: 109, Seq: 110,
		Seen: api.Window{Top: 111, Low: 113, High: 115}, Used: 116,
	}
}

// with answers that session, changed.
func with(s api.Session, change func(s *api.Session)) api.Session {
	change(&s)
	return s
}

// at answers a's session of this State, Id and Nonce.
func at(state int, id, nonce uint64) api.Session {
	return with(filled(), func(s *api.Session) { s.State, s.Id, s.Nonce, s.Peer = state, id, nonce, a() })
}

// of answers that session with another peer.
func of(peer api.Entry, s api.Session) api.Session {
	s.Peer = peer
	return s
}

// as answers that session in another role.
func as(role int, s api.Session) api.Session {
	s.Role = role
	return s
}

// used answers that session, used at another time.
func used(now int, s api.Session) api.Session {
	s.Used = now
	return s
}

// various answers that session, and such as differ from it in what no place in a table hangs on: the keys, what was seen, and what tells of a key's age.
func various(s api.Session) []api.Session {
	return []api.Session{
		s,
		with(s, func(s *api.Session) { s.Send, s.Hear = "", "" }),
		with(s, func(s *api.Session) { s.Send, s.Hear = s.Hear, s.Send }),
		with(s, func(s *api.Session) { s.Count, s.Since = 32, 0 }),
		with(s, func(s *api.Session) { s.Count, s.Since = greatest, least }),
		with(s, func(s *api.Session) { s.Seen = api.Window{} }),
		with(s, func(s *api.Session) { s.Seen = api.Window{Top: greatest, Low: math.MaxUint64, High: math.MaxUint64} }),
		with(s, func(s *api.Session) { s.Used = least }),
		with(s, func(s *api.Session) { s.Used = greatest }),
		with(s, func(s *api.Session) { s.Peer = renewed(s.Peer) }),
	}
}

// some answers sessions of few ids, nonces and peers, in all that a place may hang on.
func some() []api.Session {
	var list []api.Session
	for _, state := range []int{0, 1, 2, 3} {
		for _, id := range []uint64{0, 5} {
			for _, nonce := range []uint64{0, 5} {
				for _, peer := range []api.Entry{a(), moved(a())} {
					for _, role := range []int{1, 2} {
						list = append(list, as(role, of(peer, at(state, id, nonce))))
					}
				}
			}
		}
	}
	return append(list, with(at(3, 5, 0), func(s *api.Session) { s.Seq = 4096 }), with(at(3, 6, 5), func(s *api.Session) { s.Epoch = 65535 }))
}

// few answers some of them, with which longer lists are made.
func few() []api.Session {
	return []api.Session{
		at(1, 5, 5), at(1, 0, 0), of(moved(a()), at(1, 6, 5)), as(2, at(1, 6, 6)),
		at(2, 5, 6), as(2, at(2, 6, 5)), as(2, of(moved(a()), at(2, 0, 5))),
		at(3, 5, 5), at(3, 0, 0), as(2, at(3, 6, 5)), of(moved(a()), at(3, 5, 6)), with(at(3, 6, 6), func(s *api.Session) { s.Seq = 4096 }),
		at(0, 5, 5), as(2, at(4, 6, 0)), {},
	}
}

// lists answers all lists of at most so many of these.
func lists(of []api.Session, most int) [][]api.Session {
	all := [][]api.Session{nil}
	for done := 0; most > 0; most-- {
		for _, l := range all[done:len(all):len(all)] {
			done++
			for _, s := range of {
				all = append(all, append(slices.Clone(l), s))
			}
		}
	}
	return all
}

// opens answers a list of so many open sessions, with the Ids and nonces 1, 2, 3 and so on, all of which were used at one time.
func opens(many int) []api.Session {
	var list []api.Session
	for i := range many {
		list = append(list, used(50, of(named(a(), "n"), at(3, uint64(i+1), uint64(i+1)))))
	}
	return list
}

// waiting answers a list of so many that wait, with the Ids and nonces 1, 2, 3 and so on.
func waiting(many int) []api.Session {
	return changed(opens(many), func(s *api.Session) { s.State = 1 })
}

// changed answers the list, each of its sessions changed.
func changed(l []api.Session, change func(s *api.Session)) []api.Session {
	list := slices.Clone(l)
	for i := range list {
		change(&list[i])
	}
	return list
}

// but answers the list with these in their places, from the one at on.
func but(l []api.Session, at int, these ...api.Session) []api.Session {
	list := slices.Clone(l)
	copy(list[at:], these)
	return list
}

// upTo answers the Ids from 1 to last.
func upTo(last int) []uint64 {
	var list []uint64
	for i := range last {
		list = append(list, uint64(i+1))
	}
	return list
}

// stranger answers one that is no session of the lists that opens and waiting answer.
func stranger() api.Session { return of(named(a(), "new"), at(3, 1000, 1000)) }

// rows answers numbers without a plain order, the same ones for the same seed.
func rows(seed uint64) func(below int) int {
	state := seed*2862933555777941757 + 3037000493
	return func(below int) int {
		state = state*6364136223846793005 + 1442695040888963407
		return int(state >> 33 % uint64(below))
	}
}

// drawn answers a list of so many sessions, by numbers that are drawn: of few Ids, nonces, peers and times.
func drawn(draw func(below int) int, many int) []api.Session {
	var list []api.Session
	for range many {
		list = append(list, drawnOne(draw))
	}
	return list
}

func drawnOne(draw func(below int) int) api.Session {
	peers := []api.Entry{a(), a(), renewed(a()), moved(a()), named(a(), "b"), {}}
	times := []int{0, 1, 2, 3, 50, -1, -2, least, greatest}
	s := filled()
	s.Id, s.Nonce = uint64(draw(40)), uint64(draw(40))
	s.Peer = peers[draw(len(peers))]
	s.Role, s.State = 1+draw(2), []int{0, 1, 1, 2, 2, 3, 3, 3}[draw(8)]
	s.Seq, s.Epoch = []int{1, 2, 4095, 4096}[draw(4)], []int{0, 1, 65534, 65535}[draw(4)]
	s.Used, s.Count = times[draw(len(times))], draw(1000)
	return s
}

// What the chapter's words ask for

// places answers the places of those that are such.
func places(l []api.Session, such func(s api.Session) bool) []int {
	list := []int{}
	for i := range l {
		if such(l[i]) {
			list = append(list, i)
		}
	}
	return list
}

// first answers the first of the places; -1, if there is none.
func first(places []int) int { return append(places, -1)[0] }

// last answers the last of the places; -1, if there is none.
func last(places []int) int { return append([]int{-1}, places...)[len(places)] }

// sameNode is chapter 11's Who.
func sameNode(x, y api.Entry) bool { return x.Name == y.Name && x.Id == y.Id }

func wantById(l []api.Session, id uint64) int {
	return first(places(l, func(s api.Session) bool { return s.State != 1 && s.Id == id && id != 0 }))
}

func wantWaits(l []api.Session, nonce uint64) int {
	return first(places(l, func(s api.Session) bool { return s.State == 1 && s.Nonce == nonce }))
}

func wantAsks(l []api.Session, peer api.Entry) int {
	return first(places(l, func(s api.Session) bool { return s.State == 1 && sameNode(s.Peer, peer) }))
}

func wantFor(l []api.Session, peer api.Entry) int {
	return last(places(l, func(s api.Session) bool {
		spent := s.Seq >= 4096 || s.Epoch >= 65535
		return s.State == 3 && sameNode(s.Peer, peer) && !spent
	}))
}

func wantAdd(l []api.Session, busy []uint64, s api.Session) ([]api.Session, api.Errno) {
	second := places(l, func(x api.Session) bool {
		return x.Role == 2 && x.Nonce == s.Nonce && sameNode(x.Peer, s.Peer)
	})
	switch {
	case s.State == 1 && wantWaits(l, s.Nonce) >= 0,
		s.State != 1 && wantById(l, s.Id) >= 0,
		s.State == 2 && len(second) > 0:
		return l, 26
	}
	if len(l) < 24 {
		return append(slices.Clone(l), s), 0
	}
	may := places(l, func(x api.Session) bool { return x.State != 1 && !slices.Contains(busy, x.Id) })
	slices.SortStableFunc(may, func(i, j int) int { return cmp.Compare(l[i].Used, l[j].Used) })
	if len(may) == 0 {
		return l, 27
	}
	return append(wantDrop(l, may[0]), s), 0
}

func wantPut(l []api.Session, i int, s api.Session) []api.Session {
	list := []api.Session{}
	for at, x := range l {
		if at == i {
			x = s
		}
		list = append(list, x)
	}
	return list
}

func wantDrop(l []api.Session, i int) []api.Session {
	list := []api.Session{}
	for at, x := range l {
		if at != i {
			list = append(list, x)
		}
	}
	return list
}

func wantClose(l []api.Session, name string) []api.Session {
	list := []api.Session{}
	for _, x := range l {
		if x.Peer.Name != name {
			list = append(list, x)
		}
	}
	return list
}
