package rekey

import (
	"math"
	"math/big"

	"carcanet/api"
)

const (
	least    = math.MinInt
	greatest = math.MaxInt
)

// filled answers a session each of whose fields has a value of its own.
func filled() api.Session {
	return api.Session{
		Id: 101, Nonce: 102,
		Peer: api.Entry{Name: "peer", Id: 103, From: 104, Until: 105, Index: 6, Tag: "tag"},
		Role: api.RoleFirst, State: api.Open, Send: "send", Hear: "hear",
		Epoch: 7, Count: 8, Since: 109, Seq: 110,
		Seen: api.Window{Top: 111, Low: 112, High: 113}, Used: 114,
	}
}

// others answers sessions that have all that calls ask for, Epoch, Count, Since and Seq, from s, and unlike things beside it.
func others(s api.Session) []api.Session {
	bare := api.Session{Epoch: s.Epoch, Count: s.Count, Since: s.Since, Seq: s.Seq}
	odd := bare
	odd.Id, odd.Nonce, odd.Used = math.MaxUint64, math.MaxUint64, least
	odd.Role, odd.State = least, greatest
	odd.Peer = api.Entry{Name: "No name", Id: math.MaxUint64, From: greatest, Until: least, Index: -1, Tag: "\x00"}
	odd.Send, odd.Hear = "\xff\x00", string(make([]byte, 1000))
	odd.Seen = api.Window{Top: greatest, Low: math.MaxUint64, High: math.MaxUint64}
	rich := filled()
	rich.Epoch, rich.Count, rich.Since, rich.Seq = s.Epoch, s.Count, s.Since, s.Seq
	list := []api.Session{bare, odd, rich}
	for _, role := range []int{api.RoleFirst, api.RoleSecond} {
		for _, state := range []int{0, api.Waiting, api.Half, api.Open} {
			rich.Role, rich.State = role, state
			list = append(list, rich)
		}
	}
	return list
}

// counts answers those at the edges of a key's records, at the ends of an int, and such as come to the edges if they lose their highest bits, or their sign.
func counts() []int {
	return []int{0, 1, 2, 30, 31, 32, 33, 34, 63, 64, 65, 4096, -1, -2, -31, -32, -33, -64, 1 << 32, 1<<32 + 31, -1 << 32, 32 - 1<<32, least, least + 1, least + 32, greatest - 1, greatest}
}

// sinces answers those at the edges of what plays a part, and of what has 64 ticks above it.
func sinces() []int {
	return []int{0, 1, 10, 63, 64, 1000, 1 << 30, 1 << 40, -1, -2, -63, -64, -65, -100, least, least + 1, least + 63, least + 64, greatest - 65, greatest - 64, greatest - 63, greatest - 1, greatest}
}

// nows answers times around a Since, and at the edges that differences wrap at.
func nows(since int) []int {
	list := []int{0, 1, 10, 63, 64, 65, 74, 1000, 1 << 30, 1 << 40, -1, -2, -64, -65, -1000, least, least + 1, least + 62, least + 63, least + 64, least + 100, greatest - 64, greatest - 1, greatest}
	for _, up := range []int{-1 << 32, -100, -65, -64, -63, -1, 0, 1, 2, 62, 63, 64, 65, 66, 127, 128, 1 << 32, 1<<32 + 63, 1<<32 + 64} {
		if at := new(big.Int).Add(whole(since), whole(up)); at.IsInt64() {
			list = append(list, int(at.Int64()))
		}
	}
	return list
}

// seqs answers those at the edges of what is not Spent, and at the ends of an int.
func seqs() []int {
	return []int{0, 1, 2, 31, 32, 33, 127, 2048, 4094, 4095, 4096, 4097, 8192, 65535, 1 << 30, 1 << 32, 1<<32 + 1, -1, -4095, -4096, -4097, 4096 - 1<<32, least, least + 1, least + 4096, greatest - 1, greatest}
}

// epochs answers those at the edges of what is not Spent, and at the ends of an int.
func epochs() []int {
	return []int{0, 1, 2, 31, 32, 127, 128, 4095, 4096, 4097, 32767, 32768, 65533, 65534, 65535, 65536, 65537, 131071, 1 << 30, 1 << 32, 1<<32 + 1, -1, -65535, -65536, 65535 - 1<<32, least, least + 1, least + 65535, greatest - 1, greatest}
}

// whole answers a number that no sum leaves the range of.
func whole(n int) *big.Int { return big.NewInt(int64(n)) }

// above tells whether n lies so many above m, or more, as whole numbers.
func above(n, m, many int) bool {
	return new(big.Int).Sub(whole(n), whole(m)).Cmp(whole(many)) >= 0
}

// wantDue answers Due by the chapter's words.
func wantDue(s api.Session, now int) bool {
	played := above(s.Since, 0, 0) && above(now, s.Since, 0)
	return above(s.Count, 0, 32) || played && above(now, s.Since, 64)
}

// wantSpent answers Spent by the chapter's words.
func wantSpent(s api.Session) bool { return above(s.Seq, 0, 4096) || above(s.Epoch, 0, 65535) }

// wantNext answers Next by the chapter's words.
func wantNext(s api.Session, now int) (api.Session, api.Errno) {
	switch {
	case wantSpent(s):
		return api.Session{}, api.ErrSpent
	case wantDue(s, now):
		return behind(s, s.Seq+1, s.Epoch+1, 1, now, now), api.OK
	}
	return behind(s, s.Seq+1, s.Epoch, s.Count+1, s.Since, now), api.OK
}

// behind answers the session with these five fields, and nothing else of it changed.
func behind(s api.Session, seq, epoch, count, since, used int) api.Session {
	return api.Session{
		Id: s.Id, Nonce: s.Nonce, Peer: s.Peer, Role: s.Role, State: s.State, Send: s.Send, Hear: s.Hear, Seen: s.Seen,
		Seq: seq, Epoch: epoch, Count: count, Since: since, Used: used,
	}
}
