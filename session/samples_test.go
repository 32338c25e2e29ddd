package session

import (
	"crypto/hmac"
	"crypto/sha256"
	"encoding/binary"
	"encoding/hex"
	"math"
	"slices"
	"strings"
	"testing"

	"carcanet/api"
	"carcanet/hello"
	"carcanet/record"
	"carcanet/rekey"
	"carcanet/window"
)

const (
	least    = math.MinInt
	greatest = math.MaxInt
)

// made answers a text of so many bytes without a plain order, the same ones for the same seed.
func made(length int, seed byte) string {
	b := make([]byte, length)
	state := uint32(seed)*2654435761 + 1
	for i := range b {
		state = state*1664525 + 1013904223
		b[i] = byte(state>>24) ^ seed
	}
	return string(b)
}

// turned answers the text with another byte at this place.
func turned(s string, at int) string { return s[:at] + string([]byte{s[at] ^ 1}) + s[at+1:] }

// unhex answers the text that hex digits are.
func unhex(t testing.TB, digits string) string {
	t.Helper()
	b, err := hex.DecodeString(digits)
	if err != nil {
		t.Fatal(err)
	}
	return string(b)
}

// nothings answers the ways in which no bytes may come in.
func nothings() [][]byte {
	return [][]byte{nil, {}, make([]byte, 0, 100), []byte("\x03\x03\x03")[:0]}
}

// nows answers times: ordinary ones, and those at the ends of an int.
func nows() []int { return []int{0, 1, 63, 64, 1 << 30, 1 << 40, -1, -64, least, greatest} }

// numbers answers nonces and identifiers at the edges of their range, and in between.
func numbers() []uint64 {
	return []uint64{0, 1, 2, 255, 256, 258, 1<<32 - 1, 1 << 32, 1<<63 - 1, 1 << 63, 0x0102030405060708, math.MaxUint64 - 1, math.MaxUint64}
}

// states answers all that a State may be handed, and such as come to one of the three if they lose their highest bits or their sign.
func states() []int {
	return []int{0, 1, 2, 3, 4, 5, 7, -1, -2, -3, 255, 257, 258, 259, 1<<32 + 1, 1<<32 + 2, 1<<32 + 3, least, least + 1, least + 2, least + 3, greatest}
}

// Entries

// plainEntry answers an entry that may be.
func plainEntry() api.Entry {
	return api.Entry{Name: "node-1", Id: 0x0102030405060708, From: 5, Until: 1000, Index: 3, Tag: strings.Repeat("x", 32)}
}

// otherEntry answers another entry that may be.
func otherEntry() api.Entry {
	return api.Entry{Name: "b", Id: 2, Until: 9, Tag: strings.Repeat("y", 32)}
}

// longEntry answers the entry of the greatest numbers and the longest texts that may be.
func longEntry() api.Entry {
	return api.Entry{Name: "abcdefghijklmnop", Id: math.MaxUint64, From: 1 << 30, Until: 1 << 30, Index: 64, Tag: strings.Repeat("\xff", 32)}
}

// leastEntry answers the entry of zeros that may be.
func leastEntry() api.Entry { return api.Entry{Name: "a", Tag: strings.Repeat("\x00", 32)} }

// wrongEntry answers an entry of which nothing may be.
func wrongEntry() api.Entry {
	return api.Entry{Name: "No name!", Id: 1 << 63, From: -1, Until: -2, Index: -3, Tag: "t"}
}

func entries() []api.Entry {
	return []api.Entry{plainEntry(), otherEntry(), longEntry(), leastEntry(), wrongEntry(), {}}
}

// but answers that entry, changed.
func but(e api.Entry, change func(e *api.Entry)) api.Entry {
	change(&e)
	return e
}

// others answers entries of other nodes than that one: of another name, of the same name with another identifier, and of both.
func others(e api.Entry) []api.Entry {
	return []api.Entry{
		but(e, func(e *api.Entry) { e.Name += "x" }),
		but(e, func(e *api.Entry) { e.Name = "x" + e.Name }),
		but(e, func(e *api.Entry) { e.Name = "other" }),
		but(e, func(e *api.Entry) { e.Name += "\x00" }),
		but(e, func(e *api.Entry) { e.Id++ }),
		but(e, func(e *api.Entry) { e.Id ^= 1 << 32 }),
		but(e, func(e *api.Entry) { e.Id ^= 1 << 63 }),
		but(e, func(e *api.Entry) { e.Name, e.Id = "other", ^e.Id }),
	}
}

// renewed answers other certificates of that node.
func renewed(e api.Entry) []api.Entry {
	return unlike(e, []api.Entry{
		but(e, func(e *api.Entry) { e.From++ }),
		but(e, func(e *api.Entry) { e.Until++ }),
		but(e, func(e *api.Entry) { e.Index++ }),
		but(e, func(e *api.Entry) { e.Tag += "t" }),
		but(e, func(e *api.Entry) { e.Tag = "" }),
		but(e, func(e *api.Entry) { e.From, e.Until, e.Index, e.Tag = 7, 8, 9, made(32, 7) }),
	})
}

// unlike answers those that are not that one, each of them once.
func unlike[T comparable](one T, list []T) []T {
	rest := []T{}
	for _, x := range list {
		if x != one && !slices.Contains(rest, x) {
			rest = append(rest, x)
		}
	}
	return rest
}

// Meetings

// A meeting is all that two nodes begin a session with.
type meeting struct {
	psk             string
	nonce, second   uint64
	asker, answerer api.Entry
}

// greeting answers the hello of it.
func (m meeting) greeting() hello.Hello {
	return hello.Greet(m.psk, m.answerer.Name, m.nonce, m.asker)
}

// welcome answers what the hello is answered by.
func (m meeting) welcome() hello.Welcome {
	return hello.Answer(m.psk, m.greeting(), m.second, m.answerer)
}

// waiting answers the asker's session ahead of the welcome.
func (m meeting) waiting(now int) api.Session { return wantAsk(m.answerer, m.nonce, now) }

// plain answers an ordinary one. What it comes to was made by another program, too.
func plain() meeting { return meeting{"psk", 258, 259, plainEntry(), otherEntry()} }

// great answers one of the greatest numbers, likewise.
func great() meeting { return meeting{"", math.MaxUint64, math.MaxUint64, longEntry(), leastEntry()} }

// meetings answers those that can be finished.
func meetings() []meeting {
	return []meeting{
		plain(),
		great(),
		{"psk", 259, 258, plainEntry(), otherEntry()},
		{"psk", 258, 259, otherEntry(), plainEntry()},
		{"psl", 258, 259, plainEntry(), otherEntry()},
		{made(64, 1), 7, 7, leastEntry(), longEntry()},
		{made(65, 2), 1, 1 << 63, plainEntry(), plainEntry()},
		{"\x00", 0, 1, wrongEntry(), api.Entry{}},
		{"psk", 1 << 63, 1, api.Entry{}, wrongEntry()},
	}
}

// nearMeetings answers meetings that differ from that one in one thing each, or in two that are exchanged.
func nearMeetings(m meeting) []meeting {
	list := []meeting{
		{m.psk + "x", m.nonce, m.second, m.asker, m.answerer},
		{"x" + m.psk, m.nonce, m.second, m.asker, m.answerer},
		{m.psk, m.nonce ^ 1, m.second, m.asker, m.answerer},
		{m.psk, m.nonce ^ 1<<63, m.second, m.asker, m.answerer},
		{m.psk, m.nonce, m.second ^ 1<<32, m.asker, m.answerer},
		{m.psk, m.nonce, m.second ^ 1<<62, m.asker, m.answerer},
		{m.psk, m.second, m.nonce, m.asker, m.answerer},
		{m.psk, m.nonce, m.second, m.answerer, m.asker},
	}
	for _, e := range append(others(m.asker), renewed(m.asker)...) {
		list = append(list, meeting{m.psk, m.nonce, m.second, e, m.answerer})
	}
	for _, e := range append(others(m.answerer), renewed(m.answerer)...) {
		list = append(list, meeting{m.psk, m.nonce, m.second, m.asker, e})
	}
	return unlike(m, list)
}

// Sessions

// filled answers a session each of whose fields has a value of its own, which is Open, and seals and opens.
func filled() api.Session {
	return api.Session{
		Id: 101, Nonce: 102,
		Peer: api.Entry{Name: "peer", Id: 103, From: 104, Until: 105, Index: 6, Tag: "tag"},
		Role: 1, State: 3, Send: "send", Hear: "hear",
		Epoch: 7, Count: 8, Since: 109, Seq: 110,
		Seen: api.Window{Top: 111, Low: 113, High: 115}, Used: 116,
	}
}

// with answers that session, changed.
func with(s api.Session, change func(s *api.Session)) api.Session {
	change(&s)
	return s
}

// changes answers changes of a session's fields, each of one field alone.
func changes() []func(s *api.Session) {
	return []func(s *api.Session){
		func(s *api.Session) { s.Id = 5 },
		func(s *api.Session) { s.Id = math.MaxUint64 },
		func(s *api.Session) { s.Nonce = 5 },
		func(s *api.Session) { s.Nonce = math.MaxUint64 },
		func(s *api.Session) { s.Peer = otherEntry() },
		func(s *api.Session) { s.Peer = api.Entry{} },
		func(s *api.Session) { s.Role = 2 },
		func(s *api.Session) { s.Role = least },
		func(s *api.Session) { s.State = 2 },
		func(s *api.Session) { s.Send = "other" },
		func(s *api.Session) { s.Send = "" },
		func(s *api.Session) { s.Hear = "other" },
		func(s *api.Session) { s.Hear = "" },
		func(s *api.Session) { s.Epoch = 65534 },
		func(s *api.Session) { s.Count = 31 },
		func(s *api.Session) { s.Count = greatest },
		func(s *api.Session) { s.Since = 0 },
		func(s *api.Session) { s.Since = least },
		func(s *api.Session) { s.Seq = 4095 },
		func(s *api.Session) { s.Seen = api.Window{} },
		func(s *api.Session) { s.Seen = api.Window{Top: 200, Low: math.MaxUint64 - 6, High: math.MaxUint64} },
		func(s *api.Session) { s.Used = 0 },
		func(s *api.Session) { s.Used = greatest },
	}
}

// variants answers the filled session, and those that differ from it in one field.
func variants() []api.Session {
	list := []api.Session{filled()}
	for _, change := range changes() {
		list = append(list, with(filled(), change))
	}
	return list
}

// hears answers a session that opens what that one seals: its Id, the other role, and its Send to Hear by. Nothing else of it is alike.
func hears(s api.Session) api.Session {
	return api.Session{
		Id: s.Id, Nonce: s.Nonce + 5, Peer: longEntry(), Role: 3 - s.Role, State: 3, Send: "answers", Hear: s.Send,
		Epoch: 17, Count: 18, Since: 19, Seq: 20, Used: 21,
	}
}

// sizes answers lengths of texts that may be, at the edges of what may be, of padding and of blocks.
func sizes() []int { return []int{0, 1, 2, 15, 16, 17, 63, 64, 65, 1000, 2015, 2016} }

// What the chapter's words ask for

// wantAsk answers Ask by the chapter's words.
func wantAsk(peer api.Entry, nonce uint64, now int) api.Session {
	return api.Session{Nonce: nonce, Peer: peer, Role: 1, State: 1, Since: now, Used: now}
}

// wantAccept answers what becomes of an answerer's session.
func wantAccept(m meeting, now int) api.Session {
	there, back := wantRoots(m)
	return api.Session{Id: m.second, Nonce: m.nonce, Peer: m.asker, Role: 2, State: 2, Send: back, Hear: there, Since: now, Used: now}
}

// wantFinish answers what becomes of an asker's session, if it is not refused.
func wantFinish(m meeting, now int) api.Session {
	there, back := wantRoots(m)
	return api.Session{Id: m.second, Nonce: m.nonce, Peer: m.answerer, Role: 1, State: 3, Send: there, Hear: back, Since: now, Used: now}
}

// tag answers the library's tag of the parts, one behind the other.
func tag(key string, parts ...string) string {
	sum := hmac.New(sha256.New, []byte(key))
	for _, part := range parts {
		sum.Write([]byte(part))
	}
	return string(sum.Sum(nil))
}

func eight(n uint64) string { return string(binary.BigEndian.AppendUint64(nil, n)) }

func four(n int) string { return string(binary.BigEndian.AppendUint32(nil, uint32(n))) }

func two(n int) string { return string(binary.BigEndian.AppendUint16(nil, uint16(n))) }

// counted answers a text of fewer than 65536 bytes with its length ahead.
func counted(s string) string { return two(len(s)) + s }

// written answers an entry's text.
func written(e api.Entry) string {
	return counted(counted(e.Name) + eight(e.Id) + four(e.From) + four(e.Until) + two(e.Index) + e.Tag)
}

// wantRoots answers the roots of a meeting, by the library's tags.
func wantRoots(m meeting) (there, back string) {
	extracted := tag(eight(m.nonce)+eight(m.second), m.psk)
	info := "carcanet session" + written(m.asker) + written(m.answerer)
	there = tag(extracted, info, "\x01")
	return there, tag(extracted, there, info, "\x02")
}

// wantTag answers the tag of a meeting's welcome.
func wantTag(m meeting) string {
	return tag(m.psk, "carcanet welcome", eight(m.nonce), eight(m.second), written(m.asker), written(m.answerer))
}

// wantRefusal answers by which error Finish refuses.
func wantRefusal(psk string, s api.Session, own api.Entry, w hello.Welcome) api.Errno {
	right := wantTag(meeting{psk, w.First, w.Second, own, w.Entry})
	for _, x := range []struct {
		wrong bool
		e     api.Errno
	}{
		{s.State != 1, 25},
		{s.Nonce != w.First, 25},
		{s.Peer.Name != w.Entry.Name || s.Peer.Id != w.Entry.Id, 30},
		{w.Second == 0, 11},
		{w.Tag != right, 20},
	} {
		if x.wrong {
			return x.e
		}
	}
	return api.OK
}

// wantSeal answers Seal by the chapter's words. What layers 19 and 21 answer is asked of their own tests.
func wantSeal(s api.Session, now int, text string) (api.Session, string, api.Errno) {
	if s.State != 3 {
		return api.Session{}, "", 25
	}
	next, e := rekey.Next(s, now)
	if e != api.OK {
		return api.Session{}, "", e
	}
	b, e := record.Seal(s.Send, record.Head{Id: s.Id, Role: s.Role, Epoch: next.Epoch, Seq: next.Seq}, []byte(text))
	if e != api.OK {
		return api.Session{}, "", e
	}
	return next, string(b), api.OK
}

// wantOpen answers Open by the chapter's words. What layers 19 and 20 answer is asked of their own tests.
func wantOpen(s api.Session, now int, b string) (api.Session, string, api.Errno) {
	if s.State != 2 && s.State != 3 {
		return api.Session{}, "", 25
	}
	h, e := record.Take([]byte(b))
	if e != api.OK {
		return api.Session{}, "", e
	}
	if h.Id != s.Id || h.Role == s.Role {
		return api.Session{}, "", 25
	}
	if e := window.Fresh(s.Seen, h.Seq); e != api.OK {
		return api.Session{}, "", e
	}
	_, text, e := record.Open(s.Hear, []byte(b))
	if e != api.OK {
		return api.Session{}, "", e
	}
	return opened(s, now, window.Mark(s.Seen, h.Seq)), string(text), api.OK
}

// opened answers what becomes of a session that has opened a record.
func opened(s api.Session, now int, seen api.Window) api.Session {
	return api.Session{
		Id: s.Id, Nonce: s.Nonce, Peer: s.Peer, Role: s.Role, State: 3, Send: s.Send, Hear: s.Hear,
		Epoch: s.Epoch, Count: s.Count, Since: s.Since, Seq: s.Seq, Seen: seen, Used: now,
	}
}

// sealedAs answers the record of this head under that root, which layer 19 seals.
func sealedAs(t testing.TB, root string, id uint64, role, epoch, seq int, text string) string {
	t.Helper()
	b, e := record.Seal(root, record.Head{Id: id, Role: role, Epoch: epoch, Seq: seq}, []byte(text))
	if e != api.OK {
		t.Fatalf("the test is at odds with itself: %d", e)
	}
	return string(b)
}

// headOf answers sixteen bytes of a head, whether it may be or not.
func headOf(id uint64, role, epoch, seq int) string {
	return "\x03" + eight(id) + string([]byte{byte(role)}) + two(epoch) + four(seq)
}
