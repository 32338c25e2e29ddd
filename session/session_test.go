package session

import (
	"bytes"
	"fmt"
	"math"
	"slices"
	"strings"
	"testing"

	"carcanet/api"
	"carcanet/hello"
)

// ask asks that Ask answers this.
func ask(t *testing.T, peer api.Entry, nonce uint64, now int, want api.Session) {
	t.Helper()
	if got := Ask(peer, nonce, now); got != want {
		t.Fatalf("Ask of %#v, %d, now %d: %#v, wanted %#v", peer, nonce, now, got, want)
	}
}

// accept asks that Accept answers this session, and chapter 17's Answer.
func accept(t *testing.T, m meeting, h hello.Hello, now int, want api.Session) {
	t.Helper()
	s, w := Accept(m.psk, h, m.second, m.answerer, now)
	if s != want {
		t.Fatalf("Accept of %#v, now %d: %#v, wanted %#v", h, now, s, want)
	}
	if w != hello.Answer(m.psk, h, m.second, m.answerer) {
		t.Fatalf("Accept of %#v, now %d: the welcome %#v", h, now, w)
	}
	if w != (hello.Welcome{First: m.nonce, Second: m.second, Entry: m.answerer, Tag: wantTag(m)}) {
		t.Fatalf("Accept of %#v, now %d: the welcome %#v has another tag", h, now, w)
	}
}

// finish asks that Finish answers this.
func finish(t *testing.T, psk string, s api.Session, own api.Entry, w hello.Welcome, now int, want api.Session, e api.Errno) {
	t.Helper()
	if got, f := Finish(psk, s, own, w, now); got != want || f != e {
		t.Fatalf("Finish of %#v by %#v of %#v, now %d: %#v %d, wanted %#v %d", s, w, own, now, got, f, want, e)
	}
}

// unfinished asks that Finish refuses by this error, and tells nothing beside it.
func unfinished(t *testing.T, psk string, s api.Session, own api.Entry, w hello.Welcome, e api.Errno) {
	t.Helper()
	for _, now := range []int{0, 5, least} {
		finish(t, psk, s, own, w, now, api.Session{}, e)
	}
}

// short answers the bytes' digits, not too many of them.
func short(b []byte) string {
	return fmt.Sprintf("%d bytes %x", len(b), b[:min(len(b), 40)])
}

// through hands a call the text within memory that has other bytes around it, and asks that none of these is changed, and that what is answered is new memory, with its spare room.
func through(t *testing.T, text string, call func(b []byte) (api.Session, []byte, api.Errno)) (api.Session, []byte, api.Errno) {
	t.Helper()
	room := slices.Concat([]byte("ahead"), []byte(text), []byte("spare room behind the text"))
	kept := string(room)
	s, b, e := call(room[5 : 5+len(text)])
	if string(room) != kept {
		t.Fatalf("what is handed in is changed: %s", short(room))
	}
	answer := string(b)
	clear(room)
	if string(b) != answer {
		t.Fatalf("what is answered lies in what was handed in: %s", short(b))
	}
	copy(room, kept)
	spare := b[:cap(b)]
	clear(spare)
	if string(room) != kept {
		t.Fatalf("what is handed in lies in what is answered: %s", short(room))
	}
	return s, append(b[:0:0], answer...), e
}

// seal asks that Seal answers this.
func seal(t *testing.T, s api.Session, now int, text string, want api.Session, record string, e api.Errno) {
	t.Helper()
	got, b, f := through(t, text, func(b []byte) (api.Session, []byte, api.Errno) { return Seal(s, now, b) })
	if got != want || f != e || string(b) != record {
		t.Fatalf("Seal of %#v, now %d, %s: %#v, %s, %d, wanted %#v, %s, %d", s, now, short([]byte(text)), got, short(b), f, want, short([]byte(record)), e)
	}
}

// unsealed asks that Seal refuses by this error, and tells nothing beside it.
func unsealed(t *testing.T, s api.Session, now int, text string, e api.Errno) {
	t.Helper()
	seal(t, s, now, text, api.Session{}, "", e)
}

// open asks that Open answers this.
func open(t *testing.T, s api.Session, now int, record string, want api.Session, text string, e api.Errno) {
	t.Helper()
	got, b, f := through(t, record, func(b []byte) (api.Session, []byte, api.Errno) { return Open(s, now, b) })
	if got != want || f != e || string(b) != text {
		t.Fatalf("Open of %#v, now %d, %s: %#v, %s, %d, wanted %#v, %s, %d", s, now, short([]byte(record)), got, short(b), f, want, short([]byte(text)), e)
	}
}

// unopened asks that Open refuses by this error, and tells nothing beside it.
func unopened(t *testing.T, s api.Session, now int, record string, e api.Errno) {
	t.Helper()
	open(t, s, now, record, api.Session{}, "", e)
}

// P22.1

func TestAskOfKnownSessions(t *testing.T) {
	ask(t, otherEntry(), 258, 5, api.Session{Nonce: 258, Peer: api.Entry{Name: "b", Id: 2, Until: 9, Tag: strings.Repeat("y", 32)}, Role: 1, State: 1, Since: 5, Used: 5})
	ask(t, api.Entry{}, 0, 0, api.Session{Role: 1, State: 1})
	ask(t, api.Entry{Name: "", Id: 7}, 1, -3, api.Session{Nonce: 1, Peer: api.Entry{Id: 7}, Role: 1, State: 1, Since: -3, Used: -3})
	ask(t, wrongEntry(), math.MaxUint64, least, api.Session{Nonce: math.MaxUint64, Peer: wrongEntry(), Role: 1, State: 1, Since: least, Used: least})
	ask(t, longEntry(), 1<<63, greatest, api.Session{Nonce: 1 << 63, Peer: longEntry(), Role: 1, State: 1, Since: greatest, Used: greatest})
}

func TestAskOfAllEdges(t *testing.T) {
	for _, peer := range append(entries(), append(others(plainEntry()), renewed(plainEntry())...)...) {
		for _, nonce := range numbers() {
			for _, now := range nows() {
				ask(t, peer, nonce, now, wantAsk(peer, nonce, now))
			}
		}
	}
}

// The roots and the tags were made by another program.
func TestAcceptOfKnownSessions(t *testing.T) {
	for _, x := range []struct {
		meeting
		there, back, tag string
	}{
		{plain(), "fa69e29fc74f4405b70de797b5e47c0d22536f5beeddec187aba6e62be411141", "afa4c13fd34f1d220cf6ecefc4cdea21415b92834151af2d0a1af5a9a84c3f12", "fc7715b365b2853faf630d24394bd776e86ee87a7805a91a38222d33edf92636"},
		{great(), "ee34f56f181ddbff93f76a4a4d05db88634a41635cbce8863861befffd7f95e1", "ec960fd82d2cfd75b46c01bf751d51470032b023784410206c6973e4dc464923", "65ecc689e4c45096c8ac7ced21eae34f6414e42c0eea0d94b1fd8e0c55716e19"},
	} {
		there, back, tag := unhex(t, x.there), unhex(t, x.back), unhex(t, x.tag)
		s, w := Accept(x.psk, x.greeting(), x.second, x.answerer, 12)
		if s != (api.Session{Id: x.second, Nonce: x.nonce, Peer: x.asker, Role: 2, State: 2, Send: back, Hear: there, Since: 12, Used: 12}) {
			t.Errorf("%#v", s)
		}
		if w != (hello.Welcome{First: x.nonce, Second: x.second, Entry: x.answerer, Tag: tag}) {
			t.Errorf("%#v", w)
		}
		if v, e := Finish(x.psk, x.waiting(3), x.asker, w, 13); e != api.OK || v != (api.Session{Id: x.second, Nonce: x.nonce, Peer: x.answerer, Role: 1, State: 3, Send: there, Hear: back, Since: 13, Used: 13}) {
			t.Errorf("%#v %d", v, e)
		}
		a, b := wantRoots(x.meeting)
		if a != there || b != back || wantTag(x.meeting) != tag {
			t.Errorf("the test is at odds with itself: %x %x", a, b)
		}
	}
}

func TestAcceptOfAllEdges(t *testing.T) {
	for _, m := range meetings() {
		for _, near := range append(nearMeetings(m), m) {
			for _, now := range []int{0, 12, -1, least, greatest} {
				accept(t, near, near.greeting(), now, wantAccept(near, now))
			}
		}
	}
	for _, asker := range entries() {
		for _, answerer := range entries() {
			for _, nonce := range []uint64{0, 1, 1 << 63, math.MaxUint64} {
				for _, second := range []uint64{0, 1, 1 << 63, math.MaxUint64} {
					m := meeting{"psk", nonce, second, asker, answerer}
					accept(t, m, m.greeting(), 12, wantAccept(m, 12))
				}
			}
		}
	}
	for _, nonce := range numbers() {
		for _, second := range numbers() {
			m := meeting{made(40, 3), nonce, second, plainEntry(), longEntry()}
			accept(t, m, m.greeting(), 1, wantAccept(m, 1))
		}
	}
	for _, now := range nows() {
		accept(t, plain(), plain().greeting(), now, wantAccept(plain(), now))
	}
}

// Accept looks at no tag of a hello, nor at whom it was meant for.
func TestAcceptLooksAtNoTag(t *testing.T) {
	for _, m := range meetings() {
		for _, tag := range []string{"", "t", m.greeting().Tag, turned(m.greeting().Tag, 0), turned(m.greeting().Tag, 31), strings.Repeat("\x00", 32), made(33, 3), made(1000, 4)} {
			for _, to := range []string{m.answerer.Name, m.asker.Name, "", "nobody", "No name!"} {
				accept(t, m, hello.Hello{To: to, Nonce: m.nonce, Entry: m.asker, Tag: tag}, 12, wantAccept(m, 12))
			}
		}
	}
}

// All that a meeting has goes into its roots, and in that order.
func TestRootsOfUnlikeMeetings(t *testing.T) {
	for _, m := range []meeting{plain(), great()} {
		s, _ := Accept(m.psk, m.greeting(), m.second, m.answerer, 0)
		if len(s.Send) != 32 || len(s.Hear) != 32 || s.Send == s.Hear {
			t.Fatalf("%#v", s)
		}
		seen := map[string]bool{s.Send: true, s.Hear: true}
		for _, near := range nearMeetings(m) {
			v, _ := Accept(near.psk, near.greeting(), near.second, near.answerer, 0)
			if seen[v.Send] || seen[v.Hear] {
				t.Fatalf("%#v and %#v have one root", m, near)
			}
			seen[v.Send], seen[v.Hear] = true, true
		}
	}
}

// P22.2

func TestFinishOfAllEdges(t *testing.T) {
	for _, m := range meetings() {
		for _, now := range nows() {
			finish(t, m.psk, m.waiting(3), m.asker, m.welcome(), now, wantFinish(m, now), api.OK)
		}
		for _, near := range nearMeetings(m) {
			if near.second != 0 {
				finish(t, near.psk, near.waiting(3), near.asker, near.welcome(), 12, wantFinish(near, 12), api.OK)
			}
		}
	}
	for _, nonce := range numbers() {
		for _, second := range numbers() {
			m := meeting{made(40, 3), nonce, second, plainEntry(), longEntry()}
			if second == 0 {
				unfinished(t, m.psk, m.waiting(3), m.asker, m.welcome(), 11)
				continue
			}
			finish(t, m.psk, m.waiting(3), m.asker, m.welcome(), 12, wantFinish(m, 12), api.OK)
		}
	}
}

// But for its State, its Nonce and its Peer nothing that the session had goes on.
func TestFinishOfSessionsThatHaveMore(t *testing.T) {
	for _, m := range []meeting{plain(), great()} {
		for _, s := range variants() {
			s.State, s.Nonce, s.Peer = 1, m.nonce, m.answerer
			finish(t, m.psk, s, m.asker, m.welcome(), 12, wantFinish(m, 12), api.OK)
		}
		for _, role := range []int{0, 1, 2, 3, -1, least, greatest} {
			s := with(m.waiting(3), func(s *api.Session) { s.Role = role })
			finish(t, m.psk, s, m.asker, m.welcome(), 12, wantFinish(m, 12), api.OK)
		}
	}
}

// The answerer may have another certificate by now: the session has that of the welcome.
func TestFinishOfRenewedPeers(t *testing.T) {
	for _, m := range meetings() {
		for _, older := range renewed(m.answerer) {
			s := with(m.waiting(3), func(s *api.Session) { s.Peer = older })
			finish(t, m.psk, s, m.asker, m.welcome(), 12, wantFinish(m, 12), api.OK)
		}
		for _, newer := range renewed(m.answerer) {
			n := meeting{m.psk, m.nonce, m.second, m.asker, newer}
			finish(t, m.psk, m.waiting(3), m.asker, n.welcome(), 12, wantFinish(n, 12), api.OK)
		}
	}
}

func TestFinishOfOtherStates(t *testing.T) {
	for _, m := range []meeting{plain(), great()} {
		for _, state := range states() {
			s := with(m.waiting(3), func(s *api.Session) { s.State = state })
			if state == 1 {
				finish(t, m.psk, s, m.asker, m.welcome(), 12, wantFinish(m, 12), api.OK)
				continue
			}
			unfinished(t, m.psk, s, m.asker, m.welcome(), 25)
			unfinished(t, m.psk, wantFinish(m, 3), m.asker, m.welcome(), 25)
			unfinished(t, m.psk, wantAccept(m, 3), m.asker, m.welcome(), 25)
			unfinished(t, m.psk, with(filled(), func(s *api.Session) { s.State, s.Nonce, s.Peer = state, m.nonce, m.answerer }), m.asker, m.welcome(), 25)
		}
	}
	unfinished(t, "psk", api.Session{}, plainEntry(), plain().welcome(), 25)
	unfinished(t, "", api.Session{}, api.Entry{}, hello.Welcome{}, 25)
}

func TestFinishOfOtherNonces(t *testing.T) {
	for _, m := range meetings() {
		for bit := range 64 {
			s := with(m.waiting(3), func(s *api.Session) { s.Nonce ^= 1 << bit })
			unfinished(t, m.psk, s, m.asker, m.welcome(), 25)
			other := meeting{m.psk, m.nonce ^ 1<<bit, m.second, m.asker, m.answerer}
			unfinished(t, m.psk, m.waiting(3), m.asker, other.welcome(), 25)
		}
		if m.second != m.nonce {
			unfinished(t, m.psk, with(m.waiting(3), func(s *api.Session) { s.Nonce = m.second }), m.asker, m.welcome(), 25)
			unfinished(t, m.psk, with(m.waiting(3), func(s *api.Session) { s.Id, s.Nonce = m.nonce, m.second }), m.asker, m.welcome(), 25)
		}
	}
}

// The welcomes of others here are right ones, of whoever holds the secret, too.
func TestFinishOfOtherNames(t *testing.T) {
	for _, m := range meetings() {
		for _, other := range others(m.answerer) {
			unfinished(t, m.psk, with(m.waiting(3), func(s *api.Session) { s.Peer = other }), m.asker, m.welcome(), 30)
			unfinished(t, m.psk, m.waiting(3), m.asker, meeting{m.psk, m.nonce, m.second, m.asker, other}.welcome(), 30)
		}
		if m.asker != m.answerer {
			unfinished(t, m.psk, m.waiting(3), m.asker, meeting{m.psk, m.nonce, m.second, m.asker, m.asker}.welcome(), 30)
		}
	}
}

func TestFinishOfNoSecond(t *testing.T) {
	for _, m := range meetings() {
		none := meeting{m.psk, m.nonce, 0, m.asker, m.answerer}
		unfinished(t, m.psk, m.waiting(3), m.asker, none.welcome(), 11)
		unfinished(t, m.psk, with(m.waiting(3), func(s *api.Session) { s.Id = m.second }), m.asker, none.welcome(), 11)
		one := meeting{m.psk, m.nonce, 1, m.asker, m.answerer}
		finish(t, m.psk, m.waiting(3), m.asker, one.welcome(), 12, wantFinish(one, 12), api.OK)
	}
}

func TestFinishOfOtherTags(t *testing.T) {
	for _, m := range meetings() {
		w := m.welcome()
		tags := []string{"", w.Tag[:31], w.Tag[1:], w.Tag + "\x00", "\x00" + w.Tag, w.Tag + w.Tag, strings.Repeat("\x00", 32), m.greeting().Tag}
		for at := range 32 {
			tags = append(tags, turned(w.Tag, at))
		}
		for _, tag := range tags {
			unfinished(t, m.psk, m.waiting(3), m.asker, hello.Welcome{First: w.First, Second: w.Second, Entry: w.Entry, Tag: tag}, 20)
		}
		// the tag of another meeting: of another secret, second nonce, asker, or certificate
		for _, near := range nearMeetings(m) {
			unfinished(t, m.psk, m.waiting(3), m.asker, hello.Welcome{First: w.First, Second: w.Second, Entry: w.Entry, Tag: near.welcome().Tag}, 20)
		}
		// asked by another one than the welcome is for
		for _, own := range append(others(m.asker), renewed(m.asker)...) {
			unfinished(t, m.psk, m.waiting(3), own, w, 20)
		}
		if m.asker != m.answerer {
			unfinished(t, m.psk, m.waiting(3), m.answerer, w, 20)
		}
		unfinished(t, m.psk+"x", m.waiting(3), m.asker, w, 20)
	}
}

// Of each set of faults at once the first one is told, whose order this list has.
func TestFinishOfSeveralFaults(t *testing.T) {
	order := []api.Errno{25, 25, 30, 11, 20}
	for _, m := range meetings() {
		for set := range 1 << len(order) {
			s, n := m.waiting(3), m
			if set&1 != 0 {
				s.State = 3
			}
			if set&2 != 0 {
				s.Nonce++
			}
			if set&4 != 0 {
				s.Peer.Id++
			}
			if set&8 != 0 {
				n.second = 0
			}
			w := n.welcome()
			if set&16 != 0 {
				w.Tag = turned(w.Tag, 7)
			}
			if got := wantRefusal(m.psk, s, m.asker, w); set == 0 && got != api.OK {
				t.Fatalf("the test is at odds with itself: %d", got)
			}
			if set == 0 {
				continue
			}
			first := 0
			for set>>first&1 == 0 {
				first++
			}
			unfinished(t, m.psk, s, m.asker, w, order[first])
			if got := wantRefusal(m.psk, s, m.asker, w); got != order[first] {
				t.Fatalf("the test is at odds with itself: %d of %d", got, set)
			}
		}
	}
}

// All waiting sessions with all welcomes and all askers.
func TestFinishOfAllMeetings(t *testing.T) {
	met := map[api.Errno]int{}
	for _, x := range meetings() {
		for _, y := range append(nearMeetings(x), meetings()...) {
			for _, own := range []api.Entry{x.asker, y.asker, y.answerer} {
				s, w := x.waiting(3), y.welcome()
				e := wantRefusal(x.psk, s, own, w)
				want := api.Session{}
				if e == api.OK {
					want = wantFinish(meeting{x.psk, w.First, w.Second, own, w.Entry}, 12)
				}
				finish(t, x.psk, s, own, w, 12, want, e)
				met[e]++
			}
		}
	}
	for _, e := range []api.Errno{0, 25, 30, 20} {
		if met[e] < 20 {
			t.Errorf("%v", met)
		}
	}
}

// P22.3

func TestTheExampleOfTheChapter(t *testing.T) {
	for _, m := range meetings() {
		unsealed(t, Ask(m.answerer, m.nonce, 3), 4, "text", 25)
	}
}

// The records were made by another program.
func TestSealOfKnownRecords(t *testing.T) {
	asker, answerer := wantFinish(plain(), 12), wantAccept(plain(), 12)
	answerer.State = 3
	first, second := wantFinish(great(), 12), wantAccept(great(), 12)
	second.State = 3
	at := func(s api.Session, epoch, seq, count int) api.Session {
		s.Epoch, s.Seq, s.Count = epoch, seq, count
		return s
	}
	for _, x := range []struct {
		s      api.Session
		text   string
		record string
	}{
		{asker, "hello", "030000000000000103010000000000013c1e6c41882cfc68f3641bcda479ad013225ec6ede"},
		{answerer, "hello", "03000000000000010302000000000001302553e98651ee04042f57e7a0cecebb584f9d7752"},
		{at(asker, 0, 1, 1), "", "03000000000000010301000000000002f1412fa8207c240e62b6f5f5c781a464"},
		{at(asker, 0, 32, 32), "a new key", "0300000000000001030100010000002105d46649ca0df63839350a0ddefb9cdf977550cbe26ec4cb94"},
		{at(answerer, 65534, 4095, 32), "the last one", "03000000000000010302ffff0000100098b66107bab3b802442ca65ca8c61a625c95d7eedbdd4b1eb43104b2"},
		{first, "", "03ffffffffffffffff01000000000001b7374b3bd20e13cb67cd2c3c1725ea50"},
		{second, "", "03ffffffffffffffff020000000000011608fabf976b37176685c508d6dff041"},
	} {
		record := unhex(t, x.record)
		want := with(x.s, func(s *api.Session) { s.Seq, s.Count, s.Used = s.Seq+1, s.Count+1, 20 })
		if x.s.Count == 32 {
			want.Epoch, want.Count, want.Since = want.Epoch+1, 1, 20
		}
		seal(t, x.s, 20, x.text, want, record, api.OK)
		// and whoever hears it opens it
		h := hears(x.s)
		open(t, h, 21, record, opened(h, 21, api.Window{Top: want.Seq, Low: 1}), x.text, api.OK)
	}
}

func TestSealOfOtherStates(t *testing.T) {
	for _, state := range states() {
		for _, base := range append(variants(), wantFinish(plain(), 3), wantAccept(great(), 3), plain().waiting(3)) {
			s := with(base, func(s *api.Session) { s.State = state })
			if state != 3 {
				unsealed(t, s, 12, "text", 25)
				unsealed(t, s, 12, "", 25)
				continue
			}
			want, record, e := wantSeal(s, 12, "text")
			seal(t, s, 12, "text", want, record, e)
		}
	}
	unsealed(t, api.Session{}, 0, "", 25)
	unsealed(t, wantAccept(plain(), 3), 3, "", 25)
	unsealed(t, plain().waiting(3), 3, "", 25)
}

func TestSealOfSpentSessions(t *testing.T) {
	for _, x := range []struct {
		seq, epoch int
		e          api.Errno
	}{
		{4095, 0, 0}, {4096, 0, 24}, {4097, 0, 24}, {greatest, 0, 24}, {0, 65534, 0}, {0, 65535, 24}, {0, 65536, 24}, {0, greatest, 24}, {4095, 65534, 0}, {4096, 65534, 24}, {4095, 65535, 24}, {greatest, greatest, 24}, {least, 65535, 24}, {4096, least, 24},
	} {
		for _, base := range variants() {
			if base.State != 3 || base.Role == least {
				continue
			}
			s := with(base, func(s *api.Session) { s.Seq, s.Epoch = x.seq, x.epoch })
			want, record, e := wantSeal(s, 12, "text")
			if e != x.e {
				t.Fatalf("the test is at odds with itself: %d of %#v", e, s)
			}
			seal(t, s, 12, "text", want, record, e)
		}
	}
}

func TestSealOfSizes(t *testing.T) {
	for _, many := range sizes() {
		for _, text := range []string{made(many, 5), strings.Repeat("\x00", many)} {
			want := with(filled(), func(s *api.Session) { s.Seq, s.Count, s.Used = 111, 9, 120 })
			seal(t, filled(), 120, text, want, sealedAs(t, "send", 101, 1, 7, 111, text), api.OK)
		}
	}
	for _, many := range []int{2017, 2018, 2048, 4032, 65536 + 5, 1 << 20} {
		unsealed(t, filled(), 120, made(many, 5), 3)
		unsealed(t, filled(), 120, strings.Repeat("\x00", many), 3)
	}
	for _, nothing := range nothings() {
		want := with(filled(), func(s *api.Session) { s.Seq, s.Count, s.Used = 111, 9, 120 })
		got, b, e := Seal(filled(), 120, nothing)
		if got != want || e != api.OK || string(b) != sealedAs(t, "send", 101, 1, 7, 111, "") {
			t.Errorf("%#v %x %d", got, b, e)
		}
	}
}

// Heads that may not be: layer 19 refuses them, ahead of a text that is too long.
func TestSealOfWrongHeads(t *testing.T) {
	for _, change := range []func(s *api.Session){
		func(s *api.Session) { s.Id = 0 },
		func(s *api.Session) { s.Role = 0 },
		func(s *api.Session) { s.Role = 3 },
		func(s *api.Session) { s.Role = -1 },
		func(s *api.Session) { s.Role = least },
		func(s *api.Session) { s.Role = greatest },
		func(s *api.Session) { s.Seq = -1 }, // the next one is 0
		func(s *api.Session) { s.Seq = -2 },
		func(s *api.Session) { s.Seq = least },
		func(s *api.Session) { s.Epoch = -1 },
		func(s *api.Session) { s.Epoch, s.Count = -2, 32 },
		func(s *api.Session) { s.Epoch = least },
		func(s *api.Session) { s.Id, s.Role, s.Seq, s.Epoch = 0, 0, -1, -1 },
	} {
		for _, text := range []string{"", "text", made(2016, 1), made(2017, 1)} {
			unsealed(t, with(filled(), change), 120, text, 2)
		}
	}
	// the first number and the first key that may be
	s := with(filled(), func(s *api.Session) { s.Seq, s.Epoch, s.Count = 0, -1, 32 })
	seal(t, s, 120, "text", with(s, func(s *api.Session) { s.Seq, s.Epoch, s.Count, s.Since, s.Used = 1, 0, 1, 120, 120 }), sealedAs(t, "send", 101, 1, 0, 1, "text"), api.OK)
}

// Which error comes first where several could.
func TestSealOfSeveralFaults(t *testing.T) {
	order := []api.Errno{25, 24, 2, 3}
	for set := 1; set < 1<<len(order); set++ {
		for _, spent := range []func(s *api.Session){func(s *api.Session) { s.Seq = 4096 }, func(s *api.Session) { s.Epoch = 65535 }} {
			s, text := filled(), "text"
			if set&1 != 0 {
				s.State = 2
			}
			if set&2 != 0 {
				spent(&s)
			}
			if set&4 != 0 {
				s.Id = 0
			}
			if set&8 != 0 {
				text = made(2017, 1)
			}
			first := 0
			for set>>first&1 == 0 {
				first++
			}
			unsealed(t, s, 120, text, order[first])
		}
	}
}

// Which Id, Role, Epoch and Seq a record has, under which root, and what becomes of the session. A key that is due is taken first.
func TestSealOfKnownSessions(t *testing.T) {
	for _, x := range []struct {
		seq, epoch, count, since, now     int
		newSeq, newEpoch, newCount, newOf int
	}{
		{0, 0, 0, 0, 0, 1, 0, 1, 0},
		{5, 2, 7, 3, 20, 6, 2, 8, 3},
		{31, 0, 31, 0, 0, 32, 0, 32, 0},
		{32, 0, 32, 0, 0, 33, 1, 1, 0},
		{32, 0, 32, 10, 20, 33, 1, 1, 20},
		{5, 2, 7, 3, 66, 6, 2, 8, 3},
		{5, 2, 7, 3, 67, 6, 3, 1, 67},
		{5, 2, 32, 3, 67, 6, 3, 1, 67},
		{5, 2, 32, 20, -10, 6, 3, 1, -10},
		{5, 2, 7, -1, greatest, 6, 2, 8, -1},
		{4095, 65534, 31, 3, 66, 4096, 65534, 32, 3},
		{4095, 65534, 32, 3, 66, 4096, 65535, 1, 66},
	} {
		for _, id := range numbers() {
			for _, role := range []int{1, 2} {
				if id == 0 {
					continue
				}
				s := with(filled(), func(s *api.Session) {
					s.Id, s.Role, s.Seq, s.Epoch, s.Count, s.Since = id, role, x.seq, x.epoch, x.count, x.since
				})
				want := with(s, func(s *api.Session) {
					s.Seq, s.Epoch, s.Count, s.Since, s.Used = x.newSeq, x.newEpoch, x.newCount, x.newOf, x.now
				})
				record := sealedAs(t, "send", id, role, x.newEpoch, x.newSeq, "text")
				if !strings.HasPrefix(record, headOf(id, role, x.newEpoch, x.newSeq)) {
					t.Fatal("the test is at odds with itself")
				}
				seal(t, s, x.now, "text", want, record, api.OK)
			}
		}
	}
}

func TestSealOfAllEdges(t *testing.T) {
	met := map[api.Errno]int{}
	for _, s := range variants() {
		for _, change := range changes() {
			v := with(s, change)
			for _, now := range []int{0, 109, 172, 173, -1, least, greatest} {
				for _, text := range []string{"", "text", made(2017, 1)} {
					want, record, e := wantSeal(v, now, text)
					seal(t, v, now, text, want, record, e)
					met[e]++
				}
			}
		}
	}
	if met[api.OK] < 1000 || met[api.ErrSession] < 100 || met[api.ErrArg] < 100 || met[api.ErrBig] < 1000 {
		t.Errorf("%v", met)
	}
}

// P22.4

// sealed answers what the other one of the filled session has sealed, with this number.
func sealed(t *testing.T, seq int) string { return sealedAs(t, "hear", 101, 2, 7, seq, "text") }

func TestOpenOfKnownSessions(t *testing.T) {
	s := filled() // Top 111; of 113, which is 1110001, and 115, which is 1110011, the bits 0, 4, 5, 6 and 64, 65, 68, 69, 70 are set
	for _, x := range []struct {
		seq  int
		seen api.Window
		e    api.Errno
	}{
		{112, api.Window{Top: 112, Low: 113<<1 | 1, High: 115 << 1}, 0},
		{113, api.Window{Top: 113, Low: 113<<2 | 1, High: 115 << 2}, 0},
		{175, api.Window{Top: 175, Low: 1, High: 113}, 0},
		{239, api.Window{Top: 239, Low: 1}, 0},
		{4096, api.Window{Top: 4096, Low: 1}, 0},
		{110, api.Window{Top: 111, Low: 113 | 2, High: 115}, 0},
		{109, api.Window{Top: 111, Low: 113 | 4, High: 115}, 0},
		{48, api.Window{Top: 111, Low: 113 | 1<<63, High: 115}, 0},
		{45, api.Window{Top: 111, Low: 113, High: 115 | 4}, 0},
		{1, api.Window{Top: 111, Low: 113, High: 115 | 1<<46}, 0},
		{111, api.Window{}, 22}, {107, api.Window{}, 22}, {106, api.Window{}, 22}, {105, api.Window{}, 22}, {47, api.Window{}, 22}, {46, api.Window{}, 22}, {43, api.Window{}, 22}, {42, api.Window{}, 22}, {41, api.Window{}, 22},
	} {
		for _, now := range []int{0, 20, 1000, -1, least, greatest} {
			for _, state := range []int{2, 3} {
				v := with(s, func(s *api.Session) { s.State = state })
				if x.e != api.OK {
					unopened(t, v, now, sealed(t, x.seq), x.e)
					continue
				}
				open(t, v, now, sealed(t, x.seq), opened(v, now, x.seen), "text", api.OK)
			}
		}
	}
}

func TestOpenOfOtherStates(t *testing.T) {
	for _, state := range states() {
		s := with(filled(), func(s *api.Session) { s.State = state })
		record := sealed(t, 112)
		if state == 2 || state == 3 {
			open(t, s, 12, record, opened(s, 12, api.Window{Top: 112, Low: 227, High: 230}), "text", api.OK)
			continue
		}
		unopened(t, s, 12, record, 25)
		unopened(t, s, 12, "", 25)
		unopened(t, s, 12, turned(record, 30), 25)
		unopened(t, s, 12, made(2049, 1), 25)
	}
	unopened(t, plain().waiting(3), 12, sealed(t, 112), 25)
	unopened(t, api.Session{}, 12, sealed(t, 112), 25)
}

// Nothing else of the session counts, and nothing else of it changes.
func TestOpenOfSessionsThatHaveMore(t *testing.T) {
	met := 0
	for _, s := range variants() {
		for _, change := range changes() {
			v := with(s, change)
			for _, state := range []int{2, 3} {
				v.State = state
				for _, seq := range []int{1, 111, 112, 4096} {
					want, text, e := wantOpen(v, 12, sealed(t, seq))
					open(t, v, 12, sealed(t, seq), want, text, e)
					if e == api.OK {
						met++
						if want != with(v, func(s *api.Session) { s.State, s.Seen, s.Used = 3, want.Seen, 12 }) {
							t.Fatal("the test is at odds with itself")
						}
					}
				}
			}
		}
	}
	if met < 1000 {
		t.Errorf("%d", met)
	}
}

// The record's own key is that of its head, whichever one the session seals by.
func TestOpenOfAnyEpoch(t *testing.T) {
	for _, epoch := range []int{0, 1, 6, 7, 8, 255, 256, 65534, 65535} {
		for _, own := range []int{0, 7, 65535, -1, least, greatest} {
			s := with(filled(), func(s *api.Session) { s.Epoch = own })
			open(t, s, 12, sealedAs(t, "hear", 101, 2, epoch, 112, "text"), opened(s, 12, api.Window{Top: 112, Low: 227, High: 230}), "text", api.OK)
		}
	}
}

func TestOpenOfSizes(t *testing.T) {
	for _, many := range sizes() {
		text := made(many, 9)
		open(t, filled(), 12, sealedAs(t, "hear", 101, 2, 7, 112, text), opened(filled(), 12, api.Window{Top: 112, Low: 227, High: 230}), text, api.OK)
	}
	for _, nothing := range nothings() {
		if s, text, e := Open(filled(), 12, nothing); s != (api.Session{}) || len(text) > 0 || e != 13 {
			t.Errorf("%#v %x %d", s, text, e)
		}
	}
}

// What is no record: each error of layer 19's Take.
func TestOpenOfWhatIsNoRecord(t *testing.T) {
	record := sealed(t, 112)
	for _, s := range []api.Session{filled(), with(filled(), func(s *api.Session) { s.State = 2 }), wantAccept(plain(), 3), wantFinish(plain(), 3)} {
		for first := range 256 {
			if first != 3 {
				unopened(t, s, 12, string([]byte{byte(first)})+record[1:], 13)
				unopened(t, s, 12, string([]byte{byte(first)})+made(2048, 1), 13)
			}
		}
		unopened(t, s, 12, "", 13)
		h := plain().greeting()
		if b, e := hello.PutHello(h); e == api.OK {
			unopened(t, s, 12, string(b), 13)
		}
		if b, e := hello.PutWelcome(plain().welcome()); e == api.OK {
			unopened(t, s, 12, string(b), 13)
		}
		unopened(t, s, 12, string(hello.PutReset(101)), 13)
		for _, many := range []int{2049, 2050, 4096, 70000} {
			unopened(t, s, 12, (record + made(many, 1))[:many], 3)
		}
		for many := 1; many < 32; many++ {
			unopened(t, s, 12, record[:many], 10)
		}
		for _, head := range []string{
			headOf(0, 2, 7, 112), headOf(101, 0, 7, 112), headOf(101, 3, 7, 112), headOf(101, 255, 7, 112), headOf(101, 2, 7, 0), headOf(101, 2, 7, 4097), headOf(101, 2, 7, 1<<31), headOf(101, 2, 7, 1<<32-1), headOf(0, 0, 0, 0),
		} {
			unopened(t, s, 12, head+record[16:], 11)
			unopened(t, s, 12, head+made(2032, 1), 11)
		}
	}
}

func TestOpenOfOtherSessionsRecords(t *testing.T) {
	for bit := range 64 {
		if id := uint64(101) ^ 1<<bit; id != 0 {
			unopened(t, filled(), 12, sealedAs(t, "hear", id, 2, 7, 112, "text"), 25)
			unopened(t, with(filled(), func(s *api.Session) { s.Id = id }), 12, sealed(t, 112), 25)
		}
	}
	unopened(t, with(filled(), func(s *api.Session) { s.Id = 0 }), 12, sealed(t, 112), 25)
	unopened(t, with(filled(), func(s *api.Session) { s.Id, s.Nonce = 102, 101 }), 12, sealed(t, 112), 25)
	// its own Role, whichever root it is sealed by
	for _, root := range []string{"hear", "send"} {
		unopened(t, filled(), 12, sealedAs(t, root, 101, 1, 7, 112, "text"), 25)
		unopened(t, with(filled(), func(s *api.Session) { s.Role = 2 }), 12, sealedAs(t, root, 101, 2, 7, 112, "text"), 25)
	}
	// a Role that is neither one is no record's: both are others'
	for _, role := range []int{0, 3, -1, -2, 257, 258, least, greatest} {
		s := with(filled(), func(s *api.Session) { s.Role = role })
		for _, other := range []int{1, 2} {
			open(t, s, 12, sealedAs(t, "hear", 101, other, 7, 112, "text"), opened(s, 12, api.Window{Top: 112, Low: 227, High: 230}), "text", api.OK)
		}
	}
}

// What was seen, what is too old, and windows that may not be: each error of layer 20's Fresh.
func TestOpenOfWhatWasSeen(t *testing.T) {
	for _, x := range []struct {
		seen api.Window
		seq  int
		e    api.Errno
	}{
		{api.Window{}, 1, 0}, {api.Window{}, 4096, 0},
		{api.Window{Top: 1, Low: 1}, 1, 22}, {api.Window{Top: 3, Low: 5}, 1, 22}, {api.Window{Top: 3, Low: 5}, 2, 0}, {api.Window{Top: 3, Low: 5}, 3, 22}, {api.Window{Top: 3, Low: 5}, 4, 0}, {api.Window{Top: 3}, 3, 0},
		{api.Window{Top: 128, Low: 1}, 1, 0}, {api.Window{Top: 129, Low: 1}, 1, 23}, {api.Window{Top: 129, Low: 1}, 2, 0}, {api.Window{Top: 128, Low: 1, High: 1 << 63}, 1, 22}, {api.Window{Top: 129, Low: 1, High: 1 << 63}, 2, 22}, {api.Window{Top: 129, Low: math.MaxUint64, High: math.MaxUint64}, 1, 23},
		{api.Window{Top: 4096, Low: 1}, 4096, 22}, {api.Window{Top: 4096, Low: 1}, 4095, 0}, {api.Window{Top: 4096, Low: 1}, 3969, 0}, {api.Window{Top: 4096, Low: 1}, 3968, 23}, {api.Window{Top: 1 << 30}, 4096, 23}, {api.Window{Top: 1 << 30}, 1, 23},
		{api.Window{Top: -1}, 1, 2}, {api.Window{Top: 1<<30 + 1}, 1, 2}, {api.Window{Top: least}, 1, 2}, {api.Window{Top: greatest}, 4096, 2}, {api.Window{Top: -1, Low: math.MaxUint64, High: math.MaxUint64}, 1, 2},
	} {
		for _, state := range []int{2, 3} {
			s := with(filled(), func(s *api.Session) { s.Seen, s.State = x.seen, state })
			want, text, e := wantOpen(s, 12, sealed(t, x.seq))
			if e != x.e {
				t.Fatalf("the test is at odds with itself: %d of %#v", e, x)
			}
			open(t, s, 12, sealed(t, x.seq), want, text, e)
			if e != api.OK { // ahead of what its seal tells
				unopened(t, s, 12, turned(sealed(t, x.seq), 30), e)
				unopened(t, s, 12, sealedAs(t, "other", 101, 2, 7, x.seq, "text"), e)
			}
		}
	}
}

func TestOpenOfChangedRecords(t *testing.T) {
	record := sealed(t, 112)
	for at := range len(record) {
		for by := 1; by < 256; by++ {
			changed := record[:at] + string([]byte{record[at] ^ byte(by)}) + record[at+1:]
			want, text, e := wantOpen(filled(), 12, changed)
			if e == api.OK || want != (api.Session{}) || text != "" {
				t.Fatal("the test is at odds with itself")
			}
			if at >= 16 && e != 21 || (at == 10 || at == 11) && e != 21 {
				t.Fatalf("the test is at odds with itself: %d of %d", e, at)
			}
			unopened(t, filled(), 12, changed, e)
		}
	}
	for many := 32; many < len(record); many++ {
		unopened(t, filled(), 12, record[:many], 21)
	}
	for many := 1; len(record)+many <= 2048; many += 7 {
		unopened(t, filled(), 12, record+made(many, 1), 21)
		unopened(t, filled(), 12, record+strings.Repeat("\x00", many), 21)
	}
	for _, root := range []string{"send", "", "other", "hea", "hear ", "Hear", made(32, 1)} {
		unopened(t, filled(), 12, sealedAs(t, root, 101, 2, 7, 112, "text"), 21)
		unopened(t, with(filled(), func(s *api.Session) { s.Hear = root }), 12, record, 21)
	}
	// of another key or number than its head tells
	unopened(t, filled(), 12, headOf(101, 2, 8, 112)+record[16:], 21)
	unopened(t, filled(), 12, headOf(101, 2, 7, 113)+record[16:], 21)
	unopened(t, filled(), 12, record[:16]+sealed(t, 113)[16:], 21)
}

// A record that is refused marks nothing: the right one is opened behind it.
func TestOpenBehindWhatIsRefused(t *testing.T) {
	s := wantAccept(plain(), 3)
	right := sealedAs(t, s.Hear, 259, 1, 0, 5, "text")
	for _, wrong := range []string{turned(right, 20), turned(right, 5), turned(right, 9), sealedAs(t, "other", 259, 1, 0, 4096, "text"), right[:20], ""} {
		if v, _, e := Open(s, 12, []byte(wrong)); e == api.OK || v != (api.Session{}) {
			t.Fatalf("%#v %d", v, e)
		}
		open(t, s, 12, right, opened(s, 12, api.Window{Top: 5, Low: 1}), "text", api.OK)
	}
}

// Of each set of faults at once the first one is told, whose order this list has.
func TestOpenOfSeveralFaults(t *testing.T) {
	order := []api.Errno{25, 11, 25, 25, 22, 21}
	for set := 1; set < 1<<len(order); set++ {
		s, id, role, root := filled(), uint64(101), 2, "hear"
		if set&1 != 0 {
			s.State = 1
		}
		if set&4 != 0 {
			id = 102
		}
		if set&8 != 0 {
			role = 1
		}
		if set&16 != 0 {
			s.Seen = api.Window{Top: 112, Low: 1}
		}
		if set&32 != 0 {
			root = "other"
		}
		record := sealedAs(t, root, id, role, 7, 112, "text")
		if set&2 != 0 { // its Seq is 0, which nobody seals
			record = headOf(id, role, 7, 0) + record[16:]
		}
		first := 0
		for set>>first&1 == 0 {
			first++
		}
		unopened(t, s, 12, record, order[first])
		if set&2 != 0 {
			want := order[first]
			if first == 1 {
				want = 10
			}
			unopened(t, s, 12, record[:31], want)
		}
	}
}

// What a call answers hangs on what it is handed alone.
func TestNothingIsKept(t *testing.T) {
	m, n := plain(), great()
	for range 3 {
		for _, s := range variants() {
			Ask(s.Peer, s.Nonce, s.Used)
			Accept("other", n.greeting(), 77, s.Peer, 9)
			Finish(n.psk, n.waiting(1), n.asker, n.welcome(), 2)
			Finish(m.psk, s, m.asker, m.welcome(), 2)
			Seal(s, 12, []byte("other"))
			Open(s, 12, []byte(sealed(t, 112)))
			ask(t, m.answerer, m.nonce, 3, wantAsk(m.answerer, m.nonce, 3))
			accept(t, m, m.greeting(), 4, wantAccept(m, 4))
			finish(t, m.psk, m.waiting(3), m.asker, m.welcome(), 5, wantFinish(m, 5), api.OK)
			want, record, e := wantSeal(filled(), 12, "text")
			seal(t, filled(), 12, "text", want, record, e)
			open(t, filled(), 12, sealed(t, 112), opened(filled(), 12, api.Window{Top: 112, Low: 227, High: 230}), "text", api.OK)
		}
	}
}

// P22.5

// meet answers both sessions of a meeting, by the package's calls alone.
func meet(t testing.TB, m meeting) (asker, answerer api.Session) {
	t.Helper()
	answerer, w := Accept(m.psk, m.greeting(), m.second, m.answerer, 4)
	asker, e := Finish(m.psk, Ask(m.answerer, m.nonce, 3), m.asker, w, 5)
	if e != api.OK {
		t.Fatalf("Finish by what Accept answers: %d", e)
	}
	return asker, answerer
}

// say has a session seal a text, and answers the record.
func say(t testing.TB, s *api.Session, now int, text string) []byte {
	t.Helper()
	next, b, e := Seal(*s, now, []byte(text))
	if e != api.OK {
		t.Fatalf("Seal of %#v: %d", *s, e)
	}
	*s = next
	return b
}

// hear has a session open a record, and asks that it has this text.
func hear(t testing.TB, s *api.Session, now int, b []byte, text string) {
	t.Helper()
	next, got, e := Open(*s, now, b)
	if e != api.OK || string(got) != text || next.State != 3 || next.Used != now {
		t.Fatalf("Open of %#v: %#v, %s, %d, wanted %s", *s, next, short(got), e, short([]byte(text)))
	}
	*s = next
}

// deaf asks that a session opens a record by none but this error.
func deaf(t testing.TB, s api.Session, now int, b []byte, e api.Errno) {
	t.Helper()
	if next, got, f := Open(s, now, b); f != e || len(got) > 0 || next != (api.Session{}) {
		t.Fatalf("Open of %#v: %#v, %s, %d, wanted %d", s, next, short(got), f, e)
	}
}

func TestTwoThatFit(t *testing.T) {
	for _, m := range meetings() {
		x, y := meet(t, m)
		if x.State != 3 || y.State != 2 || x.Send != y.Hear || x.Hear != y.Send || x.Id != y.Id || x.Nonce != y.Nonce || x.Role != 1 || y.Role != 2 || x.Peer != m.answerer || y.Peer != m.asker {
			t.Fatalf("%#v and %#v", x, y)
		}
		unsealed(t, y, 6, "text", 25) // till it has opened a record
		first := say(t, &x, 6, "first")
		hear(t, &y, 7, first, "first")
		deaf(t, y, 7, first, 22)
		deaf(t, x, 7, first, 25)
		second := say(t, &y, 8, "second")
		hear(t, &x, 9, second, "second")
		deaf(t, x, 9, second, 22)
		deaf(t, y, 9, second, 25)
	}
}

// Whichever record comes first: all orders of five.
func TestRecordsInAllOrders(t *testing.T) {
	m := plain()
	x, y := meet(t, m)
	var records [][]byte
	for i := range 5 {
		records = append(records, say(t, &x, 6+i, made(i*100, byte(i))))
	}
	orders := 0
	var goOn func(s api.Session, left []int)
	goOn = func(s api.Session, left []int) {
		if len(left) == 0 {
			orders++
			if s.Seen != (api.Window{Top: 5, Low: 31}) {
				t.Fatalf("behind all five: %#v", s)
			}
		}
		for i, at := range left {
			next := s
			hear(t, &next, 20, records[at], made(at*100, byte(at)))
			rest := slices.Delete(slices.Clone(left), i, i+1)
			for again, b := range records {
				if !slices.Contains(rest, again) {
					deaf(t, next, 21, b, 22)
				}
			}
			goOn(next, rest)
		}
	}
	goOn(y, []int{0, 1, 2, 3, 4})
	if orders != 120 {
		t.Errorf("%d", orders)
	}
}

// Both ways at once, over the changes of keys, with records that are late by up to 100 and come once more.
func TestTheyTalk(t *testing.T) {
	for _, m := range []meeting{plain(), great()} {
		x, y := meet(t, m)
		hear(t, &y, 6, say(t, &x, 6, "first"), "first")
		type late struct {
			b    []byte
			text string
		}
		var there, back []late
		epochs := map[int]int{}
		for i := 1; i <= 400; i++ {
			text := made(i%70, byte(i))
			there = append(there, late{say(t, &x, 6, text), text})
			back = append(back, late{say(t, &y, 6, text), text})
			epochs[x.Epoch]++
			if x.Epoch != i/32 || y.Epoch != (i-1)/32 {
				t.Fatalf("behind %d: %#v and %#v", i, x, y)
			}
			if i%100 == 0 { // the last one first
				slices.Reverse(there)
				for _, z := range there {
					hear(t, &y, 6, z.b, z.text)
				}
				slices.Reverse(back[:50])
				for _, z := range back {
					hear(t, &x, 6, z.b, z.text)
				}
				for at := range there {
					deaf(t, y, 6, there[at].b, 22)
					deaf(t, x, 6, back[at].b, 22)
				}
				there, back = nil, nil
			}
		}
		if len(epochs) != 13 {
			t.Errorf("%v", epochs)
		}
	}
}

// The 33rd record is the first one under the next key.
func TestTheChangeOfKeys(t *testing.T) {
	x, y := meet(t, plain())
	for i := 1; i <= 100; i++ {
		b := say(t, &x, 5, "text")
		if want := headOf(259, 1, (i-1)/32, i); string(b[:16]) != want {
			t.Fatalf("the record %d: %x, wanted %x", i, b[:16], want)
		}
		hear(t, &y, 5, b, "text")
	}
	// and by time: 64 ticks behind the key's first record, or the session's beginning
	x, y = meet(t, plain())
	for _, z := range []struct{ now, epoch int }{{5, 0}, {68, 0}, {69, 1}, {70, 1}, {132, 1}, {133, 2}, {1000, 3}, {1063, 3}, {1064, 4}} {
		b := say(t, &x, z.now, "text")
		if x.Epoch != z.epoch || string(b[:16]) != headOf(259, 1, z.epoch, x.Seq) {
			t.Fatalf("now %d: %x of %#v", z.now, b[:16], x)
		}
		hear(t, &y, z.now, b, "text")
	}
}

// What is 128 numbers late is too old, whether it was opened or not.
func TestWhatComesTooLate(t *testing.T) {
	x, y := meet(t, plain())
	var records [][]byte
	for range 200 {
		records = append(records, say(t, &x, 6, "text"))
	}
	hear(t, &y, 7, records[0], "text")
	hear(t, &y, 7, records[150], "text")
	for at := range 150 {
		if at <= 150-128 {
			deaf(t, y, 8, records[at], 23)
			continue
		}
		hear(t, &y, 8, records[at], "text")
		deaf(t, y, 8, records[at], 22)
	}
}

// A whole session: 4096 records, each opened once, and none behind them.
func TestAWholeSession(t *testing.T) {
	x, y := meet(t, plain())
	for i := range 4096 {
		b := say(t, &x, 6, made(i%40, byte(i)))
		hear(t, &y, 6, b, made(i%40, byte(i)))
		if i%128 == 0 {
			deaf(t, y, 6, b, 22)
		}
	}
	unsealed(t, x, 6, "text", 24)
	if x.Seq != 4096 || x.Epoch != 127 || y.Seen.Top != 4096 {
		t.Errorf("%#v and %#v", x, y)
	}
	hear(t, &x, 6, say(t, &y, 6, "it still hears"), "it still hears")
}

// No third one opens a record: neither one of another meeting, nor one that has that session's Id, too.
func TestThirdOnes(t *testing.T) {
	for _, m := range []meeting{plain(), great()} {
		x, y := meet(t, m)
		first := say(t, &x, 6, "first")
		hear(t, &y, 6, first, "first")
		second := say(t, &y, 6, "second")
		for _, near := range nearMeetings(m) {
			if near.second == 0 {
				continue
			}
			a, b := meet(t, near)
			for _, third := range []api.Session{a, b} {
				for _, z := range []struct {
					record []byte
					role   int
				}{{first, 1}, {second, 2}} {
					want := api.Errno(21)
					if third.Id != m.second || third.Role == z.role {
						want = 25
					}
					deaf(t, third, 6, z.record, want)
					third.Id, third.Role = m.second, 3-z.role
					deaf(t, third, 6, z.record, 21)
				}
			}
		}
		hear(t, &x, 6, second, "second")
	}
}

// One that was accepted by a hello that somebody repeats, with another second nonce, opens nothing of the first one.
func TestHellosThatAreRepeated(t *testing.T) {
	m := plain()
	x, y := meet(t, m)
	again, w := Accept(m.psk, m.greeting(), 300, m.answerer, 9)
	b := say(t, &x, 10, "text")
	deaf(t, again, 10, b, 25)
	again.Id = 259
	deaf(t, again, 10, b, 21)
	hear(t, &y, 10, b, "text")
	if s, e := Finish(m.psk, x, m.asker, w, 10); s != (api.Session{}) || e != 25 {
		t.Errorf("%#v %d", s, e)
	}
}

// Sealed texts are not to be seen in their records.
func TestTextsAreHidden(t *testing.T) {
	x, _ := meet(t, plain())
	text := strings.Repeat("keys and values ", 20)
	if b := say(t, &x, 6, text); bytes.Contains(b, []byte("keys")) || len(b) != 32+len(text) {
		t.Errorf("%s", short(b))
	}
}

func FuzzSession(f *testing.F) {
	f.Add(3, 1, uint64(101), 110, 7, 8, 109, 111, uint64(113), uint64(115), 12, "text")
	f.Add(2, 2, uint64(1), 4096, 65535, 32, -1, 0, uint64(0), uint64(0), 64, "")
	f.Add(1, 0, uint64(0), -1, -1, 0, 0, 1<<30+1, uint64(0), uint64(0), 0, "\x03")
	f.Fuzz(func(t *testing.T, state, role int, id uint64, seq, epoch, count, since, top int, low, high uint64, now int, text string) {
		s := api.Session{
			Id: id, Nonce: 102, Peer: otherEntry(), Role: role, State: state, Send: "send", Hear: "hear",
			Epoch: epoch, Count: count, Since: since, Seq: seq, Seen: api.Window{Top: top, Low: low, High: high}, Used: 116,
		}
		next, record, e := wantSeal(s, now, text)
		seal(t, s, now, text, next, record, e)
		want, got, f := wantOpen(s, now, text)
		open(t, s, now, text, want, got, f)
		if e == api.OK {
			h := hears(next)
			open(t, h, now, record, opened(h, now, api.Window{Top: next.Seq, Low: 1}), text, api.OK)
		}
		m := meeting{text, id, uint64(now), plainEntry(), otherEntry()}
		accept(t, m, hello.Hello{Nonce: id, Entry: plainEntry(), Tag: text}, now, wantAccept(m, now))
		s.Nonce = id
		g := wantRefusal(text, s, m.asker, m.welcome())
		if g == api.OK {
			finish(t, text, s, m.asker, m.welcome(), now, wantFinish(m, now), g)
		} else {
			finish(t, text, s, m.asker, m.welcome(), now, api.Session{}, g)
		}
	})
}
