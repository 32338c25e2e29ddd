package office

import (
	"crypto/hmac"
	"crypto/sha256"
	"encoding/binary"
	"encoding/hex"
	"fmt"
	"math"
	"regexp"
	"slices"
	"strings"
	"testing"

	"carcanet/api"
	"carcanet/chain"
	"carcanet/token"
)

// made answers a text of so many bytes without a plain order, the same ones for the same seed.
func made(length int, seed byte) string {
	b := make([]byte, length)
	state := uint32(seed)*2654435761 + 1
	for i := range b {
		state = state*1664525 + 1013904223
		b[i] = byte(state>>24) ^ seed
	}
	return string(b)
}

// seeds answers seeds of lengths at the edges of a block and of a sum.
func seeds() []string {
	list := []string{"", "s", "seed", "chain", "\x00", "\xff", "é", "seed\x00", "a b\n"}
	for _, many := range []int{31, 32, 33, 63, 64, 65, 66, 128, 1000, 65536} {
		list = append(list, strings.Repeat("\x00", many), made(many, byte(many)))
	}
	return list
}

// counts answers numbers at the edges of what an entry and a chain may have, of four and two bytes, and of their type.
func counts() []int {
	list := []int{math.MinInt, math.MinInt + 1, math.MaxInt - 1, math.MaxInt, 5, 1 << 29}
	for _, edge := range []int{0, 1 << 6, 1 << 8, 1 << 16, 1 << 30, 1 << 31, 1 << 32, 1 << 62} {
		for near := -2; near <= 2; near++ {
			list = append(list, edge+near, -edge+near)
		}
	}
	slices.Sort(list)
	return slices.Compact(list)
}

// names answers names at the edges of what one may be.
func names() []string {
	return []string{"a", "z", "ab", "a-", "a--", "z9-", "a0", "node-1", "node-2", "node", "chain", "abcdefghijklmno", "abcdefghijklmnop", "abcdefghijklmnoq"}
}

// others answers texts that are no names.
func others() []string {
	list := []string{"", "A", "0", "-", "-a", "1a", "aB", "a b", "a\n", " a", "a_", "a.", "a\x00", "\x00", "\x00a", "é", "aé", "\xff", "a`", "a{", "Node-1", "abcdefghijklmnopq"}
	for _, many := range []int{17, 32, 255, 256, 257, 65535, 65536, 65537} {
		list = append(list, strings.Repeat("a", many), made(many, byte(many)))
	}
	return list
}

// ids answers identifiers at the edges of their range, and in between.
func ids() []uint64 {
	return []uint64{0, 1, 255, 256, 258, 1<<32 - 1, 1 << 32, 1<<63 - 1, 1 << 63, 0x0102030405060708, math.MaxUint64 - 1, math.MaxUint64}
}

// show tells an entry shortly, whatever its texts.
func show(e api.Entry) string {
	return fmt.Sprintf("{%.20q %x %d %d %d %.4x (%d)}", e.Name, e.Id, e.From, e.Until, e.Index, e.Tag, len(e.Tag))
}

// showAll tells entries shortly.
func showAll(l []api.Entry) string {
	var b strings.Builder
	for _, e := range l {
		b.WriteString(show(e))
	}
	return b.String()
}

// unhex answers the text that hex digits are.
func unhex(t *testing.T, s string) string {
	t.Helper()
	b, e := hex.DecodeString(s)
	if e != nil {
		t.Fatal(e)
	}
	return string(b)
}

// wantKey answers a key of a chain, by the library's tag and sums.
func wantKey(seed string, length, index int) string {
	tag := hmac.New(sha256.New, []byte(seed))
	tag.Write([]byte("carcanet chain\x01"))
	key := string(tag.Sum(nil))
	for n := length; n > index; n-- {
		sum := sha256.Sum256([]byte("carcanet link" + key))
		key = string(sum[:])
	}
	return key
}

// wantSign answers an entry by that key, by the library's tag of the library's numbers.
func wantSign(key string, index int, e api.Entry) api.Entry {
	tag := hmac.New(sha256.New, []byte(key))
	head := binary.BigEndian.AppendUint16(nil, uint16(len(e.Name)))
	rest := binary.BigEndian.AppendUint64(nil, e.Id)
	rest = binary.BigEndian.AppendUint32(rest, uint32(e.From))
	rest = binary.BigEndian.AppendUint32(rest, uint32(e.Until))
	rest = binary.BigEndian.AppendUint16(rest, uint16(index))
	tag.Write(head)
	tag.Write([]byte(e.Name))
	tag.Write(rest)
	return api.Entry{Name: e.Name, Id: e.Id, From: e.From, Until: e.Until, Index: index, Tag: string(tag.Sum(nil))}
}

var nameForm = regexp.MustCompile(`\A[a-z][a-z0-9-]{0,15}\z`)

// A model is what an office has to be, by the chapter's words.
type model struct {
	seed          string
	length, index int
	issued        []api.Entry
	gone          []string
}

func (m *model) gate() api.Gate {
	return api.Gate{Index: m.index, Key: wantKey(m.seed, m.length, m.index)}
}

// A row is an error, and whether it applies.
type row struct {
	applies bool
	err     api.Errno
}

// first answers the first error of rows that applies.
func first(rows ...row) api.Errno {
	for _, x := range rows {
		if x.applies {
			return x.err
		}
	}
	return 0
}

func (m *model) issue(name string, id uint64, from, until int) (api.Entry, api.Errno) {
	const last = 1073741824
	err := first(
		row{!nameForm.MatchString(name), 30},
		row{slices.Contains(m.gone, name), 33},
		row{from < 0, 2},
		row{until < from, 2},
		row{from > last, 2},
		row{until > last, 2},
	)
	if err != 0 {
		return api.Entry{}, err
	}
	e := wantSign(m.gate().Key, m.index, api.Entry{Name: name, Id: id, From: from, Until: until})
	m.issued = append(m.issued, e)
	return e, 0
}

// names answers the names of which something was issued, in that order.
func (m *model) names() []string {
	var list []string
	for _, e := range m.issued {
		if !slices.Contains(list, e.Name) {
			list = append(list, e.Name)
		}
	}
	return list
}

// last answers the last entry of a name.
func (m *model) last(name string) api.Entry {
	for at := len(m.issued) - 1; at >= 0; at-- {
		if m.issued[at].Name == name {
			return m.issued[at]
		}
	}
	return api.Entry{}
}

func (m *model) advance() ([]api.Entry, api.Errno) {
	if m.index == m.length {
		return nil, 36
	}
	m.index++
	var list []api.Entry
	for _, name := range m.names() {
		if !slices.Contains(m.gone, name) {
			list = append(list, wantSign(m.gate().Key, m.index, m.last(name)))
		}
	}
	m.issued = append(m.issued, list...)
	return list, 0
}

func (m *model) revoke(name string) ([]api.Entry, api.Errno) {
	err := first(
		row{!slices.Contains(m.names(), name), 30},
		row{slices.Contains(m.gone, name), 33},
		row{m.index == m.length, 36},
	)
	if err != 0 {
		return nil, err
	}
	m.gone = append(m.gone, name)
	return m.advance()
}

// A pair is an office, and what it has to be: each call is done by both.
type pair struct {
	*testing.T
	o *Office
	m *model
}

// open answers an office that has nothing yet.
func open(t *testing.T, seed string, length int) pair {
	t.Helper()
	o, e := New(seed, length)
	if o == nil || e != api.OK {
		t.Fatalf("New of %.20q (%d), %d: %v, %d", seed, len(seed), length, o == nil, e)
	}
	p := pair{t, o, &model{seed: seed, length: length}}
	p.alike("New")
	return p
}

// alike asks whether all that an office has is what it has to be.
func (p pair) alike(behind string) {
	p.Helper()
	if got, want := p.o.Gate(), p.m.gate(); got != want {
		p.Errorf("behind %s: the gate is %d, %x, wanted %d, %x", behind, got.Index, got.Key, want.Index, want.Key)
	}
	if got := p.o.Issued(); !slices.Equal(got, p.m.issued) {
		p.Errorf("behind %s: issued was %s, wanted %s", behind, showAll(got), showAll(p.m.issued))
	}
}

func (p pair) issue(name string, id uint64, from, until int) api.Errno {
	p.Helper()
	got, e := p.o.Issue(name, id, from, until)
	want, wantErr := p.m.issue(name, id, from, until)
	what := fmt.Sprintf("Issue of %.20q (%d), %x, from %d until %d", name, len(name), id, from, until)
	if got != want || e != wantErr {
		p.Errorf("%s: %s, %d, wanted %s, %d", what, show(got), e, show(want), wantErr)
	}
	p.alike(what)
	return e
}

func (p pair) advance() api.Errno {
	p.Helper()
	got, e := p.o.Advance()
	want, wantErr := p.m.advance()
	if !slices.Equal(got, want) || e != wantErr {
		p.Errorf("Advance: %s, %d, wanted %s, %d", showAll(got), e, showAll(want), wantErr)
	}
	p.alike("Advance")
	return e
}

func (p pair) revoke(name string) api.Errno {
	p.Helper()
	got, e := p.o.Revoke(name)
	want, wantErr := p.m.revoke(name)
	what := fmt.Sprintf("Revoke of %.20q (%d)", name, len(name))
	if !slices.Equal(got, want) || e != wantErr {
		p.Errorf("%s: %s, %d, wanted %s, %d", what, showAll(got), e, showAll(want), wantErr)
	}
	p.alike(what)
	return e
}

// told asks whether an error is the one that was awaited.
func (p pair) told(got, want api.Errno) {
	p.Helper()
	if got != want {
		p.Errorf("%d, wanted %d", got, want)
	}
}

// P14.1

func TestNewByLengthsOfAllKinds(t *testing.T) {
	lengths := append(counts(), math.MinInt+64, 1<<32+3, -3, 33)
	for n := -70; n <= 200; n++ {
		lengths = append(lengths, n)
	}
	for _, seed := range []string{"", "seed", made(65, 1)} {
		for _, length := range lengths {
			o, e := New(seed, length)
			if 1 <= length && length <= 64 {
				if o == nil || e != api.OK || o.Gate() != (api.Gate{Index: 0, Key: wantKey(seed, length, 0)}) || len(o.Issued()) != 0 {
					t.Errorf("%q, %d: no office, or another one, %d", seed, length, e)
				}
			} else if o != nil || e != api.ErrArg {
				t.Errorf("%q, %d: an office, or %d", seed, length, e)
			}
		}
	}
}

// The keys were made by another program.
func TestGateOfKnownSeeds(t *testing.T) {
	for _, x := range []struct {
		seed          string
		length, index int
		want          string
	}{
		{"", 1, 0, "eafc7d27b96db1bdc1482ed1f85ee0731c1c6ca7ce4029f86ffff0590ab1df4d"},
		{"", 1, 1, "dc2ac31cf8908c3c8ca87f1c381813e2d8fbeb49297174cad71a358ddf16abdc"},
		{"seed", 3, 0, "d3b222256d407f02fb159e46bdd722ca52892ccc4b1b61cdb5b617a2e74a4cb4"},
		{"seed", 3, 1, "6c55c04ef815c2f32de9a4161d4898265a821304239420b186297447b47bca89"},
		{"seed", 3, 2, "7031d27a61b63127b67971e0af0433915b929149ea6bda097d88ad6a3d23002a"},
		{"seed", 3, 3, "45f832bad4ad865d65e7ed7846fd303abdd3ed66d57158eef0f6c81fc1fe43c6"},
		{"seed", 64, 0, "0540ba14b09c60395b3c313d369171b2b17a656d12c1874a98948ea981c7c1b2"},
		{"seed", 64, 1, "e1e24eee14fe37c24d04069892ca71c51446ce72534ecf830980afe12b3f1bfe"},
		{"seed", 64, 63, "7031d27a61b63127b67971e0af0433915b929149ea6bda097d88ad6a3d23002a"},
		{"seed", 64, 64, "45f832bad4ad865d65e7ed7846fd303abdd3ed66d57158eef0f6c81fc1fe43c6"},
		{strings.Repeat("s", 65), 2, 1, "1d059659c5ac27f5f5cec6c64f179332620c524538196185172e65f74fc08b82"},
		{strings.Repeat("\x00", 1000000), 2, 0, "2bd5977ad73dafbe70840427a41e9a822fa7fb880dbb547e6e5733af7df0db90"},
		{strings.Repeat("\x00", 1000000), 2, 2, "3949c864f6799fc7358eaef5d2052fdc8a80c58188463f48f1a55c7ea007f728"},
	} {
		o, e := New(x.seed, x.length)
		if e != api.OK {
			t.Fatal(e)
		}
		for range x.index {
			o.Advance()
		}
		if got := o.Gate(); got.Index != x.index || got.Key != unhex(t, x.want) {
			t.Errorf("%.20q, %d of %d: %d, %x, wanted %s", x.seed, x.index, x.length, got.Index, got.Key, x.want)
		}
	}
}

// Behind as many Advances as an office is long there are no more.
func TestGateBehindEachAdvance(t *testing.T) {
	for length := 1; length <= 64; length++ {
		p := open(t, "seed", length)
		gates := []api.Gate{p.o.Gate()}
		for range length {
			p.told(p.advance(), api.OK)
			young := p.o.Gate()
			for _, old := range gates {
				if !chain.Leads(young, old) || chain.Leads(old, young) {
					t.Errorf("of %d: %d does not lead to %d, or is led to", length, young.Index, old.Index)
				}
			}
			gates = append(gates, young)
		}
		for range 3 {
			p.told(p.advance(), api.ErrChain)
		}
		if got := p.o.Gate(); got != gates[length] || got.Index != length {
			t.Errorf("of %d: %d at last", length, got.Index)
		}
	}
	for _, seed := range append(seeds(), made(1<<20, 2)) {
		p := open(t, seed, 2)
		p.advance()
		p.advance()
		p.advance()
	}
}

func TestGateIsNotMovedByOtherCalls(t *testing.T) {
	p := open(t, "seed", 2)
	for range 2 {
		at := p.o.Gate()
		p.issue("a", 1, 0, 9)
		p.issue("A", 1, 0, 9)
		p.issue("a", 1, 9, 0)
		p.revoke("b")
		p.revoke("A")
		p.o.Issued()
		if got := p.o.Gate(); got != at {
			t.Errorf("%d becomes %d", at.Index, got.Index)
		}
		p.told(p.advance(), api.OK)
	}
}

// P14.2

// The tags were made by another program.
func TestIssueOfKnownEntries(t *testing.T) {
	plain := []api.Entry{
		{Name: "a", Id: 258, From: 1, Until: 2},
		{Name: "node-1", Id: 0x0102030405060708, From: 5, Until: 1000},
		{Name: "abcdefghijklmnop", Id: math.MaxUint64, From: 1 << 30, Until: 1 << 30},
		{Name: "a"},
	}
	tags := [][]string{
		{"70ba3d3eac837ef5460e67b075f18b9eeffaad0ae34013f4b9bfb822fbcfbfe6", "64851b2ff13187952619eaf03d4d667bfa03e7da41b5a88cb5a5d6b3a35b6f68", "20136a1a31542395d1c473839f331f215d5d2b84e6d554a5b6b7b8f3d5e810a6", "c5447180fcdb11a85b04f31fdab09a6d83facec8df036bc6b7ca24f496ad2b2f"},
		{"947f98c5297c33ee7a7b5fafe115ebca3dea423a8f83c54eebe6844affb442c9", "50e952c81e1481a11bbeadc004b179a6816a3b352d4369d4b853ac0a6dd3e3e1", "e7d96cbe93fb5a53fc8e218e6f869060bef7f20ac9f9a965fe7ef2377bdf5881", "9d7b10f7e94e05923534dafe117e05e74bca44b7bbc129a00e0ded17f785df59"},
		{"a5b5f9751ec4bd78ad6d36c8b1dcebf5ddebad455992bb589948c4d01297bfa5", "c47eb108991ce0b20bfc041bf8aeccbac96fe03bd72135c332b49d252f0becc6", "1151df396ab43d238f89d637919e79f6263a234c4e4aeba3b629b1d0fcc985c6", "e38a5f074528f04391b282d5ec7e81b2dcf023dd0dabdc0b3fef133187f06abc"},
		{"5a5e3d4c0039480344ca11ec0a2c3ede3c1d935e667d60baac8b86565e382d69", "b60027072f02be06d3cde9bc031c61dcfb6c2a618d3bebccd1003564ad2926a2", "cc325343e31a6539a4e3ef4e9728ed8bb3cc428dd4a6ec8faa60083be05dd904", "14a15edcf457856eb1da3d61da7f914cbf9b695b39b3d0bcb83b6da6d8107d10"},
	}
	o, _ := New("seed", 3)
	for index, row := range tags {
		for at, e := range plain {
			want := e
			want.Index, want.Tag = index, unhex(t, row[at])
			if got, f := o.Issue(e.Name, e.Id, e.From, e.Until); got != want || f != api.OK {
				t.Errorf("%s by %d: %s, %d, wanted %s", show(e), index, show(got), f, row[at])
			}
		}
		// Of a, what was issued last is issued anew.
		list, f := o.Advance()
		if index == 3 {
			if len(list) != 0 || f != api.ErrChain {
				t.Errorf("%s, %d", showAll(list), f)
			}
			continue
		}
		for at, from := range []int{3, 1, 2} {
			want := plain[from]
			want.Index, want.Tag = index+1, unhex(t, tags[index+1][from])
			if f != api.OK || len(list) != 3 || list[at] != want {
				t.Fatalf("Advance to %d: %s, %d", index+1, showAll(list), f)
			}
		}
	}
}

func TestIssueOfNamesOfAllKinds(t *testing.T) {
	p := open(t, "seed", 2)
	for _, name := range names() {
		p.told(p.issue(name, 7, 3, 5), api.OK)
	}
	for _, name := range others() {
		p.told(p.issue(name, 7, 3, 5), api.ErrName)
	}
	p.advance()
	for _, name := range others() {
		p.told(p.issue(name, 7, 3, 5), api.ErrName)
	}
}

// What an office gives an identifier to, it does not ask.
func TestIssueOfAllIds(t *testing.T) {
	p := open(t, "seed", 1)
	for _, id := range ids() {
		for _, name := range []string{"a", "b"} {
			p.told(p.issue(name, id, 0, 1<<30), api.OK)
		}
	}
}

func TestIssueOfAllTimes(t *testing.T) {
	for _, from := range counts() {
		p := open(t, "seed", 1)
		until := counts()
		for near := -2; near <= 2; near++ {
			if from > math.MinInt+2 && from < math.MaxInt-2 {
				until = append(until, from+near)
			}
		}
		for _, n := range until {
			p.issue("a", 7, from, n)
		}
	}
}

func TestIssueOfTimesAtTheEdges(t *testing.T) {
	const last = 1 << 30
	for _, x := range []struct {
		from, until int
		want        api.Errno
	}{
		{0, 0, 0}, {0, 1, 0}, {1, 1, 0}, {5, 5, 0}, {0, last - 1, 0}, {0, last, 0}, {last - 1, last - 1, 0}, {last - 1, last, 0}, {last, last, 0},
		{-1, 0, 2}, {-1, -1, 2}, {-1, -2, 2}, {-1, last, 2}, {0, -1, 2}, {1, 0, 2}, {5, 4, 2}, {5, -5, 2}, {last, last - 1, 2}, {last, 0, 2},
		{0, last + 1, 2}, {last, last + 1, 2}, {last + 1, last + 1, 2}, {last + 1, last, 2}, {last + 1, last + 2, 2},
		{math.MinInt, 0, 2}, {math.MinInt, math.MinInt, 2}, {math.MinInt, math.MaxInt, 2}, {0, math.MinInt, 2}, {0, math.MaxInt, 2}, {math.MaxInt, 0, 2},
		{math.MaxInt, math.MaxInt, 2}, {math.MaxInt, math.MinInt, 2}, {5, math.MinInt, 2}, {5, math.MaxInt, 2}, {1 << 32, 1<<32 + 5, 2}, {0, 1<<32 + 5, 2}, {-1 << 32, 5, 2},
	} {
		p := open(t, "seed", 1)
		p.told(p.issue("a", 7, x.from, x.until), x.want)
	}
}

func TestIssueOfOneNameMoreThanOnce(t *testing.T) {
	p := open(t, "seed", 3)
	for range 3 {
		p.told(p.issue("a", 7, 3, 5), api.OK)
		p.told(p.issue("a", 7, 3, 5), api.OK)
		p.told(p.issue("a", 8, 3, 5), api.OK)
		p.told(p.issue("b", 8, 3, 5), api.OK)
		p.told(p.issue("a", 7, 4, 5), api.OK)
		p.told(p.issue("a", 7, 4, 6), api.OK)
		p.told(p.issue("a", 0, 0, 0), api.OK)
		p.advance()
	}
}

func TestIssueOfNamesThatWereRevoked(t *testing.T) {
	p := open(t, "seed", 4)
	for _, name := range []string{"a", "b", "ab"} {
		p.issue(name, 7, 3, 5)
	}
	p.told(p.revoke("a"), api.OK)
	p.told(p.issue("a", 7, 3, 5), api.ErrRevoked)
	p.told(p.issue("a", 8, 0, 1), api.ErrRevoked)
	p.told(p.issue("b", 7, 3, 5), api.OK)
	p.told(p.issue("ab", 7, 3, 5), api.OK)
	p.told(p.issue("a-", 7, 3, 5), api.OK)
	p.told(p.revoke("ab"), api.OK)
	for range 3 {
		p.told(p.issue("a", 7, 3, 5), api.ErrRevoked)
		p.told(p.issue("ab", 7, 3, 5), api.ErrRevoked)
		p.told(p.issue("b", 9, 3, 5), api.OK)
		p.advance()
	}
}

// Of several errors the one that the chapter names first is told.
func TestIssueOfSeveralFaultsAtOnce(t *testing.T) {
	p := open(t, "seed", 1)
	p.issue("a", 7, 3, 5)
	p.issue("b", 7, 3, 5)
	p.revoke("a")
	for _, x := range [][2]int{{3, 5}, {-1, 5}, {5, 4}, {0, 1<<30 + 1}, {-1, -2}, {math.MaxInt, math.MinInt}, {math.MinInt, math.MaxInt}} {
		late := api.ErrArg
		if x == [2]int{3, 5} {
			late = api.OK
		}
		for _, name := range []string{"", "A", "a b", "-a", "abcdefghijklmnopq"} {
			p.told(p.issue(name, 7, x[0], x[1]), api.ErrName)
		}
		p.told(p.issue("a", 7, x[0], x[1]), api.ErrRevoked)
		p.told(p.issue("b", 7, x[0], x[1]), late)
		p.told(p.issue("c", 7, x[0], x[1]), late)
	}
}

// P14.3

func TestAdvanceWhereNothingIsToBeIssued(t *testing.T) {
	p := open(t, "seed", 5)
	p.told(p.advance(), api.OK)
	p.told(p.issue("a", 1, 3, 2), api.ErrArg)
	p.told(p.advance(), api.OK)
	p.issue("a", 1, 2, 3)
	p.told(p.revoke("a"), api.OK)
	p.told(p.advance(), api.OK)
	p.told(p.issue("a", 1, 2, 3), api.ErrRevoked)
	p.told(p.advance(), api.OK)
	p.told(p.advance(), api.ErrChain)
	if got := p.o.Issued(); len(got) != 1 {
		t.Errorf("%s", showAll(got))
	}
}

// Names keep the places at which they were issued first, whatever is issued of them behind.
func TestAdvanceKeepsTheOrderOfNames(t *testing.T) {
	p := open(t, "seed", 6)
	for _, name := range []string{"c", "a", "d", "b", "a", "c", "b", "d", "d"} {
		p.issue(name, 7, 3, 5)
	}
	order := func(want ...string) {
		t.Helper()
		list, e := p.o.Advance()
		p.m.advance()
		var got []string
		for _, e := range list {
			got = append(got, e.Name)
		}
		if !slices.Equal(got, want) || e != api.OK {
			t.Errorf("%v, %d, wanted %v", got, e, want)
		}
		p.alike("Advance")
	}
	order("c", "a", "d", "b")
	p.issue("e", 7, 3, 5)
	p.issue("c", 9, 3, 5)
	order("c", "a", "d", "b", "e")
	p.revoke("c")
	order("a", "d", "b", "e")
	p.revoke("b")
	p.issue("0", 7, 3, 5)
	p.issue("aa", 7, 3, 5)
	p.issue("a", 7, 3, 5)
	order("a", "d", "e", "aa")
}

// What is issued anew is what was issued last, with the next key, and nothing else of it changes.
func TestAdvanceIssuesTheLastEntries(t *testing.T) {
	p := open(t, "seed", 4)
	p.issue("a", 1, 0, 9)
	p.issue("b", 2, 0, 9)
	p.issue("a", 3, 1, 8)
	p.issue("a", 1<<63, 5, 1<<30)
	for index := 1; index <= 3; index++ {
		p.advance()
		all := p.o.Issued()
		a, b := all[len(all)-2], all[len(all)-1]
		if a.Id != 1<<63 || a.From != 5 || a.Until != 1<<30 || a.Index != index || b.Name != "b" || b.Id != 2 || b.Index != index {
			t.Errorf("%d: %s, %s", index, show(a), show(b))
		}
	}
	p.issue("b", 0, 0, 0)
	p.advance()
	all := p.o.Issued()
	if b := all[len(all)-1]; b.Name != "b" || b.Id != 0 || b.Until != 0 || b.Index != 4 {
		t.Errorf("%s", show(b))
	}
	p.told(p.advance(), api.ErrChain)
}

func TestAdvanceAtTheLength(t *testing.T) {
	for _, length := range []int{1, 2, 63, 64} {
		p := open(t, "seed", length)
		p.issue("a", 1, 2, 3)
		p.issue("b", 2, 2, 3)
		for range length {
			p.told(p.advance(), api.OK)
		}
		for range 3 {
			p.told(p.advance(), api.ErrChain)
			p.told(p.revoke("a"), api.ErrChain)
			p.told(p.revoke("c"), api.ErrName)
			p.told(p.issue("a", 1, 2, 3), api.OK)
		}
	}
}

func TestRevoke(t *testing.T) {
	p := open(t, "seed", 5)
	p.told(p.revoke("a"), api.ErrName)
	for _, name := range others() {
		p.told(p.revoke(name), api.ErrName)
	}
	p.issue("a", 1, 9, 3)
	p.told(p.revoke("a"), api.ErrName)
	p.issue("a", 1, 2, 3)
	p.issue("ab", 2, 2, 3)
	p.issue("c", 3, 2, 3)
	p.issue("ab", 4, 2, 3)
	for _, name := range append(others(), "b", "d", "a-", "abc", "ca", "c-") {
		p.told(p.revoke(name), api.ErrName)
	}
	p.told(p.revoke("ab"), api.OK)
	p.told(p.revoke("ab"), api.ErrRevoked)
	p.told(p.revoke("a"), api.OK)
	p.told(p.revoke("ab"), api.ErrRevoked)
	p.told(p.revoke("a"), api.ErrRevoked)
	p.told(p.revoke("b"), api.ErrName)
	p.told(p.revoke("c"), api.OK)
	for _, name := range []string{"a", "ab", "c"} {
		p.told(p.revoke(name), api.ErrRevoked)
	}
	p.told(p.issue("d", 5, 2, 3), api.OK)
	p.told(p.revoke("d"), api.OK)
	p.told(p.advance(), api.OK)
}

// Of several errors the one that the chapter names first is told, and at the length nothing is revoked.
func TestRevokeAtTheLength(t *testing.T) {
	for _, length := range []int{1, 2, 64} {
		p := open(t, "seed", length)
		p.issue("a", 1, 2, 3)
		p.issue("b", 2, 2, 3)
		p.issue("c", 3, 2, 3)
		for p.m.index < length-1 {
			p.advance()
		}
		p.told(p.revoke("a"), api.OK)
		for range 2 {
			for _, name := range []string{"", "A", "d", "ab"} {
				p.told(p.revoke(name), api.ErrName)
			}
			p.told(p.revoke("a"), api.ErrRevoked)
			p.told(p.revoke("b"), api.ErrChain)
			p.told(p.issue("a", 1, 2, 3), api.ErrRevoked)
			p.told(p.issue("b", 1, 2, 3), api.OK)
		}
	}
}

// As many names are revoked as there are keys ahead, each one at any place.
func TestRevokeOfAsManyNamesAsThereAreKeys(t *testing.T) {
	p := open(t, "seed", 64)
	for n := range 66 {
		p.issue(fmt.Sprintf("n%d", n), uint64(n), n, 1000)
	}
	for n := range 64 {
		p.told(p.revoke(fmt.Sprintf("n%d", n*37%66)), api.OK)
	}
	for n := range 66 {
		want := api.ErrRevoked
		if !slices.Contains(p.m.gone, fmt.Sprintf("n%d", n)) {
			want = api.ErrChain
		}
		p.told(p.revoke(fmt.Sprintf("n%d", n)), want)
	}
}

// P14.4

func TestIssuedOfVeryManyNames(t *testing.T) {
	o, _ := New("seed", 2)
	var want []api.Entry
	name := func(n int) string { return fmt.Sprintf("n-%d", n*7919%5000) }
	for index := range 3 {
		key := wantKey("seed", 2, index)
		for n := range 5000 {
			want = append(want, wantSign(key, index, api.Entry{Name: name(n), Id: uint64(n), From: n, Until: n + 9}))
		}
		if index == 0 {
			for n := range 5000 {
				o.Issue(name(n), uint64(n), n, n+9)
			}
		} else if list, e := o.Advance(); e != api.OK || !slices.Equal(list, want[5000*index:]) {
			t.Errorf("Advance to %d: %d entries, %d", index, len(list), e)
		}
	}
	if got := o.Issued(); !slices.Equal(got, want) {
		t.Errorf("%d entries", len(got))
	}
}

// kinds answers calls of all kinds, few enough that all rows of them can be asked.
func kinds() []func(p pair) {
	return []func(p pair){
		func(p pair) { p.issue("a", 1, 0, 9) },
		func(p pair) { p.issue("a", 2, 5, 7) },
		func(p pair) { p.issue("b", 1, 3, 3) },
		func(p pair) { p.issue("a", 1, 9, 0) },
		func(p pair) { p.advance() },
		func(p pair) { p.revoke("a") },
		func(p pair) { p.revoke("b") },
	}
}

// Whatever the calls and their order, an office is what it has to be behind each of them.
func TestCallsInAnyOrder(t *testing.T) {
	const calls = 5
	list := kinds()
	rows := int(math.Pow(float64(len(list)), calls))
	for length := 1; length <= 2; length++ {
		for row := range rows {
			p := open(t, "seed", length)
			for at, n := 0, row; at < calls; at, n = at+1, n/len(list) {
				list[n%len(list)](p)
			}
			if t.Failed() {
				t.Fatalf("of %d: row %d", length, row)
			}
		}
	}
}

// drive does a call that a byte tells.
func drive(p pair, b byte) {
	p.Helper()
	name := []string{"a", "b", "c", "d", "ab", "node-1", "A", ""}[b>>2&7]
	from := []int{0, 1, 5, -1}[int(b>>5)%4]
	switch b & 3 {
	case 0, 1:
		p.issue(name, uint64(b>>4), from, []int{9, 5, 1 << 30, 1<<30 + 1}[int(b>>6)])
	case 2:
		p.revoke(name)
	default:
		if b>>2&1 == 0 {
			p.advance()
		} else {
			p.issue(name, math.MaxUint64, 1<<30, 1<<30)
		}
	}
}

func TestManyCalls(t *testing.T) {
	for n := range 100 {
		p := open(t, made(n, 3), n%64+1)
		for _, b := range []byte(made(60, byte(n))) {
			drive(p, b)
		}
		follows(t, p.o, p.m.gone)
		if t.Failed() {
			t.Fatalf("row %d", n)
		}
	}
}

// scrawl writes over a list, and over the room behind it.
func scrawl(l []api.Entry) {
	l = l[:cap(l)]
	for at := range l {
		l[at] = api.Entry{Name: "scrawl", Id: 99, From: -9, Until: -9, Index: -9, Tag: "scrawl"}
	}
}

// What is handed out is new memory: who writes there changes nothing of the office, nor of what else was handed out.
func TestWhatIsHandedOutIsNotShared(t *testing.T) {
	for _, before := range []int{0, 1, 2, 3, 4, 5, 7, 8, 9, 15, 16, 17, 31, 32, 33} {
		p := open(t, "seed", 4)
		for n := range before {
			p.issue([]string{"a", "b", "c"}[n%3], uint64(n), n, 99)
		}
		first, second := p.o.Issued(), p.o.Issued()
		scrawl(first)
		if !slices.Equal(second, p.m.issued) {
			t.Errorf("behind %d: two of Issued share", before)
		}
		p.alike("Issued")
		for _, call := range []func() ([]api.Entry, api.Errno){p.o.Advance, func() ([]api.Entry, api.Errno) { return p.o.Revoke("a") }, p.o.Advance} {
			all := p.o.Issued()
			got, e := call()
			kept := slices.Clone(got)
			behind := p.o.Issued()
			scrawl(all)
			if !slices.Equal(got, kept) || !slices.Equal(p.o.Issued(), behind) {
				t.Errorf("behind %d: Issued shares with what was handed out later, or with the office", before)
			}
			scrawl(got)
			if !slices.Equal(p.o.Issued(), behind) {
				t.Errorf("behind %d, %d: what was issued anew shares with the office", before, e)
			}
		}
	}
}

// And what an office does later changes nothing of what it handed out, nor of the room behind it.
func TestWhatIsHandedOutStays(t *testing.T) {
	for before := range 20 {
		p := open(t, "seed", 9)
		for n := range before {
			p.issue([]string{"a", "b", "c"}[n%3], uint64(n), n, 99)
		}
		anew, _ := p.o.Advance()
		rest, _ := p.o.Revoke("a")
		lists := [][]api.Entry{anew, rest, p.o.Issued()}
		var kept [][]api.Entry
		for _, l := range lists {
			scrawl(l[len(l):cap(l)])
			kept = append(kept, slices.Clone(l[:cap(l)]))
		}
		for n := range 40 {
			p.o.Issue("b", uint64(n), n, 99)
		}
		p.o.Advance()
		p.o.Revoke("b")
		for at, l := range lists {
			if !slices.Equal(l[:cap(l)], kept[at]) {
				t.Errorf("behind %d: list %d is changed", before, at)
			}
		}
	}
}

// wantInjective answers Injective, pair by pair.
func wantInjective(l []api.Entry) bool {
	for _, a := range l {
		for _, b := range l {
			if a.Name != b.Name && a.Id == b.Id {
				return false
			}
		}
	}
	return true
}

func TestInjectiveOfKnownLists(t *testing.T) {
	e := func(name string, id uint64) api.Entry { return api.Entry{Name: name, Id: id} }
	full := func(name string, id uint64, n int) api.Entry {
		return api.Entry{Name: name, Id: id, From: n, Until: -n, Index: n, Tag: made(n, 4)}
	}
	long := strings.Repeat("a", 65536)
	for i, x := range []struct {
		l    []api.Entry
		want bool
	}{
		{nil, true}, {[]api.Entry{}, true}, {[]api.Entry{{}}, true}, {[]api.Entry{{}, {}}, true}, {[]api.Entry{e("a", 1)}, true}, {[]api.Entry{e("a", math.MaxUint64)}, true},
		{[]api.Entry{e("a", 1), e("a", 1)}, true}, {[]api.Entry{e("a", 1), e("b", 1)}, false}, {[]api.Entry{e("a", 1), e("b", 2)}, true}, {[]api.Entry{e("a", 1), e("a", 2)}, true},
		{[]api.Entry{full("a", 1, 1), full("a", 1, 2)}, true}, {[]api.Entry{full("a", 1, 1), full("b", 1, 1)}, false}, {[]api.Entry{full("a", 1, 5), full("b", 1, 6)}, false},
		{[]api.Entry{e("a", 1), e("c", 3), e("b", 1)}, false}, {[]api.Entry{e("a", 1), e("a", 1), e("b", 1)}, false}, {[]api.Entry{e("a", 1), e("b", 1), e("a", 1)}, false},
		{[]api.Entry{e("a", 1), e("b", 1), e("b", 1)}, false}, {[]api.Entry{e("a", 1), e("a", 2), e("b", 1)}, false}, {[]api.Entry{e("a", 1), e("a", 2), e("b", 2)}, false},
		{[]api.Entry{e("b", 2), e("a", 1), e("a", 2)}, false}, {[]api.Entry{e("a", 1), e("b", 2), e("a", 3), e("b", 4), e("a", 1), e("b", 2)}, true},
		{[]api.Entry{e("", 1), e("a", 1)}, false}, {[]api.Entry{e("a", 1), e("", 1)}, false}, {[]api.Entry{e("", 0), e("a", 0)}, false}, {[]api.Entry{e("", 0), e("", 0)}, true}, {[]api.Entry{{}, e("a", 0)}, false},
		{[]api.Entry{e("A", 1), e("a", 1)}, false}, {[]api.Entry{e("a", 1), e("a ", 1)}, false}, {[]api.Entry{e("a", 1), e("a\x00", 1)}, false}, {[]api.Entry{e("\xff", 1), e("\xfe", 1)}, false},
		{[]api.Entry{e("é", 1), e("é", 1)}, true}, {[]api.Entry{e("No name!", 1), e("No name!", 1)}, true}, {[]api.Entry{e(long, 1), e(long+"a", 1)}, false}, {[]api.Entry{e(long, 1), e(long, 1)}, true},
		{[]api.Entry{e("a", 1<<32+1), e("b", 1)}, true}, {[]api.Entry{e("a", 1<<63), e("b", 0)}, true}, {[]api.Entry{e("a", math.MaxUint64), e("b", math.MaxUint64)}, false}, {[]api.Entry{e("a", math.MaxUint64), e("b", math.MaxUint64-1)}, true},
	} {
		if got := Injective(x.l); got != x.want || got != wantInjective(x.l) {
			t.Errorf("%d: %s: %t", i, showAll(x.l), got)
		}
	}
}

// All lists of at most five entries of three Names and three Ids.
func TestInjectiveOfAllShortLists(t *testing.T) {
	many := 1
	for length := range 6 {
		for row := range many {
			var l []api.Entry
			for n, at := row, 0; at < length; n, at = n/9, at+1 {
				l = append(l, api.Entry{Name: []string{"a", "b", ""}[n%3], Id: uint64(n / 3 % 3), Index: at})
			}
			if got := Injective(l); got != wantInjective(l) {
				t.Fatalf("%s: %t", showAll(l), got)
			}
		}
		many *= 9
	}
}

func TestInjectiveOfLongLists(t *testing.T) {
	var l []api.Entry
	for n := range 20000 {
		l = append(l, api.Entry{Name: fmt.Sprintf("n%d", n%9000), Id: uint64(n%9000) << 40})
	}
	if !Injective(l) {
		t.Error("each name has an identifier of its own")
	}
	for _, at := range []int{0, 1, 8999, 9000, 19998, 19999} {
		for _, change := range []func(e *api.Entry){func(e *api.Entry) { e.Name = "other" }, func(e *api.Entry) { e.Id = 4444 << 40 }} {
			other := slices.Clone(l)
			change(&other[at])
			if Injective(other) {
				t.Errorf("at %d: two names of one identifier", at)
			}
		}
	}
}

func TestInjectiveLeavesTheListAsItWas(t *testing.T) {
	for _, id := range []uint64{1, 2} {
		l := []api.Entry{{Name: "b", Id: 2}, {Name: "a", Id: 1}, {Name: "b", Id: id}, {Name: "c", Id: 2}, {Name: "d", Id: 1}}
		kept := slices.Clone(l)
		for length := range len(l) + 1 {
			if got := Injective(l[:length]); got != wantInjective(kept[:length]) {
				t.Errorf("%d: the room behind the list counts", length)
			}
		}
		if !slices.Equal(l, kept) {
			t.Errorf("%s", showAll(l))
		}
	}
}

// P14.5

// follows asks of an office all that the chapter says follows.
func follows(t *testing.T, o *Office, gone []string) {
	t.Helper()
	g := o.Gate()
	for _, e := range o.Issued() {
		for _, now := range []int{math.MinInt, -1, 0, e.From - 1, e.From, e.From + (e.Until-e.From)/2, e.Until, e.Until + 1, math.MaxInt} {
			want := api.OK
			if now < e.From || now > e.Until {
				want = api.ErrExpired
			}
			if e.Index < g.Index {
				want = api.ErrRevoked
			}
			got := token.Valid(g, e, now)
			if got != want {
				t.Errorf("%s by %d at %d: %d, wanted %d", show(e), g.Index, now, got, want)
			}
			if got == api.OK && slices.Contains(gone, e.Name) {
				t.Errorf("%s holds, and was revoked", show(e))
			}
		}
	}
}

func TestWhatIsIssuedHoldsTillTheIndexIsMore(t *testing.T) {
	for _, length := range []int{1, 2, 3, 64} {
		p := open(t, "seed", length)
		for n, x := range [][2]int{{0, 0}, {0, 1}, {1, 1}, {5, 9}, {0, 1 << 30}, {1<<30 - 1, 1 << 30}, {1 << 30, 1 << 30}} {
			p.issue(names()[n], uint64(n), x[0], x[1])
		}
		for range length {
			follows(t, p.o, nil)
			holds := p.o.Issued()
			g := p.o.Gate()
			p.told(p.advance(), api.OK)
			for _, e := range holds {
				if got := token.Valid(p.o.Gate(), e, e.From); got != api.ErrRevoked {
					t.Errorf("%s, behind Advance: %d", show(e), got)
				}
			}
			for _, e := range p.o.Issued()[len(holds):] {
				if token.Valid(p.o.Gate(), e, e.From) != api.OK || token.Valid(g, e, e.From) != api.ErrFuture {
					t.Errorf("%s does not hold, or holds ahead", show(e))
				}
			}
		}
		follows(t, p.o, nil)
	}
}

func TestOfNamesThatWereRevokedNothingHolds(t *testing.T) {
	p := open(t, "seed", 64)
	for n, name := range names() {
		p.issue(name, uint64(n), n, n+9)
	}
	for at, name := range names() {
		follows(t, p.o, names()[:at])
		p.told(p.revoke(name), api.OK)
		p.told(p.issue(name, 1, 0, 1<<30), api.ErrRevoked)
		follows(t, p.o, names()[:at+1])
	}
	for p.advance() == api.OK {
		follows(t, p.o, names())
	}
}

// What another office issued holds at none but its own, if its seed or its length is another one.
func TestOfficesApart(t *testing.T) {
	var all []pair
	for _, seed := range []string{"seed", "other", ""} {
		for _, length := range []int{1, 2, 64} {
			p := open(t, seed, length)
			p.issue("a", 7, 0, 9)
			all = append(all, p)
		}
	}
	for i, by := range all {
		for j, of := range all {
			want := api.ErrMac
			if i == j {
				want = api.OK
			}
			if got := token.Valid(by.o.Gate(), of.o.Issued()[0], 5); got != want {
				t.Errorf("%d at the gate of %d: %d", j, i, got)
			}
		}
	}
}

// Rules 1, 4 and 5.

func TestOfficesThatAreNil(t *testing.T) {
	var o *Office
	for _, name := range append(others(), "a", "node-1") {
		for _, x := range [][2]int{{0, 9}, {-1, 9}, {9, 0}, {math.MinInt, math.MaxInt}} {
			if e, f := o.Issue(name, 7, x[0], x[1]); e != (api.Entry{}) || f != api.ErrNil {
				t.Errorf("Issue: %s, %d", show(e), f)
			}
		}
		if l, f := o.Revoke(name); len(l) != 0 || f != api.ErrNil {
			t.Errorf("Revoke: %s, %d", showAll(l), f)
		}
		if l, f := o.Advance(); len(l) != 0 || f != api.ErrNil {
			t.Errorf("Advance: %s, %d", showAll(l), f)
		}
		if g, l := o.Gate(), o.Issued(); g != (api.Gate{}) || len(l) != 0 {
			t.Errorf("%d, %x, %s", g.Index, g.Key, showAll(l))
		}
	}
}

// An office that New did not make has no chain: no call panics, and it goes nowhere.
func TestOfficesThatNewDidNotMake(t *testing.T) {
	o := &Office{}
	if g := o.Gate(); g != (api.Gate{}) || len(o.Issued()) != 0 {
		t.Errorf("%d, %x", g.Index, g.Key)
	}
	if l, e := o.Advance(); len(l) != 0 || e != api.ErrChain {
		t.Errorf("%s, %d", showAll(l), e)
	}
	if l, e := o.Revoke("a"); len(l) != 0 || e != api.ErrName {
		t.Errorf("%s, %d", showAll(l), e)
	}
	o.Issue("a", 7, 0, 9)
	if l, e := o.Revoke("a"); len(l) != 0 || e != api.ErrChain {
		t.Errorf("%s, %d", showAll(l), e)
	}
}

// Each office has what it was told alone, and two that are told the same are the same.
func TestNothingIsKeptBeside(t *testing.T) {
	one, other, quiet := open(t, "seed", 9), open(t, "seed", 9), open(t, "seed", 9)
	for n := range 9 {
		one.issue("a", uint64(n), 0, 9)
		other.issue("b", uint64(n), 0, 9)
		one.advance()
		if n%2 == 0 {
			other.revoke("b")
			other.issue("c", 1, 0, 9)
		}
		quiet.alike("calls of others")
		other.alike("calls of others")
		one.alike("calls of others")
	}
	again := open(t, "seed", 9)
	for n := range 9 {
		again.issue("a", uint64(n), 0, 9)
		again.advance()
	}
	if again.o.Gate() != one.o.Gate() || !slices.Equal(again.o.Issued(), one.o.Issued()) {
		t.Error("the same calls, and another office")
	}
}

// The bytes that texts were made of, when they were handed in, do not count behind that.
func TestWhatIsHandedInIsNotKept(t *testing.T) {
	seed, name := []byte("seed"), []byte("node-1")
	o, _ := New(string(seed), 3)
	p := pair{t, o, &model{seed: "seed", length: 3}}
	got, _ := p.o.Issue(string(name), 7, 3, 5)
	want, _ := p.m.issue("node-1", 7, 3, 5)
	clear(seed)
	clear(name)
	if got != want {
		t.Errorf("%s, wanted %s", show(got), show(want))
	}
	p.alike("Issue")
	p.told(p.revoke("node-1"), api.OK)
}

func FuzzWhatFollows(f *testing.F) {
	f.Add("seed", 3, []byte{0, 3, 2, 4, 6}, "a", uint64(7), 3, 5)
	f.Add("", 1, []byte{}, "node-1", uint64(math.MaxUint64), 0, 1<<30)
	f.Add(made(65, 5), 64, []byte(made(40, 6)), "A", uint64(0), -1, math.MaxInt)
	f.Add("s", 0, []byte{1}, "", uint64(1), math.MinInt, math.MinInt)
	f.Add("s", math.MinInt, []byte{1}, "abcdefghijklmnopq", uint64(1), 1<<30+1, 1<<30+1)
	f.Add("s", 2, []byte{0, 0, 4, 2, 3, 3, 2}, "ab", uint64(1), 1<<30, 1<<30)
	f.Fuzz(func(t *testing.T, seed string, length int, told []byte, name string, id uint64, from, until int) {
		if o, e := New(seed, length); (e == api.OK) != (1 <= length && length <= 64) || (o == nil) != (e == api.ErrArg) {
			t.Errorf("%d: %d", length, e)
		}
		p := open(t, seed, length&63+1)
		for _, b := range told[:min(len(told), 60)] {
			drive(p, b)
		}
		p.issue(name, id, from, until)
		p.issue(name, id, from&0xffff, from&0xffff+until&0xffff)
		p.revoke(name)
		p.issue(name, id, from, until)
		p.advance()
		follows(t, p.o, p.m.gone)
		all := p.o.Issued()
		if got := Injective(all); got != wantInjective(all) {
			t.Errorf("%s: %t", showAll(all), got)
		}
	})
}
