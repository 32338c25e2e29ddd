package gate

import (
	"crypto/hmac"
	"crypto/sha256"
	"encoding/binary"
	"encoding/hex"
	"fmt"
	"math"
	"math/big"
	"regexp"
	"slices"
	"strings"
	"testing"

	"carcanet/api"
)

// made answers a text of so many bytes without a plain order, the same ones for the same seed.
func made(length int, seed byte) string {
	b := make([]byte, length)
	state := uint32(seed)*2654435761 + 1
	for i := range b {
		state = state*1664525 + 1013904223
		b[i] = byte(state>>24) ^ seed
	}
	return string(b)
}

// turned answers the text of which this bit is another one.
func turned(s string, bit int) string {
	b := []byte(s)
	b[bit/8] ^= 1 << (bit % 8)
	return string(b)
}

// unhex answers the text that hex digits are.
func unhex(t *testing.T, s string) string {
	t.Helper()
	b, e := hex.DecodeString(s)
	if e != nil {
		t.Fatal(e)
	}
	return string(b)
}

// keys answers keys of lengths at the edges of a key of a chain, of a block, and of very many bytes.
func keys() []string {
	list := []string{"", "x", "key", "key ", "kez", "\x00\x01", "\xff", "é"}
	for _, many := range []int{16, 31, 32, 33, 34, 63, 64, 65, 66, 128, 1000, 65536} {
		list = append(list, strings.Repeat("\xff", many), made(many, byte(many)))
	}
	return list
}

// counts answers numbers at the edges of what an entry and a chain may have, of four and two bytes, and of their type.
func counts() []int {
	list := []int{math.MinInt, math.MinInt + 1, math.MaxInt - 1, math.MaxInt, 3, 4, 5, 6, 999, 1000, 1001, 1<<16 + 3, 1<<32 + 3}
	for _, edge := range []int{0, 1 << 6, 1 << 8, 1 << 16, 1 << 30, 1 << 31, 1 << 32, 1 << 62} {
		for near := -2; near <= 2; near++ {
			list = append(list, edge+near, -edge+near)
		}
	}
	slices.Sort(list)
	return slices.Compact(list)
}

// near answers numbers about that one which are in the range of their type.
func near(n int) []int {
	list := []int{n}
	for step := 1; step <= 2; step++ {
		if n <= math.MaxInt-step {
			list = append(list, n+step)
		}
		if n >= math.MinInt+step {
			list = append(list, n-step)
		}
	}
	return list
}

// names answers texts that are names, and others.
func names() []string {
	list := []string{"", "a", "z9-", "a-", "node-1", "node-2", "abcdefghijklmnop", "abcdefghijklmnopq", "0", "-a", "1a", "A", "aB", "a b", "a\n", "a_", "a\x00", "é", "\xff", "a`", "a{"}
	for _, many := range []int{17, 32, 256, 65535, 65536} {
		list = append(list, strings.Repeat("a", many), made(many, byte(many)))
	}
	return list
}

// ids answers identifiers at the edges of their range, and in between.
func ids() []uint64 {
	return []uint64{0, 1, 255, 256, 1<<32 - 1, 1 << 32, 1<<63 - 1, 1 << 63, 0x0102030405060709, math.MaxUint64 - 1, math.MaxUint64}
}

// tags answers texts that may be tags, and others; for nearly no entry they are the right ones.
func tags() []string {
	var list []string
	for _, many := range []int{0, 1, 16, 31, 32, 33, 64, 256, 65536} {
		list = append(list, strings.Repeat("\x00", many), strings.Repeat("\xff", many), made(many, byte(many)))
	}
	return list
}

// plain answers an entry that may be, but for its Tag's being a right one.
func plain() api.Entry {
	return api.Entry{Name: "node-1", Id: 0x0102030405060708, From: 5, Until: 1000, Index: 3, Tag: made(32, 9)}
}

// but answers that entry, changed.
func but(change func(e *api.Entry)) api.Entry {
	e := plain()
	change(&e)
	return e
}

// varied answers entries of which one field is changed, most of which may not be.
func varied() []api.Entry {
	list := []api.Entry{{}, plain(), {Name: "abcdefghijklmnop", Id: math.MaxUint64, From: 1 << 30, Until: 1 << 30, Index: 64}, {From: math.MinInt, Until: math.MaxInt, Index: math.MinInt}}
	for _, name := range names() {
		list = append(list, but(func(e *api.Entry) { e.Name = name }))
	}
	for _, id := range ids() {
		list = append(list, but(func(e *api.Entry) { e.Id = id }))
	}
	for _, tag := range tags() {
		list = append(list, but(func(e *api.Entry) { e.Tag = tag }))
	}
	for _, n := range counts() {
		list = append(list, but(func(e *api.Entry) { e.From = n }), but(func(e *api.Entry) { e.Until = n }), but(func(e *api.Entry) { e.Index = n }), api.Entry{From: n, Until: n, Index: n})
	}
	return list
}

// short tells a text shortly.
func short(s string) string { return fmt.Sprintf("%.8q (%d)", s, len(s)) }

// show tells an entry shortly, whatever its texts.
func show(e api.Entry) string {
	return fmt.Sprintf("{%.20q (%d) %x %d %d %d %.8x (%d)}", e.Name, len(e.Name), e.Id, e.From, e.Until, e.Index, e.Tag, len(e.Tag))
}

// showPeer tells a peer shortly.
func showPeer(p api.Peer) string { return fmt.Sprintf("{%s %d %d}", show(p.Entry), p.Since, p.Under) }

// showAll tells peers shortly.
func showAll(l []api.Peer) string {
	var b strings.Builder
	for _, p := range l {
		b.WriteString(showPeer(p))
	}
	return b.String()
}

// showGate tells a gate shortly.
func showGate(g api.Gate) string { return fmt.Sprintf("{%d %.8x (%d)}", g.Index, g.Key, len(g.Key)) }

// gateOf answers a gate of this index and key.
func gateOf(index int, key string) api.Gate { return api.Gate{Index: index, Key: key} }

// wantSign answers an entry that was signed by this key, by the library's tag of the library's numbers.
func wantSign(key string, e api.Entry) api.Entry {
	name := e.Name[:min(len(e.Name), 65535)]
	tag := hmac.New(sha256.New, []byte(key))
	head := binary.BigEndian.AppendUint16(nil, uint16(len(name)))
	rest := binary.BigEndian.AppendUint64(nil, e.Id)
	rest = binary.BigEndian.AppendUint32(rest, uint32(e.From))
	rest = binary.BigEndian.AppendUint32(rest, uint32(e.Until))
	rest = binary.BigEndian.AppendUint16(rest, uint16(e.Index))
	tag.Write(head)
	tag.Write([]byte(name))
	tag.Write(rest)
	e.Tag = string(tag.Sum(nil))
	return e
}

var nameForm = regexp.MustCompile(`\A[a-z][a-z0-9-]{0,15}\z`)

// mayBe answers what chapter 11's Right has to, of its own.
func mayBe(e api.Entry) bool {
	const last = 1073741824
	return nameForm.MatchString(e.Name) && e.From >= 0 && e.From <= e.Until && e.Until <= last && e.Index >= 0 && e.Index <= 64 && len(e.Tag) == 32
}

// A row is an error, and whether it applies.
type row struct {
	applies bool
	err     api.Errno
}

// first answers the first error of those that apply.
func first(rows ...row) api.Errno {
	for _, x := range rows {
		if x.applies {
			return x.err
		}
	}
	return 0
}

// wantTake answers what Take has to.
func wantTake(g api.Gate, e api.Entry, now int) (api.Peer, api.Errno) {
	err := first(row{!mayBe(e), 11}, row{e.Index < g.Index, 33}, row{e.Index > g.Index, 34}, row{e.Tag != wantSign(g.Key, e).Tag, 20}, row{now < e.From || e.Until < now, 32})
	if err != 0 {
		return api.Peer{}, err
	}
	return api.Peer{Entry: e, Since: now, Under: g.Index}, 0
}

// wantStep answers chapter 12's Step by the library's sum.
func wantStep(key string) string {
	sum := sha256.Sum256([]byte("carcanet link" + key))
	return string(sum[:])
}

// wantBack answers the key that is come to by so many steps.
func wantBack(key string, steps int) string {
	for range steps {
		key = wantStep(key)
	}
	return key
}

// wantKey answers a key of a chain, by the library's tag and sums.
func wantKey(seed string, length, index int) string {
	tag := hmac.New(sha256.New, []byte(seed))
	tag.Write([]byte("carcanet chain\x01"))
	return wantBack(string(tag.Sum(nil)), length-index)
}

// wantGate answers the gate of a chain's key.
func wantGate(seed string, length, index int) api.Gate {
	return gateOf(index, wantKey(seed, length, index))
}

// wantLeads answers what chapter 12's Leads has to, by numbers that leave no range.
func wantLeads(young, old api.Gate) bool {
	apart := new(big.Int).Sub(big.NewInt(int64(young.Index)), big.NewInt(int64(old.Index)))
	if young.Index < 0 || old.Index < 0 || len(young.Key) != 32 || apart.Sign() < 0 || apart.Cmp(big.NewInt(64)) > 0 {
		return false
	}
	return wantBack(young.Key, int(apart.Int64())) == old.Key
}

// wantRaise answers what Raise has to.
func wantRaise(g, young api.Gate) (api.Gate, api.Errno) {
	if err := first(row{young.Index <= g.Index, 26}, row{!wantLeads(young, g), 36}); err != 0 {
		return api.Gate{}, err
	}
	return young, 0
}

// wantHolds answers what Holds has to.
func wantHolds(p api.Peer) bool {
	return mayBe(p.Entry) && p.Since >= p.Entry.From && p.Since <= p.Entry.Until && p.Under == p.Entry.Index
}

// rightTake asks whether Take is what it should be, and what Those makes of the entry.
func rightTake(t *testing.T, g api.Gate, e api.Entry, now int) {
	t.Helper()
	want, wantErr := wantTake(g, e, now)
	if got, err := Take(g, e, now); got != want || err != wantErr {
		t.Errorf("Take of %s by %s at %d: %s, %d, wanted %s, %d", show(e), showGate(g), now, showPeer(got), err, showPeer(want), wantErr)
	}
	var wanted []api.Peer
	if wantErr == api.OK {
		wanted = append(wanted, want)
	}
	if got := Those(g, []api.Entry{e}, now); !slices.Equal(got, wanted) {
		t.Errorf("Those of %s by %s at %d: %s", show(e), showGate(g), now, showAll(got))
	}
}

// rightRaise asks whether Raise is what it should be.
func rightRaise(t *testing.T, g, young api.Gate) {
	t.Helper()
	want, wantErr := wantRaise(g, young)
	if got, err := Raise(g, young); got != want || err != wantErr {
		t.Errorf("%s by %s: %s, %d, wanted %s, %d", showGate(g), showGate(young), showGate(got), err, showGate(want), wantErr)
	}
}

// rightHolds asks whether Holds is what it should be.
func rightHolds(t *testing.T, p api.Peer) {
	t.Helper()
	if got, want := Holds(p), wantHolds(p); got != want {
		t.Errorf("%s: %t", showPeer(p), got)
	}
}

// P15.1

// The tags and the keys were made by another program.
func TestTakeOfKnownEntries(t *testing.T) {
	var chain []api.Gate
	for index, key := range []string{
		"d3b222256d407f02fb159e46bdd722ca52892ccc4b1b61cdb5b617a2e74a4cb4",
		"6c55c04ef815c2f32de9a4161d4898265a821304239420b186297447b47bca89",
		"7031d27a61b63127b67971e0af0433915b929149ea6bda097d88ad6a3d23002a",
		"45f832bad4ad865d65e7ed7846fd303abdd3ed66d57158eef0f6c81fc1fe43c6",
	} {
		chain = append(chain, gateOf(index, unhex(t, key)))
	}
	a0 := api.Entry{Name: "a", Id: 5, From: 0, Until: 9, Index: 0, Tag: unhex(t, "3831bab245bd93d87cd68539761596869614dc7c23d04140b54e5b17626ceb86")}
	a1 := api.Entry{Name: "a", Id: 5, From: 0, Until: 9, Index: 1, Tag: unhex(t, "f5818979244ddfc7e88cf3774244db32655cc23b26cd91faa994cbbb86828a20")}
	b3 := api.Entry{Name: "b", Id: 6, From: 2, Until: 1 << 30, Index: 3, Tag: unhex(t, "3e7520fe7ed5743c23412c9eff5c97945cdf012599cadc3eb28441ecb5ec22df")}
	long := api.Entry{Name: "abcdefghijklmnop", Id: math.MaxUint64, From: 7, Until: 7, Index: 2, Tag: unhex(t, "d10833f21a6d7f8222a077b65b94b525a2e91ed7b4f5a63d97d09e4ccf100512")}
	bare := api.Entry{Name: "a", Id: 5, From: 0, Until: 9, Index: 0, Tag: unhex(t, "d2557fe6a2d4351cd556246d74f0a15415356b8c29ac1546a1e51225ba8e49ea")}
	many := api.Entry{Name: "node-1", Id: 0x0102030405060708, From: 5, Until: 1000, Index: 3, Tag: unhex(t, "c2ea5950d421cdb137bb117c3d733b209a926eff3f806c38f8596e871aa3c936")}
	block := api.Entry{Name: "node-1", Id: 0x0102030405060708, From: 5, Until: 1000, Index: 64, Tag: unhex(t, "963d5fe6391893eb01a394b925912c4eb7672fd637cf097e97c1ce4534aed68b")}
	for i, x := range []struct {
		g    api.Gate
		e    api.Entry
		now  int
		want api.Errno
	}{
		{chain[0], a0, 0, api.OK}, {chain[0], a0, 1, api.OK}, {chain[0], a0, 9, api.OK}, {chain[1], a1, 5, api.OK},
		{chain[0], a0, -1, api.ErrExpired}, {chain[0], a0, 10, api.ErrExpired}, {chain[0], a0, math.MinInt, api.ErrExpired}, {chain[0], a0, math.MaxInt, api.ErrExpired},
		{chain[1], a0, 5, api.ErrRevoked}, {chain[3], a0, 5, api.ErrRevoked}, {chain[0], a1, 5, api.ErrFuture}, {chain[2], a1, 5, api.ErrRevoked},
		{chain[3], b3, 2, api.OK}, {chain[3], b3, 1 << 30, api.OK}, {chain[3], b3, 1, api.ErrExpired}, {chain[3], b3, 1<<30 + 1, api.ErrExpired}, {chain[0], b3, 2, api.ErrFuture},
		{chain[2], long, 7, api.OK}, {chain[2], long, 6, api.ErrExpired}, {chain[2], long, 8, api.ErrExpired}, {chain[3], long, 7, api.ErrRevoked}, {chain[1], long, 7, api.ErrFuture},
		{api.Gate{}, bare, 0, api.OK}, {api.Gate{}, bare, 10, api.ErrExpired}, {chain[0], bare, 0, api.ErrMac}, {api.Gate{}, a0, 0, api.ErrMac}, {api.Gate{}, a1, 0, api.ErrFuture},
		{gateOf(3, strings.Repeat("k", 1000000)), many, 5, api.OK}, {gateOf(3, strings.Repeat("k", 999999)), many, 5, api.ErrMac}, {gateOf(3, ""), many, 5, api.ErrMac},
		{gateOf(64, strings.Repeat("k", 65)), block, 1000, api.OK}, {gateOf(64, strings.Repeat("k", 64)), block, 1000, api.ErrMac}, {gateOf(65, strings.Repeat("k", 65)), block, 1000, api.ErrRevoked}, {gateOf(63, strings.Repeat("k", 65)), block, 1000, api.ErrFuture},
		{gateOf(-1, chain[0].Key), a0, 5, api.ErrFuture}, {gateOf(math.MinInt, chain[0].Key), a0, 5, api.ErrFuture}, {gateOf(math.MaxInt, chain[0].Key), a0, 5, api.ErrRevoked}, {gateOf(1<<32, chain[0].Key), a0, 5, api.ErrRevoked}, {gateOf(-1<<32, chain[0].Key), a0, 5, api.ErrFuture},
		{gateOf(0, chain[1].Key), a0, 5, api.ErrMac}, {gateOf(0, ""), a0, 10, api.ErrMac}, {api.Gate{}, api.Entry{}, 0, api.ErrForm}, {chain[0], api.Entry{}, 5, api.ErrForm},
	} {
		want := api.Peer{}
		if x.want == api.OK {
			want = api.Peer{Entry: x.e, Since: x.now, Under: x.g.Index}
		}
		if got, err := Take(x.g, x.e, x.now); got != want || err != x.want {
			t.Errorf("%d: %s, %d, wanted %d", i, showPeer(got), err, x.want)
		}
	}
}

func TestTakeOfEntriesOfAllKinds(t *testing.T) {
	for _, e := range varied() {
		for _, of := range []int{e.Index, 3, 2, 4, -1, math.MinInt, math.MaxInt} {
			for _, now := range []int{e.From, e.Until, 5, 1000, 4, 1001, -1, math.MinInt, math.MaxInt} {
				rightTake(t, gateOf(of, "key"), e, now)
				rightTake(t, gateOf(of, "key"), wantSign("key", e), now)
			}
		}
	}
}

// An entry that may not be is not taken, even if its gate, its tag and the time are those that it asks for.
func TestTakeOfEntriesThatMayNotBe(t *testing.T) {
	refused := 0
	for _, e := range varied() {
		signed := wantSign("key", e)
		if mayBe(signed) {
			continue
		}
		refused++
		for _, now := range []int{e.From, e.Until, 5, 6, 1000} {
			if got, err := Take(gateOf(e.Index, "key"), signed, now); got != (api.Peer{}) || err != api.ErrForm {
				t.Errorf("%s at %d: %s, %d", show(signed), now, showPeer(got), err)
			}
		}
	}
	if refused < 100 {
		t.Errorf("%d entries alone", refused)
	}
	right := wantSign("key", plain())
	for many := range 32 {
		for _, tag := range []string{right.Tag[:many], right.Tag + right.Tag[:many+1]} {
			e := right
			e.Tag = tag
			if got, err := Take(gateOf(3, "key"), e, 6); got != (api.Peer{}) || err != api.ErrForm {
				t.Errorf("%d bytes of the right tag: %s, %d", len(tag), showPeer(got), err)
			}
		}
	}
}

// Each bit of a tag and each field of an entry counts.
func TestTakeOfEntriesThatTheKeyDidNotSign(t *testing.T) {
	right := wantSign("key", plain())
	var list []api.Entry
	for bit := range 8 * 32 {
		e := right
		e.Tag = turned(right.Tag, bit)
		list = append(list, e)
	}
	for bit := range 64 {
		e := right
		e.Id ^= 1 << bit
		list = append(list, e)
	}
	for _, change := range []func(e *api.Entry){
		func(e *api.Entry) { e.Name = "node-2" }, func(e *api.Entry) { e.Name = "node-" }, func(e *api.Entry) { e.Name = "node-11" },
		func(e *api.Entry) { e.From-- }, func(e *api.Entry) { e.From = 0 }, func(e *api.Entry) { e.Until++ }, func(e *api.Entry) { e.Until = 1 << 30 },
	} {
		e := right
		change(&e)
		list = append(list, e)
	}
	for _, e := range list {
		for _, now := range []int{5, 6, 1000, 4, 1001} {
			if got, err := Take(gateOf(3, "key"), e, now); got != (api.Peer{}) || err != api.ErrMac {
				t.Errorf("%s at %d: %s, %d", show(e), now, showPeer(got), err)
			}
		}
	}
	if got := Those(gateOf(3, "key"), append(list, right), 6); !slices.Equal(got, []api.Peer{{Entry: right, Since: 6, Under: 3}}) {
		t.Errorf("Those: %s", showAll(got))
	}
}

// Whatever is wrong at once, the first that the chapter names is told, and the peer is the zero one.
func TestTakeOfSeveralFaultsAtOnce(t *testing.T) {
	seen := map[api.Errno]int{}
	for _, form := range []func(e *api.Entry){func(e *api.Entry) {}, func(e *api.Entry) { e.Name = "A" }, func(e *api.Entry) { e.Until = 1<<30 + 1 }, func(e *api.Entry) { e.From = -1 }} {
		for _, cut := range []int{32, 31, 0} {
			for _, of := range []int{3, 2, 4, 0, -1, 64, 65, math.MinInt, math.MaxInt} {
				for _, key := range []string{"key", "kez", "", made(65, 10)} {
					for _, now := range []int{6, 4, 1001, -1, 1<<30 + 2, math.MinInt, math.MaxInt} {
						e := wantSign("key", but(form))
						e.Tag = e.Tag[:cut]
						rightTake(t, gateOf(of, key), e, now)
						_, err := Take(gateOf(of, key), e, now)
						seen[err]++
					}
				}
			}
		}
	}
	for _, err := range []api.Errno{api.OK, api.ErrForm, api.ErrRevoked, api.ErrFuture, api.ErrMac, api.ErrExpired} {
		if seen[err] == 0 {
			t.Errorf("%d was not met", err)
		}
	}
}

func TestTakeAtTimesAboutFromAndUntil(t *testing.T) {
	g := gateOf(3, "key")
	for _, x := range [][2]int{{0, 0}, {0, 1}, {1, 1}, {5, 5}, {5, 6}, {5, 7}, {5, 1000}, {0, 1 << 30}, {1<<30 - 1, 1<<30 - 1}, {1<<30 - 1, 1 << 30}, {1 << 30, 1 << 30}} {
		e := wantSign("key", but(func(e *api.Entry) { e.From, e.Until = x[0], x[1] }))
		for _, now := range append(append(counts(), near(x[0])...), near(x[1])...) {
			want, wantErr := api.Peer{}, api.ErrExpired
			if x[0] <= now && now <= x[1] {
				want, wantErr = api.Peer{Entry: e, Since: now, Under: 3}, api.OK
			}
			if got, err := Take(g, e, now); got != want || err != wantErr {
				t.Errorf("from %d until %d, at %d: %s, %d", x[0], x[1], now, showPeer(got), err)
			}
		}
	}
}

func TestTakeByGatesOfAllIndexes(t *testing.T) {
	for index := range 65 {
		e := wantSign("key", but(func(e *api.Entry) { e.Index = index }))
		for _, of := range append(counts(), near(index)...) {
			want, wantErr := api.Peer{}, api.ErrRevoked
			if of < index {
				wantErr = api.ErrFuture
			} else if of == index {
				want, wantErr = api.Peer{Entry: e, Since: 6, Under: index}, api.OK
			}
			if got, err := Take(gateOf(of, "key"), e, 6); got != want || err != wantErr {
				t.Errorf("of %d, by %d: %s, %d", index, of, showPeer(got), err)
			}
		}
	}
}

// One key takes what it signed, and no other one does, of no bytes and of very many, too.
func TestTakeByGatesOfAllKeys(t *testing.T) {
	for _, by := range keys() {
		e := wantSign(by, plain())
		for _, key := range keys() {
			want, wantErr := api.Peer{}, api.ErrMac
			if key == by {
				want, wantErr = api.Peer{Entry: e, Since: 6, Under: 3}, api.OK
			}
			if got, err := Take(gateOf(3, key), e, 6); got != want || err != wantErr {
				t.Errorf("signed by %s, taken by %s: %s, %d", short(by), short(key), showPeer(got), err)
			}
		}
	}
}

// few answers entries of which a gate of the key "key" and Index 3 takes at 6 every second one, and why it does not take the others.
func few() []api.Entry {
	right := wantSign("key", plain())
	return []api.Entry{
		wantSign("key", but(func(e *api.Entry) { e.Name, e.Id = "z", 9 })),
		{},
		wantSign("key", but(func(e *api.Entry) { e.Name, e.Id = "a", 3 })),
		wantSign("key", but(func(e *api.Entry) { e.Index = 2 })),
		right,
		wantSign("key", but(func(e *api.Entry) { e.Index = 4 })),
		wantSign("key", but(func(e *api.Entry) { e.Until = 6 })),
		wantSign("kez", plain()),
		wantSign("key", but(func(e *api.Entry) { e.Id = math.MaxUint64 })),
		wantSign("key", but(func(e *api.Entry) { e.From = 7 })),
		right,
		but(func(e *api.Entry) { e.Tag = "" }),
		wantSign("key", but(func(e *api.Entry) { e.From = 6 })),
		wantSign("key", but(func(e *api.Entry) { e.Until = 5 })),
	}
}

// taken answers every second one of these entries as the peer that a gate of Index 3 takes at 6.
func taken(l []api.Entry) []api.Peer {
	var list []api.Peer
	for at := 0; at < len(l); at += 2 {
		list = append(list, api.Peer{Entry: l[at], Since: 6, Under: 3})
	}
	return list
}

func TestThoseOfSomeEntries(t *testing.T) {
	g, l := gateOf(3, "key"), few()
	if got := Those(g, l, 6); !slices.Equal(got, taken(l)) {
		t.Errorf("%s", showAll(got))
	}
	slices.Reverse(l)
	want := taken(few())
	slices.Reverse(want)
	if got := Those(g, l, 6); !slices.Equal(got, want) {
		t.Errorf("the other way round: %s", showAll(got))
	}
	for i, x := range [][]api.Entry{nil, {}, {{}}, {{}, {}, plain()}, l[:1], {few()[1], few()[3], few()[5], few()[7]}} {
		if got := Those(g, x, 6); len(got) != 0 {
			t.Errorf("%d: of none that is taken %s", i, showAll(got))
		}
	}
	for i, by := range []api.Gate{{}, gateOf(3, ""), gateOf(3, "kez"), gateOf(65, "key"), gateOf(-1, "key"), gateOf(math.MinInt, "key"), gateOf(math.MaxInt, "key")} {
		if got := Those(by, append(good(), l[1]), 6); len(got) != 0 {
			t.Errorf("%d: %s", i, showAll(got))
		}
	}
	for _, now := range []int{-1, math.MinInt, 1<<30 + 1, math.MaxInt, 4, 1001} {
		if got := Those(g, few(), now); len(got) != 0 {
			t.Errorf("at %d: %s", now, showAll(got))
		}
	}
}

// good answers the entries of few that are taken.
func good() []api.Entry {
	var list []api.Entry
	for _, p := range taken(few()) {
		list = append(list, p.Entry)
	}
	return list
}

// Of any of these entries, Those are the peers that Take tells of each one.
func TestThoseOfAnyOfSomeEntries(t *testing.T) {
	g, l := gateOf(3, "key"), few()
	for some := range 1 << len(l) {
		var list []api.Entry
		var want []api.Peer
		for at, e := range l {
			if some>>at&1 == 0 {
				continue
			}
			list = append(list, e)
			if at%2 == 0 {
				want = append(want, api.Peer{Entry: e, Since: 6, Under: 3})
			}
		}
		if got := Those(g, list, 6); !slices.Equal(got, want) {
			t.Fatalf("%b: %s", some, showAll(got))
		}
	}
}

func TestThoseAtAllTimesByGatesOfAllKinds(t *testing.T) {
	l := append(varied(), few()...)
	for at, e := range varied() {
		l = append(l, wantSign([]string{"key", "kez", ""}[at%3], e))
	}
	for _, of := range []int{3, 2, 4, 0, 64, -1, math.MinInt, math.MaxInt} {
		for _, key := range []string{"key", "kez", "", made(32, 1)} {
			for _, now := range []int{-1, 0, 4, 5, 6, 1000, 1001, 1 << 30, 1<<30 + 1, math.MinInt, math.MaxInt} {
				g := gateOf(of, key)
				var want []api.Peer
				for _, e := range l {
					if p, err := wantTake(g, e, now); err == api.OK {
						want = append(want, p)
					}
				}
				if got := Those(g, l, now); !slices.Equal(got, want) {
					t.Errorf("by %s at %d: %d peers, wanted %d", showGate(g), now, len(got), len(want))
				}
			}
		}
	}
}

// One entry that comes twice is taken twice, and of two of one name or of one identifier both are.
func TestThoseOfEntriesThatComeTwice(t *testing.T) {
	g := gateOf(3, "key")
	a := wantSign("key", plain())
	b := wantSign("key", but(func(e *api.Entry) { e.Name = "b" }))
	c := wantSign("key", but(func(e *api.Entry) { e.Id = 1 }))
	for _, l := range [][]api.Entry{{a, a}, {a, b}, {b, a}, {a, c}, {a, b, a, c, a}, {c, {}, c, plain(), c}, slices.Repeat([]api.Entry{a}, 100)} {
		var want []api.Peer
		for _, e := range l {
			if e == a || e == b || e == c {
				want = append(want, api.Peer{Entry: e, Since: 6, Under: 3})
			}
		}
		if got := Those(g, l, 6); !slices.Equal(got, want) {
			t.Errorf("%d entries: %s", len(l), showAll(got))
		}
	}
}

func TestThoseOfManyEntries(t *testing.T) {
	g := gateOf(3, "key")
	var l []api.Entry
	var want []api.Peer
	for n := range 3000 {
		e := wantSign("key", but(func(e *api.Entry) { e.Id = uint64(n) }))
		if n%3 == 1 {
			e = plain()
		} else {
			want = append(want, api.Peer{Entry: e, Since: 1000, Under: 3})
		}
		l = append(l, e)
	}
	if got := Those(g, l, 1000); !slices.Equal(got, want) {
		t.Errorf("%d peers, wanted %d", len(got), len(want))
	}
}

// P15.2

// The chapter's example, the edges that a gate's numbers have, and keys that another program made.
func TestRaiseOfKnownGates(t *testing.T) {
	key0 := unhex(t, "d3b222256d407f02fb159e46bdd722ca52892ccc4b1b61cdb5b617a2e74a4cb4")
	key1 := unhex(t, "6c55c04ef815c2f32de9a4161d4898265a821304239420b186297447b47bca89")
	key2 := unhex(t, "7031d27a61b63127b67971e0af0433915b929149ea6bda097d88ad6a3d23002a")
	last := unhex(t, "45f832bad4ad865d65e7ed7846fd303abdd3ed66d57158eef0f6c81fc1fe43c6")
	away63 := unhex(t, "e1e24eee14fe37c24d04069892ca71c51446ce72534ecf830980afe12b3f1bfe")
	away64 := unhex(t, "0540ba14b09c60395b3c313d369171b2b17a656d12c1874a98948ea981c7c1b2")
	away65 := unhex(t, "4909d6d2bd4d19b795ed9a6f4f1a5d2c06e633eec8fb20ec8be003c8984fc561")
	for _, x := range []struct {
		g, young api.Gate
		want     api.Errno
	}{
		{gateOf(0, key0), gateOf(2, key2), api.OK}, {gateOf(0, key0), gateOf(1, key1), api.OK}, {gateOf(0, key0), gateOf(3, last), api.OK}, {gateOf(1, key1), gateOf(2, key2), api.OK}, {gateOf(2, key2), gateOf(3, last), api.OK},
		{gateOf(0, key0), gateOf(2, made(32, 1)), api.ErrChain}, {gateOf(0, key0), gateOf(2, key1), api.ErrChain}, {gateOf(0, key0), gateOf(2, last), api.ErrChain}, {gateOf(0, key0), gateOf(2, key0), api.ErrChain}, {gateOf(0, key0), gateOf(1, key0), api.ErrChain},
		{gateOf(0, key0), gateOf(1, key2), api.ErrChain}, {gateOf(0, key0), gateOf(3, key2), api.ErrChain}, {gateOf(0, made(32, 2)), gateOf(2, key2), api.ErrChain}, {gateOf(0, ""), gateOf(2, key2), api.ErrChain}, {gateOf(0, key0), gateOf(2, ""), api.ErrChain},
		{gateOf(0, key0), gateOf(0, key0), api.ErrAgain}, {gateOf(2, key2), gateOf(2, key2), api.ErrAgain}, {gateOf(2, key2), gateOf(1, key1), api.ErrAgain}, {gateOf(2, key2), gateOf(0, key0), api.ErrAgain}, {gateOf(0, key0), gateOf(0, key1), api.ErrAgain},
		{gateOf(0, key0), gateOf(0, ""), api.ErrAgain}, {gateOf(0, key0), gateOf(-1, key1), api.ErrAgain}, {gateOf(0, key0), api.Gate{}, api.ErrAgain}, {api.Gate{}, api.Gate{}, api.ErrAgain}, {api.Gate{}, gateOf(2, key2), api.ErrChain}, {gateOf(2, key2), api.Gate{}, api.ErrAgain},
		{gateOf(1, away63), gateOf(64, last), api.OK}, {gateOf(0, away64), gateOf(64, last), api.OK}, {gateOf(0, away65), gateOf(65, last), api.ErrChain}, {gateOf(1, away64), gateOf(65, last), api.OK}, {gateOf(0, away64), gateOf(65, last), api.ErrChain},
		{gateOf(0, away63), gateOf(64, last), api.ErrChain}, {gateOf(0, away65), gateOf(64, last), api.ErrChain}, {gateOf(1, away64), gateOf(64, last), api.ErrChain}, {gateOf(1, away65), gateOf(66, last), api.ErrChain},
		{gateOf(-1, key0), gateOf(1, key2), api.ErrChain}, {gateOf(-2, key0), gateOf(-1, key1), api.ErrChain}, {gateOf(-1, key1), gateOf(0, key2), api.ErrChain}, {gateOf(-1, key1), gateOf(-1, key1), api.ErrAgain}, {gateOf(-1, key1), gateOf(-2, key2), api.ErrAgain},
		{gateOf(math.MaxInt-2, key0), gateOf(math.MaxInt, key2), api.OK}, {gateOf(math.MaxInt-64, away64), gateOf(math.MaxInt, last), api.OK}, {gateOf(math.MaxInt-65, away65), gateOf(math.MaxInt, last), api.ErrChain}, {gateOf(math.MaxInt, key2), gateOf(math.MaxInt, key2), api.ErrAgain},
		{gateOf(math.MinInt, key0), gateOf(math.MaxInt, key1), api.ErrChain}, {gateOf(math.MaxInt, key0), gateOf(math.MinInt, key1), api.ErrAgain}, {gateOf(math.MinInt, key0), gateOf(math.MinInt+2, key2), api.ErrChain}, {gateOf(math.MinInt, key0), gateOf(math.MinInt, key0), api.ErrAgain},
		{gateOf(math.MinInt, key0), gateOf(0, key2), api.ErrChain}, {gateOf(0, key0), gateOf(math.MaxInt, key2), api.ErrChain}, {gateOf(0, key0), gateOf(math.MinInt, key2), api.ErrAgain}, {gateOf(0, key0), gateOf(1<<32+2, key2), api.ErrChain}, {gateOf(1<<32, key0), gateOf(2, key2), api.ErrAgain}, {gateOf(1<<32, key0), gateOf(1<<32+2, key2), api.OK},
	} {
		want := api.Gate{}
		if x.want == api.OK {
			want = x.young
		}
		if got, err := Raise(x.g, x.young); got != want || err != x.want {
			t.Errorf("%s by %s: %s, %d, wanted %d", showGate(x.g), showGate(x.young), showGate(got), err, x.want)
		}
	}
}

// A gate is raised by each key of its chain that is behind it, and by no other one.
func TestRaiseByKeysOfAChain(t *testing.T) {
	for _, length := range []int{1, 2, 3, 7, 64} {
		for old := range length + 1 {
			g := wantGate("seed", length, old)
			for index := range length + 1 {
				young := wantGate("seed", length, index)
				want, wantErr := young, api.OK
				if index <= old {
					want, wantErr = api.Gate{}, api.ErrAgain
				}
				if got, err := Raise(g, young); got != want || err != wantErr {
					t.Errorf("of %d: %d by %d: %s, %d", length, old, index, showGate(got), err)
				}
				for _, other := range []api.Gate{wantGate("other", length, index), wantGate("seed", length+1, index), gateOf(index, made(32, byte(index)))} {
					if wantErr == api.OK {
						wantErr = api.ErrChain
					}
					if got, err := Raise(g, other); got != (api.Gate{}) || err != wantErr {
						t.Errorf("of %d: %d by %d of another chain: %s, %d", length, old, index, showGate(got), err)
					}
				}
			}
		}
	}
}

// A difference that is no int any more comes to a small one in numbers that wrap.
func TestRaiseByGatesOfAllIndexes(t *testing.T) {
	key := made(32, 3)
	line := []string{key}
	for len(line) < 67 {
		line = append(line, wantStep(line[len(line)-1]))
	}
	indexes := append(counts(), 32, 33, 62, 67, 126, 127, 128, 129, 130, math.MaxInt-65, math.MaxInt-64, math.MaxInt-63, math.MinInt+63, math.MinInt+64, math.MinInt+65)
	for _, old := range indexes {
		for _, index := range indexes {
			apart := index - old // wraps where it leaves the range
			for _, steps := range []int{apart, 0, 1, 64, 65} {
				if 0 <= steps && steps < len(line) {
					rightRaise(t, gateOf(old, line[steps]), gateOf(index, key))
				}
			}
		}
	}
}

func TestRaiseByKeysOfOtherLengths(t *testing.T) {
	for _, key := range keys() {
		for _, steps := range []int{0, 1, 2, 64} {
			g, young := gateOf(0, wantBack(key, steps)), gateOf(steps, key)
			want, wantErr := young, api.OK
			if steps == 0 {
				want, wantErr = api.Gate{}, api.ErrAgain
			} else if len(key) != 32 {
				want, wantErr = api.Gate{}, api.ErrChain
			}
			if got, err := Raise(g, young); got != want || err != wantErr {
				t.Errorf("%s by %s: %s, %d, wanted %d", showGate(g), showGate(young), showGate(got), err, wantErr)
			}
		}
	}
	// The key that is held may have what length it will: none is come to but of 32 bytes.
	key := made(32, 4)
	for _, old := range append(keys(), wantStep(key)[:31], wantStep(key)+"\x00", key) {
		if got, err := Raise(gateOf(0, old), gateOf(1, key)); got != (api.Gate{}) || err != api.ErrChain {
			t.Errorf("%s: %s, %d", short(old), showGate(got), err)
		}
	}
}

// Each bit of both keys counts.
func TestRaiseByKeysWithOneBitChanged(t *testing.T) {
	key := made(32, 5)
	for _, steps := range []int{1, 2, 63, 64} {
		old := wantBack(key, steps)
		for bit := range 8 * 32 {
			for _, x := range [][2]api.Gate{{gateOf(7, old), gateOf(7+steps, turned(key, bit))}, {gateOf(7, turned(old, bit)), gateOf(7+steps, key)}} {
				if got, err := Raise(x[0], x[1]); got != (api.Gate{}) || err != api.ErrChain {
					t.Errorf("by %d, bit %d: %s, %d", steps, bit, showGate(got), err)
				}
			}
		}
		if got, err := Raise(gateOf(7, old), gateOf(7+steps, key)); got != gateOf(7+steps, key) || err != api.OK {
			t.Errorf("by %d: %s, %d", steps, showGate(got), err)
		}
	}
}

// P15.3

func TestHoldsOfKnownPeers(t *testing.T) {
	e := api.Entry{Name: "a", Id: 7, From: 10, Until: 20, Index: 2, Tag: strings.Repeat("t", 32)}
	bad := func(change func(e *api.Entry)) api.Entry {
		other := e
		change(&other)
		return other
	}
	for i, x := range []struct {
		p    api.Peer
		want bool
	}{
		{api.Peer{Entry: e, Since: 10, Under: 2}, true}, {api.Peer{Entry: e, Since: 11, Under: 2}, true}, {api.Peer{Entry: e, Since: 19, Under: 2}, true}, {api.Peer{Entry: e, Since: 20, Under: 2}, true},
		{api.Peer{Entry: e, Since: 9, Under: 2}, false}, {api.Peer{Entry: e, Since: 21, Under: 2}, false}, {api.Peer{Entry: e, Since: 0, Under: 2}, false}, {api.Peer{Entry: e, Since: -15, Under: 2}, false},
		{api.Peer{Entry: e, Since: math.MinInt, Under: 2}, false}, {api.Peer{Entry: e, Since: math.MaxInt, Under: 2}, false}, {api.Peer{Entry: e, Since: 1<<32 + 15, Under: 2}, false},
		{api.Peer{Entry: e, Since: 15, Under: 1}, false}, {api.Peer{Entry: e, Since: 15, Under: 3}, false}, {api.Peer{Entry: e, Since: 15, Under: 0}, false}, {api.Peer{Entry: e, Since: 15, Under: -2}, false}, {api.Peer{Entry: e, Since: 15, Under: 64}, false},
		{api.Peer{Entry: e, Since: 15, Under: math.MinInt}, false}, {api.Peer{Entry: e, Since: 15, Under: math.MaxInt}, false}, {api.Peer{Entry: e, Since: 15, Under: 1<<32 + 2}, false},
		{api.Peer{}, false}, {api.Peer{Entry: e}, false}, {api.Peer{Since: 15, Under: 2}, false},
		{api.Peer{Entry: bad(func(e *api.Entry) { e.Name = "A" }), Since: 15, Under: 2}, false}, {api.Peer{Entry: bad(func(e *api.Entry) { e.Name = "" }), Since: 15, Under: 2}, false},
		{api.Peer{Entry: bad(func(e *api.Entry) { e.From = -1 }), Since: 15, Under: 2}, false}, {api.Peer{Entry: bad(func(e *api.Entry) { e.Until = 1<<30 + 1 }), Since: 15, Under: 2}, false},
		{api.Peer{Entry: bad(func(e *api.Entry) { e.Until = 9 }), Since: 10, Under: 2}, false}, {api.Peer{Entry: bad(func(e *api.Entry) { e.Until = 9 }), Since: 9, Under: 2}, false},
		{api.Peer{Entry: bad(func(e *api.Entry) { e.Index = -1 }), Since: 15, Under: -1}, false}, {api.Peer{Entry: bad(func(e *api.Entry) { e.Index = 65 }), Since: 15, Under: 65}, false}, {api.Peer{Entry: bad(func(e *api.Entry) { e.Index = 64 }), Since: 15, Under: 64}, true},
		{api.Peer{Entry: bad(func(e *api.Entry) { e.Index = 0 }), Since: 15}, true}, {api.Peer{Entry: bad(func(e *api.Entry) { e.From, e.Index = 0, 0 })}, true}, {api.Peer{Entry: bad(func(e *api.Entry) { e.Until = 1 << 30 }), Since: 1 << 30, Under: 2}, true},
		{api.Peer{Entry: bad(func(e *api.Entry) { e.Tag = "" }), Since: 15, Under: 2}, false}, {api.Peer{Entry: bad(func(e *api.Entry) { e.Tag += "t" }), Since: 15, Under: 2}, false}, {api.Peer{Entry: bad(func(e *api.Entry) { e.Tag = strings.Repeat("\x00", 32) }), Since: 15, Under: 2}, true},
	} {
		if got := Holds(x.p); got != x.want {
			t.Errorf("%d: %s: %t", i, showPeer(x.p), got)
		}
	}
}

func TestHoldsOfPeersOfAllKinds(t *testing.T) {
	for _, e := range varied() {
		for _, since := range append(append(counts(), near(e.From)...), near(e.Until)...) {
			for _, under := range append(near(e.Index), 0, 3, -1, math.MinInt, math.MaxInt) {
				rightHolds(t, api.Peer{Entry: e, Since: since, Under: under})
			}
		}
	}
}

func TestHoldsUnderAllIndexes(t *testing.T) {
	for index := -2; index <= 66; index++ {
		e := but(func(e *api.Entry) { e.Index = index })
		for _, under := range append(counts(), near(index)...) {
			want := under == index && 0 <= index && index <= 64
			if got := Holds(api.Peer{Entry: e, Since: 6, Under: under}); got != want {
				t.Errorf("of %d, under %d: %t", index, under, got)
			}
		}
	}
}

// Holds has no key: by whom an entry was signed does not count, nor for whom.
func TestHoldsOfTagsThatNoKeyMade(t *testing.T) {
	for _, tag := range append(tags(), wantSign("key", plain()).Tag, wantSign("", plain()).Tag) {
		for _, id := range ids() {
			for _, name := range []string{"a", "node-1", "abcdefghijklmnop"} {
				e := but(func(e *api.Entry) { e.Name, e.Id, e.Tag = name, id, tag })
				if got := Holds(api.Peer{Entry: e, Since: 6, Under: 3}); got != (len(tag) == 32) {
					t.Errorf("%s: %t", show(e), got)
				}
			}
		}
	}
}

// P15.4

// follows asks of a gate, what may raise it, and some entries at a time all that the chapter says follows.
func follows(t *testing.T, g, young api.Gate, l []api.Entry, now int) {
	t.Helper()
	those := Those(g, l, now)
	for _, p := range those {
		if !Holds(p) || p.Since != now || p.Under != g.Index || !slices.Contains(l, p.Entry) {
			t.Errorf("by %s at %d: %s is taken, and does not hold", showGate(g), now, showPeer(p))
		}
	}
	raised, err := Raise(g, young)
	if err != api.OK {
		return
	}
	for _, p := range those {
		for _, when := range []int{now, p.Entry.From, p.Entry.Until, math.MinInt, math.MaxInt} {
			if got, err := Take(raised, p.Entry, when); got != (api.Peer{}) || err != api.ErrRevoked {
				t.Errorf("%s by %s at %d, which was %s: %s, %d", show(p.Entry), showGate(raised), when, showGate(g), showPeer(got), err)
			}
			if again := Those(raised, []api.Entry{p.Entry}, when); len(again) != 0 {
				t.Errorf("Those by %s at %d: %s", showGate(raised), when, showAll(again))
			}
		}
	}
}

// What is taken holds at each moment of its time.
func TestWhatIsTakenHolds(t *testing.T) {
	for from := range 12 {
		for until := from; until < 12; until++ {
			e := wantSign("key", but(func(e *api.Entry) { e.From, e.Until = from, until }))
			held := 0
			for now := -3; now < 16; now++ {
				p, err := Take(gateOf(3, "key"), e, now)
				if Holds(p) != (err == api.OK) {
					t.Errorf("from %d until %d, at %d: %d, and holds %t", from, until, now, err, Holds(p))
				}
				if err == api.OK {
					held++
				}
			}
			if held != until-from+1 {
				t.Errorf("from %d until %d: taken %d times", from, until, held)
			}
		}
	}
	for _, e := range varied() {
		for _, now := range append(counts(), e.From, e.Until) {
			p, err := Take(gateOf(e.Index, "key"), wantSign("key", e), now)
			if Holds(p) != (err == api.OK) {
				t.Errorf("%s at %d: %d, and holds %t", show(e), now, err, Holds(p))
			}
		}
	}
}

// Whatever key of its chain a gate was raised by, at once or step by step, it takes no more what it took.
func TestWhatWasTakenIsTakenNoMore(t *testing.T) {
	for _, length := range []int{1, 2, 5, 64} {
		for old := range length {
			g := wantGate("seed", length, old)
			var l []api.Entry
			for _, x := range [][2]int{{5, 5}, {0, 1 << 30}, {5, 1000}, {0, 5}} {
				l = append(l, wantSign(g.Key, but(func(e *api.Entry) { e.From, e.Until, e.Index = x[0], x[1], old })))
			}
			if got := Those(g, l, 5); len(got) != len(l) {
				t.Fatalf("%d of %d: %s", old, length, showAll(got))
			}
			by := g
			for index := old + 1; index <= length; index++ {
				young := wantGate("seed", length, index)
				follows(t, g, young, l, 5)
				next, err := Raise(by, young)
				if err != api.OK {
					t.Fatalf("%s by %s: %d", showGate(by), showGate(young), err)
				}
				by = next
				if got := Those(by, l, 5); len(got) != 0 {
					t.Errorf("%d of %d, at last by %d: %s", old, length, index, showAll(got))
				}
			}
		}
	}
}

// Nor is it taken by a key that no office has, but which leads to the gate's: an index counts, whatever the keys are.
func TestWhatWasTakenIsTakenNoMoreByAnyKey(t *testing.T) {
	for seed := range byte(20) {
		key := made(32, seed)
		for _, steps := range []int{1, 2, 33, 61} {
			g, young := gateOf(3, wantBack(key, steps)), gateOf(3+steps, key)
			e := wantSign(g.Key, plain())
			if _, err := Raise(g, young); err != api.OK {
				t.Fatalf("by %d: %d", steps, err)
			}
			// One that the young key signed, too, is of another index.
			follows(t, g, young, []api.Entry{e, wantSign(key, plain()), wantSign(key, but(func(e *api.Entry) { e.Index = 3 + steps }))}, 6)
			anew := wantSign(key, but(func(e *api.Entry) { e.Index = 3 + steps }))
			if got, err := Take(young, anew, 6); got != (api.Peer{Entry: anew, Since: 6, Under: 3 + steps}) || err != api.OK || !Holds(got) {
				t.Errorf("by %d: anew %s, %d", steps, showPeer(got), err)
			}
			if _, err := Take(g, anew, 6); err != api.ErrFuture {
				t.Errorf("by %d: what is anew, by the old gate: %d", steps, err)
			}
		}
	}
}

func FuzzWhatFollows(f *testing.F) {
	f.Add("key", "key", "a", uint64(5), 0, 9, 3, 3, 1, 1, "")
	f.Add("", "", "", uint64(0), 0, 0, 0, 0, 0, 0, strings.Repeat("t", 32))
	f.Add(made(32, 13), "k", "abcdefghijklmnop", uint64(math.MaxUint64), 1<<30, 1<<30, 64, 63, 1<<30, 64, made(32, 14))
	f.Add(made(31, 15), made(64, 16), "No name!", uint64(1<<63), -1, math.MinInt, math.MaxInt, math.MinInt, math.MaxInt, 65, "t")
	f.Add(made(32, 17), "k", "a", uint64(1), 5, 9, 1, 1, 4, math.MaxInt, made(31, 17))
	f.Fuzz(func(t *testing.T, key, other, name string, id uint64, from, until, index, of, now, up int, tag string) {
		e := api.Entry{Name: name, Id: id, From: from, Until: until, Index: index, Tag: tag}
		small := api.Entry{Name: "n", Id: id, From: from & 0xffff, Until: from&0xffff + until&0xffff, Index: index & 63}
		gates := []api.Gate{gateOf(of, key), gateOf(of, other), gateOf(index, key), gateOf(small.Index, key), gateOf(small.Index, wantBack(key, up&63))}
		l := []api.Entry{e, wantSign(key, e), wantSign(other, e), small, wantSign(key, small), wantSign(gates[4].Key, small)}
		for _, when := range []int{now, from, small.From, small.Until, now & 0x1ffff} {
			for _, g := range gates {
				var want []api.Peer
				for _, x := range l {
					rightTake(t, g, x, when)
					rightHolds(t, api.Peer{Entry: x, Since: when, Under: g.Index})
					if p, err := wantTake(g, x, when); err == api.OK {
						want = append(want, p)
					}
				}
				if got := Those(g, l, when); !slices.Equal(got, want) {
					t.Errorf("by %s at %d: %s, wanted %s", showGate(g), when, showAll(got), showAll(want))
				}
				for _, young := range []api.Gate{gateOf(up, key), gateOf(small.Index+up&63, key), gateOf(small.Index+up&63, other)} {
					rightRaise(t, g, young)
					follows(t, g, young, l, when)
				}
			}
		}
	})
}

// Rules 4 and 5: what is handed in stays as it was, what is handed out is new, and nothing is kept.

// with answers a list of these entries with spare room behind, in which stand others that would be taken, and all of its memory.
func with(l []api.Entry) (list, all []api.Entry) {
	all = append(slices.Clone(l), good()...)
	return all[:len(l)], all
}

func TestWhatIsHandedInStaysAsItWas(t *testing.T) {
	g := gateOf(3, "key")
	for many := range len(few()) + 1 {
		for _, now := range []int{4, 6, 1001, math.MinInt, math.MaxInt} {
			l, all := with(few()[:many])
			kept := slices.Clone(all)
			Those(g, l, now)
			for _, e := range l {
				Take(g, e, now)
			}
			if !slices.Equal(all, kept) || g != gateOf(3, "key") {
				t.Errorf("of %d at %d: changed", many, now)
			}
		}
	}
	key := made(32, 6)
	old, young := gateOf(3, wantStep(key)), gateOf(4, key)
	Raise(old, young)
	Raise(young, old)
	if old != gateOf(3, wantStep(made(32, 6))) || young != gateOf(4, made(32, 6)) {
		t.Error("a gate is changed")
	}
	p := api.Peer{Entry: plain(), Since: 6, Under: 3}
	Holds(p)
	if p != (api.Peer{Entry: plain(), Since: 6, Under: 3}) {
		t.Error("a peer is changed")
	}
}

// What stands behind a list's length is not taken, even where it might be.
func TestThoseReadNothingBehindAList(t *testing.T) {
	for many := range len(few()) + 1 {
		l, _ := with(few()[:many])
		if got := Those(gateOf(3, "key"), l, 6); !slices.Equal(got, taken(l)) {
			t.Errorf("of %d: %s", many, showAll(got))
		}
	}
}

// What is handed out is new memory, its spare room too: none of it is another answer's, nor becomes one's.
func TestWhatIsHandedOutIsNotShared(t *testing.T) {
	g := gateOf(3, "key")
	for many := range len(few()) + 1 {
		l, all := with(few()[:many])
		want := taken(l)
		one, two := Those(g, l, 6), Those(g, l, 6)
		clear(one[:cap(one)])
		if !slices.Equal(two, want) {
			t.Errorf("of %d: the first answer is the second one", many)
		}
		clear(all)
		if !slices.Equal(two, want) {
			t.Errorf("of %d: the answer is what was handed in", many)
		}
		again, _ := with(few()[:many])
		if got := Those(g, again, 6); !slices.Equal(got, want) {
			t.Errorf("of %d: behind a change %s", many, showAll(got))
		}
	}
}

// What is handed out does not hang on bytes that the texts which were handed in were made of.
func TestWhatIsHandedOutStays(t *testing.T) {
	right := wantSign("key", plain())
	name, tag, key := []byte(right.Name), []byte(right.Tag), []byte(made(32, 7))
	p, _ := Take(gateOf(3, "key"), but(func(e *api.Entry) { e.Name, e.Tag = string(name), string(tag) }), 6)
	g, _ := Raise(gateOf(3, wantStep(string(key))), gateOf(4, string(key)))
	clear(name)
	clear(tag)
	clear(key)
	if want := (api.Peer{Entry: right, Since: 6, Under: 3}); p != want {
		t.Errorf("%s, wanted %s", showPeer(p), showPeer(want))
	}
	if want := gateOf(4, made(32, 7)); g != want {
		t.Errorf("%s, wanted %s", showGate(g), showGate(want))
	}
}

// A call leaves nothing behind: whatever comes ahead of it, it answers what it would have. A gate is a value: Raise answers another one, and the old one takes what it took.
func TestNothingIsKept(t *testing.T) {
	key := made(32, 8)
	g, young := gateOf(3, wantStep(key)), gateOf(4, key)
	e := wantSign(g.Key, plain())
	want := api.Peer{Entry: e, Since: 6, Under: 3}
	for i, other := range varied() {
		by := keys()[i%len(keys())]
		Take(gateOf(other.Index, by), wantSign(by, other), other.From)
		Those(gateOf(other.Index, by), []api.Entry{other, wantSign(by, other)}, other.Until)
		Raise(gateOf(other.Index, wantStep(by)), gateOf(other.From, by))
		Holds(api.Peer{Entry: other, Since: other.From, Under: other.Index})
		if p, err := Take(g, e, 6); p != want || err != api.OK {
			t.Fatalf("behind %s: %s, %d", show(other), showPeer(p), err)
		}
		if l := Those(g, []api.Entry{e, other}, 6); len(l) != 1 || l[0] != want || !Holds(l[0]) {
			t.Fatalf("behind %s: %s", show(other), showAll(l))
		}
		if r, err := Raise(g, young); r != young || err != api.OK {
			t.Fatalf("behind %s: %s, %d", show(other), showGate(r), err)
		}
		if p, err := Take(young, e, 6); p != (api.Peer{}) || err != api.ErrRevoked || Holds(p) {
			t.Fatalf("behind %s: %s, %d", show(other), showPeer(p), err)
		}
	}
}
