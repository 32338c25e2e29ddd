package msg

import (
	"bytes"
	"encoding/binary"
	"math"
	"reflect"
	"regexp"
	"slices"
	"strings"
	"testing"

	"carcanet/api"
)

// P16.1

var (
	nameForm = regexp.MustCompile(`\A[a-z][a-z0-9-]{0,15}\z`)
	keyForm  = regexp.MustCompile(`\A[!-~]{1,24}\z`)
)

// entryMayBe answers what chapter 11's Right has to, of its own.
func entryMayBe(e api.Entry) bool {
	const last = 1073741824
	return nameForm.MatchString(e.Name) && e.From >= 0 && e.From <= e.Until && e.Until <= last && e.Index >= 0 && e.Index <= 64 && len(e.Tag) == 32
}

// wantItem answers what Item has to.
func wantItem(i api.Item) bool {
	return keyForm.MatchString(i.Key) && len(i.Val) < 33 && i.Ver > 0 && i.Ver < 1073741825
}

// wantRight answers what Right has to, field by field.
func wantRight(m api.Msg) bool {
	const last = 1073741824
	has, ok := fields[m.Kind]
	if !ok || !alike(m, wantBare(m)) {
		return false
	}
	if m.Rid < 0 || m.Rid > last || m.Error < 0 || m.Error > 99 || m.Ver < 0 || m.Ver > last || len(m.Val) > 32 {
		return false
	}
	if slices.Contains(has, "Key") && !keyForm.MatchString(m.Key) {
		return false
	}
	if len(m.Entries) > 8 || m.Kind == 7 && len(m.Entries) != 1 || len(m.Items) > 16 {
		return false
	}
	return !slices.ContainsFunc(m.Entries, func(e api.Entry) bool { return !entryMayBe(e) }) && !slices.ContainsFunc(m.Items, func(i api.Item) bool { return !wantItem(i) })
}

// wantBare answers what Bare has to.
func wantBare(m api.Msg) api.Msg {
	bare := api.Msg{Kind: m.Kind, Rid: m.Rid}
	for _, field := range fields[m.Kind] {
		bare = give(bare, field, reflect.ValueOf(m).FieldByName(field).Interface())
	}
	return bare
}

func TestItemOfKnownItems(t *testing.T) {
	for _, x := range itemEdges() {
		if got := Item(x.item); got != x.right {
			t.Errorf("%.40q %.40q %d: %t", x.item.Key, x.item.Val, x.item.Ver, got)
		}
	}
}

func TestItemOfItemsOfAllKinds(t *testing.T) {
	for _, k := range keyEdges() {
		for _, v := range valEdges() {
			for _, ver := range []int{math.MinInt, -1, 0, 1, 1 << 30, 1<<30 + 1, 1<<32 + 1, math.MaxInt} {
				for _, gone := range []bool{false, true} {
					want := k.right && v.right && 1 <= ver && ver <= 1<<30
					if got := Item(api.Item{Key: k.text, Val: v.text, Ver: ver, Gone: gone}); got != want {
						t.Errorf("%.40q %.40q %d: %t", k.text, v.text, ver, got)
					}
				}
			}
		}
	}
	for b := range 256 {
		i := api.Item{Key: "k" + string([]byte{byte(b)}), Val: string([]byte{byte(b)}), Ver: 1}
		if got := Item(i); got != (33 <= b && b <= 126) {
			t.Errorf("a key with the byte %d: %t", b, got)
		}
	}
	for many := range 100 {
		if got := Item(api.Item{Key: strings.Repeat("k", many), Ver: 1}); got != (1 <= many && many <= 24) {
			t.Errorf("a key of %d bytes: %t", many, got)
		}
		if got := Item(api.Item{Key: "k", Val: made(many, 1), Ver: 1}); got != (many <= 32) {
			t.Errorf("a value of %d bytes: %t", many, got)
		}
	}
}

func TestBareOfKnownMessages(t *testing.T) {
	e, i := []api.Entry{plainEntry()}, ordinary()["Items"].([]api.Item)
	for kind, want := range map[int]api.Msg{
		1: {}, 2: {}, 3: {}, 4: {Has: true, Entries: e}, 5: {}, 6: {Id: 258}, 7: {Entries: e}, 8: {Gone: true, Key: "k/1", Val: "v 1"}, 9: {Error: 27, Ver: 5}, 10: {Key: "k/1"},
		11: {Error: 27, Has: true, Gone: true, Ver: 5, Val: "v 1"}, 12: {Items: i}, 13: {Error: 27}, 14: {Id: 258}, 15: {Error: 27, Items: i}, 16: {}, 0: {}, -1: {}, 17: {}, 256: {}, 257: {}, 264: {}, math.MinInt: {}, math.MaxInt: {},
	} {
		want.Kind, want.Rid = kind, 7
		if got := Bare(all(kind)); !alike(got, want) {
			t.Errorf("%s", show(got))
		}
		for _, rid := range []int{-1, 0, 1 << 30, 1<<30 + 1, math.MinInt, math.MaxInt} {
			m := all(kind)
			m.Rid, want.Rid = rid, rid
			if got := Bare(m); !alike(got, want) {
				t.Errorf("%s", show(got))
			}
		}
	}
}

// What a kind has stays, also what may not be; what it does not have is zero; and Bare twice is Bare once.
func TestBareOfMessagesOfAllKinds(t *testing.T) {
	for _, x := range samples() {
		got := Bare(x.m)
		if !alike(got, wantBare(x.m)) {
			t.Errorf("Bare of %s: %s", show(x.m), show(got))
		}
		if again := Bare(got); !alike(again, got) {
			t.Errorf("Bare twice of %s: %s", show(x.m), show(again))
		}
		if x.right && !alike(got, x.m) {
			t.Errorf("%s may be, and is not its Bare", show(x.m))
		}
	}
	for _, kind := range noKinds() {
		if got := Bare(all(kind)); !alike(got, api.Msg{Kind: kind, Rid: 7}) {
			t.Errorf("Bare of the kind %d: %s", kind, show(got))
		}
	}
}

func TestRightOfKnownMessages(t *testing.T) {
	for _, kind := range kinds() {
		for i, m := range []api.Msg{full(kind), greatest(kind), least(kind)} {
			if !Right(m) {
				t.Errorf("%d: %s may not be", i, show(m))
			}
		}
		must := kind == api.MPut || kind == api.MGet || kind == api.MFound
		if got := Right(api.Msg{Kind: kind}); got == must {
			t.Errorf("%d alone: %t", kind, got)
		}
		for _, field := range names() {
			if got := Right(give(full(kind), field, ordinary()[field])); got != slices.Contains(fields[kind], field) {
				t.Errorf("%d with %s: %t", kind, field, got)
			}
		}
		// A list without an element is no list, whatever its memory.
		for _, x := range []edge{{"Entries", []api.Entry{}, true}, {"Entries", entries(3)[:0], true}, {"Items", []api.Item{}, true}, {"Items", items(3)[:0], true}} {
			if got := Right(give(full(kind), x.field, x.value)); got != (kind != api.MFound || x.field == "Items") {
				t.Errorf("%d with empty %s: %t", kind, x.field, got)
			}
		}
	}
	if Right(api.Msg{}) {
		t.Error("the zero message may be")
	}
}

func TestRightOfMessagesAtEachEdge(t *testing.T) {
	seen := map[int][2]int{}
	for _, x := range samples() {
		if got := Right(x.m); got != x.right {
			t.Errorf("%s: %t", show(x.m), got)
		}
		if got := wantRight(x.m); got != x.right {
			t.Fatalf("the test is at odds with itself: %s: %t", show(x.m), got)
		}
		count := seen[x.m.Kind]
		if x.right {
			count[1]++
		} else {
			count[0]++
		}
		seen[x.m.Kind] = count
	}
	for _, kind := range kinds() {
		if seen[kind][0] < 100 || seen[kind][1] < 10 {
			t.Errorf("of the kind %d: %d alone may not be, and %d may", kind, seen[kind][0], seen[kind][1])
		}
	}
}

func TestRightOfWhatIsNoKind(t *testing.T) {
	for kind := -300; kind <= 600; kind++ {
		if got := Right(api.Msg{Kind: kind, Key: "k"}); got != (kind == api.MGet || kind == api.MPut) {
			t.Errorf("%d with a key: %t", kind, got)
		}
		if got := Right(api.Msg{Kind: kind}); got != (1 <= kind && kind <= 16 && kind != api.MPut && kind != api.MGet && kind != api.MFound) {
			t.Errorf("%d: %t", kind, got)
		}
	}
	for _, kind := range noKinds() {
		if Right(api.Msg{Kind: kind}) || Right(all(kind)) {
			t.Errorf("%d is a kind", kind)
		}
	}
}

// P16.2

func bit(on bool) byte {
	if on {
		return 1
	}
	return 0
}

func wantText(b []byte, s string) []byte {
	return append(binary.BigEndian.AppendUint16(b, uint16(len(s))), s...)
}

// entryBytes answers what chapter 11's Bytes has to.
func entryBytes(e api.Entry) string {
	b := wantText(nil, e.Name)
	b = binary.BigEndian.AppendUint64(b, e.Id)
	b = binary.BigEndian.AppendUint32(b, uint32(e.From))
	b = binary.BigEndian.AppendUint32(b, uint32(e.Until))
	b = binary.BigEndian.AppendUint16(b, uint16(e.Index))
	return string(b) + e.Tag
}

// wantBytes answers what Put has to, of a message that may be; of another one the bytes that it would have, numbers and lengths cut to their room.
func wantBytes(m api.Msg) []byte {
	b := binary.BigEndian.AppendUint32([]byte{byte(m.Kind)}, uint32(m.Rid))
	for _, field := range fields[m.Kind] {
		switch field {
		case "Error":
			b = binary.BigEndian.AppendUint16(b, uint16(m.Error))
		case "Has":
			b = append(b, bit(m.Has))
		case "Gone":
			b = append(b, bit(m.Gone))
		case "Id":
			b = binary.BigEndian.AppendUint64(b, m.Id)
		case "Ver":
			b = binary.BigEndian.AppendUint32(b, uint32(m.Ver))
		case "Key":
			b = wantText(b, m.Key)
		case "Val":
			b = wantText(b, m.Val)
		case "Entries":
			b = append(b, byte(len(m.Entries)))
			for _, e := range m.Entries {
				b = wantText(b, entryBytes(e))
			}
		case "Items":
			b = append(b, byte(len(m.Items)))
			for _, i := range m.Items {
				b = wantText(wantText(b, i.Key), i.Val)
				b = append(binary.BigEndian.AppendUint32(b, uint32(i.Ver)), bit(i.Gone))
			}
		}
	}
	return b
}

// Lengths and texts of entries and items, written by hand.
const (
	greatKey  = "\x00\x18~~~~~~~~~~~~~~~~~~~~~~~~"
	someItems = "\x02\x00\x03k/1\x00\x03v 1\x00\x00\x00\x03\x01\x00\x01k\x00\x00\x00\x00\x00\x01\x00"
)

var (
	greatEntry = "\x00\x44\x00\x10abcdefghijklmnop" + strings.Repeat("\xff", 8) + "\x40\x00\x00\x00\x40\x00\x00\x00\x00\x40" + strings.Repeat("\xff", 32)
	zeroEntry  = "\x00\x35\x00\x01a" + strings.Repeat("\x00", 50)
	someEntry  = "\x00\x3a\x00\x06node-1\x01\x02\x03\x04\x05\x06\x07\x08\x00\x00\x00\x05\x00\x00\x03\xe8\x00\x03" + made(32, 9)
	greatVal   = "\x00\x20" + strings.Repeat("\xff", 32)
	greatItem  = greatKey + greatVal + "\x40\x00\x00\x00\x01"
)

// Rids of the known messages.
const someRid, lastRid, noRid = "\x00\x00\x00\x07", "\x40\x00\x00\x00", "\x00\x00\x00\x00"

// written is the bytes of each kind's message, full, greatest and least.
var written = map[int][3]string{
	1:  {"\x01" + someRid, "\x01" + lastRid, "\x01" + noRid},
	2:  {"\x02" + someRid, "\x02" + lastRid, "\x02" + noRid},
	3:  {"\x03" + someRid, "\x03" + lastRid, "\x03" + noRid},
	4:  {"\x04" + someRid + "\x01\x01" + someEntry, "\x04" + lastRid + "\x01\x08" + strings.Repeat(greatEntry, 8), "\x04" + noRid + "\x00\x00"},
	5:  {"\x05" + someRid, "\x05" + lastRid, "\x05" + noRid},
	6:  {"\x06" + someRid + "\x00\x00\x00\x00\x00\x00\x01\x02", "\x06" + lastRid + "\xff\xff\xff\xff\xff\xff\xff\xff", "\x06" + noRid + noRid + noRid},
	7:  {"\x07" + someRid + "\x01" + someEntry, "\x07" + lastRid + "\x01" + greatEntry, "\x07" + noRid + "\x01" + zeroEntry},
	8:  {"\x08" + someRid + "\x01\x00\x03k/1\x00\x03v 1", "\x08" + lastRid + "\x01" + greatKey + greatVal, "\x08" + noRid + "\x00\x00\x01k\x00\x00"},
	9:  {"\x09" + someRid + "\x00\x1b\x00\x00\x00\x05", "\x09" + lastRid + "\x00\x63\x40\x00\x00\x00", "\x09" + noRid + "\x00\x00" + noRid},
	10: {"\x0a" + someRid + "\x00\x03k/1", "\x0a" + lastRid + greatKey, "\x0a" + noRid + "\x00\x01k"},
	11: {"\x0b" + someRid + "\x00\x1b\x01\x01\x00\x00\x00\x05\x00\x03v 1", "\x0b" + lastRid + "\x00\x63\x01\x01\x40\x00\x00\x00" + greatVal, "\x0b" + noRid + "\x00\x00\x00\x00" + noRid + "\x00\x00"},
	12: {"\x0c" + someRid + someItems, "\x0c" + lastRid + "\x10" + strings.Repeat(greatItem, 16), "\x0c" + noRid + "\x00"},
	13: {"\x0d" + someRid + "\x00\x1b", "\x0d" + lastRid + "\x00\x63", "\x0d" + noRid + "\x00\x00"},
	14: {"\x0e" + someRid + "\x00\x00\x00\x00\x00\x00\x01\x02", "\x0e" + lastRid + "\xff\xff\xff\xff\xff\xff\xff\xff", "\x0e" + noRid + noRid + noRid},
	15: {"\x0f" + someRid + "\x00\x1b" + someItems, "\x0f" + lastRid + "\x00\x63\x10" + strings.Repeat(greatItem, 16), "\x0f" + noRid + "\x00\x00\x00"},
	16: {"\x10" + someRid, "\x10" + lastRid, "\x10" + noRid},
}

// isPut asks that a message is put as these bytes, and taken from them.
func isPut(t *testing.T, m api.Msg, want string) {
	t.Helper()
	if got, e := Put(m); string(got) != want || e != api.OK {
		t.Errorf("Put of %s: %.300q, %d, wanted %.300q", show(m), got, e, want)
	}
	if got, e := Take([]byte(want)); !alike(got, m) || e != api.OK {
		t.Errorf("Take of %.300q: %s, %d, wanted %s", want, show(got), e, show(m))
	}
}

func TestPutOfEachKind(t *testing.T) {
	for _, kind := range kinds() {
		want := written[kind]
		for i, m := range []api.Msg{full(kind), greatest(kind), least(kind)} {
			isPut(t, m, want[i])
		}
	}
}

// Fields that are alike in what they are, and not in their place, are told apart.
func TestPutOfKnownMessages(t *testing.T) {
	for _, x := range []struct {
		m    api.Msg
		want string
	}{
		{api.Msg{Kind: api.MFind, Rid: 2, Id: 3}, "\x06\x00\x00\x00\x02\x00\x00\x00\x00\x00\x00\x00\x03"}, // the chapter's example
		{api.Msg{Kind: api.MPing, Rid: 0x01020304}, "\x01\x01\x02\x03\x04"},
		{api.Msg{Kind: api.MLeave, Rid: 0x3fffffff}, "\x10\x3f\xff\xff\xff"},
		{api.Msg{Kind: api.MHand, Rid: 1, Id: 0x0102030405060708}, "\x0e\x00\x00\x00\x01\x01\x02\x03\x04\x05\x06\x07\x08"},
		{api.Msg{Kind: api.MState, Has: true}, "\x04\x00\x00\x00\x00\x01\x00"},
		{api.Msg{Kind: api.MState, Entries: []api.Entry{longEntry(), plainEntry()}}, "\x04\x00\x00\x00\x00\x00\x02" + greatEntry + someEntry},
		{api.Msg{Kind: api.MPut, Gone: true, Key: "k"}, "\x08\x00\x00\x00\x00\x01\x00\x01k\x00\x00"},
		{api.Msg{Kind: api.MPut, Key: "ab", Val: "c"}, "\x08\x00\x00\x00\x00\x00\x00\x02ab\x00\x01c"},
		{api.Msg{Kind: api.MPut, Key: "a", Val: "bc"}, "\x08\x00\x00\x00\x00\x00\x00\x01a\x00\x02bc"},
		{api.Msg{Kind: api.MPut, Key: "k", Val: "\x00\xff"}, "\x08\x00\x00\x00\x00\x00\x00\x01k\x00\x02\x00\xff"},
		{api.Msg{Kind: api.MDone, Error: 2, Ver: 0x03040506}, "\x09\x00\x00\x00\x00\x00\x02\x03\x04\x05\x06"},
		{api.Msg{Kind: api.MDone, Error: 52}, "\x09\x00\x00\x00\x00\x00\x34\x00\x00\x00\x00"},
		{api.Msg{Kind: api.MValue, Has: true, Ver: 0x01020304}, "\x0b\x00\x00\x00\x00\x00\x00\x01\x00\x01\x02\x03\x04\x00\x00"},
		{api.Msg{Kind: api.MValue, Gone: true, Val: "v"}, "\x0b\x00\x00\x00\x00\x00\x00\x00\x01\x00\x00\x00\x00\x00\x01v"},
		{api.Msg{Kind: api.MValue, Error: 45}, "\x0b\x00\x00\x00\x00\x00\x2d\x00\x00\x00\x00\x00\x00\x00\x00"},
		{api.Msg{Kind: api.MCopy, Items: []api.Item{{Key: "ab", Val: "c", Ver: 0x01020304}, {Key: "a", Val: "bc", Ver: 1, Gone: true}}}, "\x0c\x00\x00\x00\x00\x02\x00\x02ab\x00\x01c\x01\x02\x03\x04\x00\x00\x01a\x00\x02bc\x00\x00\x00\x01\x01"},
		{api.Msg{Kind: api.MItems, Error: 1, Items: []api.Item{longItem()}}, "\x0f\x00\x00\x00\x00\x00\x01\x01" + greatItem},
		{api.Msg{Kind: api.MTaken, Rid: 255, Error: 41}, "\x0d\x00\x00\x00\xff\x00\x29"},
	} {
		isPut(t, x.m, x.want)
	}
}

func TestPutOfMessagesAtEachEdge(t *testing.T) {
	for _, x := range samples() {
		var want []byte
		wantErr := api.ErrArg
		if x.right {
			want, wantErr = wantBytes(x.m), api.OK
		}
		if got, e := Put(x.m); !bytes.Equal(got, want) || e != wantErr {
			t.Errorf("%s: %.300q, %d, wanted %.300q, %d", show(x.m), got, e, want, wantErr)
		}
	}
}

func TestPutOfTextsAndListsOfEachLength(t *testing.T) {
	for many := range 25 {
		m := api.Msg{Kind: api.MGet, Key: strings.Repeat("k", many)}
		if got, e := Put(m); many > 0 && (!bytes.Equal(got, wantBytes(m)) || e != api.OK) || many == 0 && e != api.ErrArg {
			t.Errorf("a key of %d bytes: %q, %d", many, got, e)
		}
	}
	for many := range 33 {
		isPut(t, api.Msg{Kind: api.MPut, Key: "k", Val: made(many, 2)}, "\x08\x00\x00\x00\x00\x00\x00\x01k\x00"+string([]byte{byte(many)})+made(many, 2))
	}
	for many := range 9 {
		m := api.Msg{Kind: api.MState, Entries: entries(many)}
		isPut(t, m, string(wantBytes(m)))
	}
	for many := range 17 {
		m := api.Msg{Kind: api.MItems, Items: items(many)}
		isPut(t, m, string(wantBytes(m)))
	}
}

// P16.3

// A cutter takes bytes off, and keeps the error that it met first.
type cutter struct {
	rest []byte
	err  api.Errno
	odd  bool
}

func (c *cutter) meet(e api.Errno) {
	if c.err == 0 {
		c.err = e
	}
}

func (c *cutter) next(n int) []byte {
	if len(c.rest) < n {
		c.meet(10)
	}
	if c.err != 0 {
		return make([]byte, n)
	}
	b := c.rest[:n]
	c.rest = c.rest[n:]
	return b
}

func (c *cutter) number(n int) uint64 {
	return binary.BigEndian.Uint64(append(make([]byte, 8-n), c.next(n)...))
}

func (c *cutter) text(most int) string {
	n := int(c.number(2))
	if n > most {
		c.meet(3)
	}
	return string(c.next(n))
}

func (c *cutter) flag() bool {
	b := c.next(1)[0]
	c.odd = c.odd || b > 1
	return b == 1
}

func (c *cutter) list(most int, next func()) {
	n := int(c.number(1))
	if n > most {
		c.meet(3)
	}
	for i := 0; i < n && c.err == 0; i++ {
		next()
	}
}

// wantEntry answers the entry that these bytes are, if they are one that may be.
func wantEntry(b string) (api.Entry, bool) {
	if len(b) < 2 {
		return api.Entry{}, false
	}
	size := int(b[0])*256 + int(b[1])
	if len(b) != 2+size+8+4+4+2+32 {
		return api.Entry{}, false
	}
	rest := []byte(b[2+size:])
	e := api.Entry{Name: b[2 : 2+size], Id: binary.BigEndian.Uint64(rest), From: int(binary.BigEndian.Uint32(rest[8:])), Until: int(binary.BigEndian.Uint32(rest[12:])), Index: int(binary.BigEndian.Uint16(rest[16:])), Tag: string(rest[18:])}
	return e, entryMayBe(e)
}

// field cuts one of a message's fields off.
func (c *cutter) field(m *api.Msg, field string) {
	switch field {
	case "Error":
		m.Error = api.Errno(c.number(2))
	case "Has":
		m.Has = c.flag()
	case "Gone":
		m.Gone = c.flag()
	case "Id":
		m.Id = c.number(8)
	case "Ver":
		m.Ver = int(c.number(4))
	case "Key":
		m.Key = c.text(24)
	case "Val":
		m.Val = c.text(32)
	case "Entries":
		c.list(8, func() {
			e, ok := wantEntry(c.text(128))
			c.odd = c.odd || !ok
			m.Entries = append(m.Entries, e)
		})
	case "Items":
		c.list(16, func() {
			i := api.Item{Key: c.text(24)}
			i.Val = c.text(32)
			i.Ver = int(c.number(4))
			i.Gone = c.flag()
			m.Items = append(m.Items, i)
		})
	}
}

// wantTake answers what Take has to.
func wantTake(b []byte) (api.Msg, api.Errno) {
	if len(b) == 0 {
		return api.Msg{}, 10
	}
	has, ok := fields[int(b[0])]
	if !ok {
		return api.Msg{}, 13
	}
	c := &cutter{rest: b}
	m := api.Msg{Kind: int(c.number(1))}
	m.Rid = int(c.number(4))
	for _, field := range has {
		c.field(&m, field)
	}
	if len(c.rest) > 0 {
		c.meet(12)
	}
	if c.odd || !wantRight(m) {
		c.meet(11)
	}
	if c.err != 0 {
		return api.Msg{}, c.err
	}
	return m, 0
}

// rightTake asks whether Take is what it should be, and answers its error.
func rightTake(t *testing.T, b []byte) api.Errno {
	t.Helper()
	want, wantErr := wantTake(b)
	got, e := Take(b)
	if !alike(got, want) || e != wantErr {
		t.Errorf("Take of %d bytes %.300q: %s, %d, wanted %s, %d", len(b), b, show(got), e, show(want), wantErr)
	}
	return e
}

// refused asks that Take tells this error, and the zero message.
func refused(t *testing.T, b string, want api.Errno) {
	t.Helper()
	if got, e := Take([]byte(b)); !alike(got, api.Msg{}) || e != want {
		t.Errorf("Take of %d bytes %.300q: %s, %d, wanted %d", len(b), b, show(got), e, want)
	}
	if _, e := wantTake([]byte(b)); e != want {
		t.Errorf("the test is at odds with itself: %d bytes %.300q: %d", len(b), b, e)
	}
}

func TestTakeOfNoBytes(t *testing.T) {
	refused(t, "", api.ErrShort)
	for _, b := range [][]byte{nil, {}, make([]byte, 0, 100), []byte(written[1][0])[:0]} {
		if got, e := Take(b); !alike(got, api.Msg{}) || e != api.ErrShort {
			t.Errorf("%s, %d", show(got), e)
		}
	}
}

// A first byte that is no kind is told ahead of all else.
func TestTakeOfEachFirstByte(t *testing.T) {
	var rests []string
	for _, kind := range kinds() {
		for _, text := range written[kind] {
			rests = append(rests, text[1:])
		}
	}
	rests = append(rests, "", "\x00", "\x00\x00\x00", "\x00\x00\x00\x00", "\xff\xff\xff\xff", strings.Repeat("\xff", 100), strings.Repeat("\x00", 100), made(50, 3), strings.Repeat("\x01", 5000))
	for kind := range 256 {
		for _, rest := range rests {
			b := string([]byte{byte(kind)}) + rest
			if kind < 1 || kind > 16 {
				refused(t, b, api.ErrKind)
			}
			rightTake(t, []byte(b))
		}
	}
}

func TestTakeOfWhatIsCutShort(t *testing.T) {
	for _, kind := range kinds() {
		for _, b := range written[kind] {
			for at := range b {
				refused(t, b[:at], api.ErrShort)
			}
		}
	}
}

func TestTakeOfMoreBytes(t *testing.T) {
	for _, kind := range kinds() {
		for _, b := range written[kind] {
			for x := range 256 {
				refused(t, b+string([]byte{byte(x)}), api.ErrRest)
			}
			for _, more := range []string{b, "\x00\x00", strings.Repeat("\x00", 2048), made(300, 4)} {
				refused(t, b+more, api.ErrRest)
			}
		}
	}
}

// head answers a kind's first byte and its Rid, 7.
func head(kind int) string { return string([]byte{byte(kind)}) + "\x00\x00\x00\x07" }

// sized answers a text of so many bytes, its length ahead.
func sized(many int) string { return string(wantText(nil, strings.Repeat("k", many))) }

func TestTakeOfTextsOfEachLength(t *testing.T) {
	take := func(many, most int, b string, want api.Msg) {
		t.Helper()
		if many > most {
			refused(t, b, api.ErrBig)
		} else if got, e := Take([]byte(b)); !alike(got, want) || e != api.OK {
			t.Errorf("a text of %d bytes: %s, %d", many, show(got), e)
		}
	}
	for many := range 300 {
		k := strings.Repeat("k", many)
		if many > 0 {
			take(many, 24, head(10)+sized(many), api.Msg{Kind: 10, Rid: 7, Key: k})
			take(many, 24, head(8)+"\x00"+sized(many)+"\x00\x01v", api.Msg{Kind: 8, Rid: 7, Key: k, Val: "v"})
			take(many, 24, head(12)+"\x01"+sized(many)+"\x00\x00\x00\x00\x00\x01\x00", api.Msg{Kind: 12, Rid: 7, Items: []api.Item{{Key: k, Ver: 1}}})
		}
		take(many, 32, head(8)+"\x00\x00\x01k"+sized(many), api.Msg{Kind: 8, Rid: 7, Key: "k", Val: k})
		take(many, 32, head(11)+"\x00\x00\x00\x00\x00\x00\x00\x00"+sized(many), api.Msg{Kind: 11, Rid: 7, Val: k})
		take(many, 32, head(15)+"\x00\x00\x01\x00\x01k"+sized(many)+"\x00\x00\x00\x01\x01", api.Msg{Kind: 15, Rid: 7, Items: []api.Item{{Key: "k", Val: k, Ver: 1, Gone: true}}})
		want := api.ErrForm
		if many > 128 {
			want = api.ErrBig
		}
		refused(t, head(7)+"\x01"+sized(many), want)
		refused(t, head(4)+"\x00\x02"+someEntry+sized(many), want)
	}
}

// A text that is too long is told whether its bytes are there or not.
func TestTakeOfTextsThatAreTooLong(t *testing.T) {
	for _, x := range []struct {
		ahead string
		most  int
	}{
		{head(10), 24}, {head(8) + "\x01", 24}, {head(8) + "\x01\x00\x01k", 32}, {head(11) + "\x00\x00\x00\x00\x00\x00\x00\x00", 32}, {head(4) + "\x01\x01", 128}, {head(7) + "\x01", 128}, {head(4) + "\x01\x02" + someEntry, 128},
		{head(12) + "\x01", 24}, {head(12) + "\x01\x00\x01k", 32}, {head(12) + "\x02" + greatItem, 24}, {head(15) + "\x00\x00\x01", 24}, {head(15) + "\x00\x00\x10" + strings.Repeat(greatItem, 15) + greatKey, 32},
	} {
		for _, many := range []int{x.most + 1, x.most + 2, 255, 256, 256 + x.most, 1 << 15, 65535} {
			size := string([]byte{byte(many >> 8), byte(many)})
			for _, behind := range []string{"", "k", strings.Repeat("k", many), strings.Repeat("k", many+1), strings.Repeat("k", x.most), strings.Repeat("\x00", 200)} {
				refused(t, x.ahead+size+behind, api.ErrBig)
			}
		}
		refused(t, x.ahead, api.ErrShort)
		refused(t, x.ahead+"\xff", api.ErrShort)
		refused(t, x.ahead+"\x00", api.ErrShort)
		refused(t, x.ahead+string([]byte{0, byte(x.most)}), api.ErrShort)
		refused(t, x.ahead+string([]byte{0, byte(x.most)})+strings.Repeat("k", x.most-1), api.ErrShort)
	}
}

// flags answers, for each byte that should be 1 or 0, what stands ahead of it, and behind it.
func flags() [][2]string {
	return [][2]string{
		{head(4), "\x00"}, {head(4), "\x01" + someEntry}, {head(8), "\x00\x01k\x00\x00"}, {head(11) + "\x00\x00", "\x00\x00\x00\x00\x00\x00\x00"}, {head(11) + "\x00\x00", "\x01\x00\x00\x00\x00\x00\x00"}, {head(11) + "\x00\x00\x00", "\x00\x00\x00\x00\x00\x00"}, {head(11) + "\x00\x00\x01", "\x00\x00\x00\x00\x00\x00"},
		{head(12) + "\x01\x00\x01k\x00\x00\x00\x00\x00\x01", ""}, {head(12) + "\x02\x00\x01k\x00\x00\x00\x00\x00\x01", greatItem}, {head(15) + "\x00\x00\x10" + strings.Repeat(greatItem, 15) + greatItem[:len(greatItem)-1], ""},
	}
}

func TestTakeOfEachFlag(t *testing.T) {
	for _, x := range flags() {
		for b := range 256 {
			text := x[0] + string([]byte{byte(b)}) + x[1]
			if b > 1 {
				refused(t, text, api.ErrForm)
				continue
			}
			if _, e := Take([]byte(text)); e != api.OK {
				t.Errorf("%.300q: %d", text, e)
			}
			rightTake(t, []byte(text))
		}
	}
}

// entryTexts answers texts that are no entry, or one that may not be, of at most 128 bytes each.
func entryTexts() []string {
	list := []string{"", "\x00", "\x00\x01", "\x00\x11abcdefghijklmnopq" + strings.Repeat("\x00", 50), "\xff\xff", strings.Repeat("\x00", 52), strings.Repeat("\x00", 128), strings.Repeat("\xff", 128), made(53, 5), entryBytes(plainEntry()) + "\x00", entryBytes(longEntry()) + strings.Repeat("\x00", 60), "\x00" + entryBytes(plainEntry())}
	for at := range entryBytes(plainEntry()) {
		list = append(list, entryBytes(plainEntry())[:at])
	}
	for _, e := range oddEntries() {
		list = append(list, entryBytes(e))
	}
	return list
}

func TestTakeOfEntriesThatMayNotBe(t *testing.T) {
	for _, text := range entryTexts() {
		odd := string(wantText(nil, text))
		refused(t, head(7)+"\x01"+odd, api.ErrForm)
		for many := range 8 {
			for at := range many + 1 {
				refused(t, head(4)+"\x01"+string([]byte{byte(many + 1)})+strings.Repeat(someEntry, at)+odd+strings.Repeat(greatEntry, many-at), api.ErrForm)
			}
		}
	}
}

func TestTakeOfItemsThatMayNotBe(t *testing.T) {
	for _, odd := range []string{
		"\x00\x00\x00\x00\x00\x00\x00\x01\x00", "\x00\x01 \x00\x00\x00\x00\x00\x01\x00", "\x00\x03a b\x00\x00\x00\x00\x00\x01\x00", "\x00\x02\xc3\xa9\x00\x00\x00\x00\x00\x01\x00", "\x00\x01\x7f\x00\x00\x00\x00\x00\x01\x00",
		"\x00\x01k\x00\x00\x00\x00\x00\x00\x00", "\x00\x01k\x00\x00\x40\x00\x00\x01\x00", "\x00\x01k\x00\x00\x80\x00\x00\x00\x00", "\x00\x01k\x00\x00\xff\xff\xff\xff\x01", "\x00\x01k\x00\x00\x00\x00\x00\x01\x02", strings.Repeat("\x00", 9),
	} {
		for many := range 16 {
			for at := range many + 1 {
				l := string([]byte{byte(many + 1)}) + strings.Repeat(greatItem, at) + odd + strings.Repeat(greatItem, many-at)
				refused(t, head(12)+l, api.ErrForm)
				refused(t, head(15)+"\x00\x1b"+l, api.ErrForm)
			}
		}
	}
}

func TestTakeOfNumbersAndKeysThatMayNotBe(t *testing.T) {
	for _, kind := range kinds() {
		for _, b := range written[kind] {
			for _, rid := range []string{"\x40\x00\x00\x01", "\x40\x00\x01\x00", "\x41\x00\x00\x00", "\x7f\xff\xff\xff", "\x80\x00\x00\x00", "\x80\x00\x00\x07", "\xff\xff\xff\xff"} {
				refused(t, b[:1]+rid+b[5:], api.ErrForm)
			}
		}
	}
	for error := 0; error < 65536; error += 1 + error/200*50 {
		n := string([]byte{byte(error >> 8), byte(error)})
		for _, x := range [][2]string{{head(9) + n, "\x00\x00\x00\x05"}, {head(13) + n, ""}, {head(15) + n, someItems}, {head(11) + n, "\x00\x00\x00\x00\x00\x00\x00\x00"}} {
			if error > 99 {
				refused(t, x[0]+x[1], api.ErrForm)
			} else if got, e := Take([]byte(x[0] + x[1])); got.Error != api.Errno(error) || e != api.OK {
				t.Errorf("the error %d: %s, %d", error, show(got), e)
			}
		}
	}
	for _, ver := range []string{"\x40\x00\x00\x01", "\x40\x00\x01\x00", "\x7f\xff\xff\xff", "\x80\x00\x00\x00", "\x80\x00\x00\x01", "\xff\xff\xff\xff"} {
		refused(t, head(9)+"\x00\x00"+ver, api.ErrForm)
		refused(t, head(11)+"\x00\x00\x01\x00"+ver+"\x00\x00", api.ErrForm)
	}
	for _, x := range keyEdges() {
		key := string(wantText(nil, x.text))
		for _, b := range []string{head(10) + key, head(8) + "\x00" + key + "\x00\x00"} {
			if !x.right && len(x.text) <= 24 {
				refused(t, b, api.ErrForm)
			}
			rightTake(t, []byte(b))
		}
	}
}

// A list whose length is above what may be is not read, whatever stands behind it.
func TestTakeOfListsOfEachLength(t *testing.T) {
	for many := range 256 {
		n := string([]byte{byte(many)})
		for _, x := range []struct {
			ahead, one  string
			least, most int
		}{{head(4) + "\x01" + n, someEntry, 0, 8}, {head(7) + n, someEntry, 1, 1}, {head(12) + n, greatItem, 0, 16}, {head(15) + "\x00\x00" + n, greatItem, 0, 16}} {
			unread := 16
			if x.one == someEntry {
				unread = 8
			}
			for _, there := range []int{0, 1, 7, 8, 9, 15, 16, 17, max(many-1, 0), many, many + 1} {
				b := x.ahead + strings.Repeat(x.one, there)
				switch {
				case many > unread:
					refused(t, b, api.ErrBig)
					refused(t, b+"\x00", api.ErrBig)
				case there < many:
					refused(t, b, api.ErrShort)
				case there > many:
					refused(t, b, api.ErrRest)
				case many < x.least || many > x.most:
					refused(t, b, api.ErrForm)
				default:
					if got, e := Take([]byte(b)); e != api.OK || len(got.Entries)+len(got.Items) != many {
						t.Errorf("%d: %s, %d", many, show(got), e)
					}
				}
			}
		}
	}
}

// What a reader meets is told ahead of what has no form, and of that what it meets first.
func TestWhichErrorOfTakeComesFirst(t *testing.T) {
	wrong := "\x00\x00" // a text of no entry, or a key of no bytes
	for i, x := range []struct {
		b    string
		want api.Errno
	}{
		{"\x00", api.ErrKind}, {"\x11", api.ErrKind}, {"\xff\xff\xff\xff\xff\xff", api.ErrKind}, {"\x01", api.ErrShort}, {"\x01\xff\xff\xff", api.ErrShort}, {"\x01\xff\xff\xff\xff\x00", api.ErrRest}, {"\x01\xff\xff\xff\xff", api.ErrForm},
		{head(4) + "\x02", api.ErrShort}, {head(4) + "\x02\x09", api.ErrBig}, {head(4) + "\x02\x01", api.ErrShort}, {head(4) + "\x02\x00\x00", api.ErrRest}, {head(4) + "\x02\x00", api.ErrForm}, {"\x04\xff\xff\xff\xff\x02\x09", api.ErrBig},
		{head(4) + "\x01\x02" + wrong, api.ErrShort}, {head(4) + "\x01\x02" + wrong + "\x00\x81", api.ErrBig}, {head(4) + "\x01\x02" + wrong + wrong + "\x00", api.ErrRest}, {head(4) + "\x01\x02" + wrong + wrong, api.ErrForm}, {head(4) + "\x01\x02\x00\x81" + wrong, api.ErrBig},
		{head(7) + "\x00\x00", api.ErrRest}, {head(7) + "\x00", api.ErrForm}, {head(7) + "\x02" + someEntry, api.ErrShort}, {head(7) + "\x02" + someEntry + someEntry + "\x00", api.ErrRest}, {head(7) + "\x02" + someEntry + someEntry, api.ErrForm}, {head(7) + "\x08" + strings.Repeat(someEntry, 8), api.ErrForm}, {head(7) + "\x09" + strings.Repeat(someEntry, 9), api.ErrBig}, {head(7) + "\xff", api.ErrBig},
		{head(8) + "\x02" + wrong, api.ErrShort}, {head(8) + "\x02" + wrong + "\x00\x21", api.ErrBig}, {head(8) + "\x02" + wrong + "\x00\x00\x00", api.ErrRest}, {head(8) + "\x02" + wrong + "\x00\x00", api.ErrForm}, {head(8) + "\x00\x00\x19", api.ErrBig}, {head(8) + "\x00\x00\x19" + strings.Repeat("k", 25), api.ErrBig}, {head(8) + "\x00\x00\x18k\x00\x21", api.ErrShort}, {head(8) + "\x00\x00\x18" + strings.Repeat("k", 23), api.ErrShort},
		{head(9) + "\xff\xff\xff\xff\xff", api.ErrShort}, {head(9) + "\xff\xff\xff\xff\xff\xff\x00", api.ErrRest}, {head(9) + "\xff\xff\xff\xff\xff\xff", api.ErrForm},
		{head(10) + "\x00", api.ErrShort}, {head(10) + wrong + "\x00", api.ErrRest}, {head(10) + wrong, api.ErrForm}, {head(10) + "\x00\x19", api.ErrBig}, {"\x0a\xff\xff\xff\xff\x00\x19", api.ErrBig},
		{head(11) + "\xff\xff\x02\x02\xff\xff\xff\xff\x00\x21", api.ErrBig}, {head(11) + "\xff\xff\x02\x02\xff\xff\xff\xff\x00", api.ErrShort}, {head(11) + "\xff\xff\x02\x02\xff\xff\xff\xff\x00\x00\x00", api.ErrRest}, {head(11) + "\xff\xff\x02\x02\xff\xff\xff\xff\x00\x00", api.ErrForm},
		{head(12) + "\x11", api.ErrBig}, {head(12) + "\x11" + strings.Repeat(greatItem, 18), api.ErrBig}, {head(12) + "\x02" + wrong + "\x00\x00\x00\x00\x00\x00\x02", api.ErrShort}, {head(12) + "\x02" + wrong + "\x00\x00\x00\x00\x00\x00\x02\x00\x19", api.ErrBig}, {head(12) + "\x01" + wrong + "\x00\x00\x00\x00\x00\x00\x02\x00", api.ErrRest}, {head(12) + "\x01" + wrong + "\x00\x00\x00\x00\x00\x00\x02", api.ErrForm}, {head(12) + "\x02\x00\x19" + wrong, api.ErrBig}, {head(12) + "\x01\x00\x01k\x00\x21", api.ErrBig}, {head(12) + "\x01\x00\x01", api.ErrShort},
		{head(15) + "\xff\xff", api.ErrShort}, {head(15) + "\xff\xff\x11", api.ErrBig}, {head(15) + "\xff\xff\x00\x00", api.ErrRest}, {head(15) + "\xff\xff\x00", api.ErrForm}, {head(15) + "\x11", api.ErrShort}, {head(15)[:4], api.ErrShort}, {head(13) + "\xff", api.ErrShort}, {head(14) + "\xff\xff\xff\xff\xff\xff\xff", api.ErrShort}, {head(14) + strings.Repeat("\xff", 9), api.ErrRest},
	} {
		if got, e := Take([]byte(x.b)); !alike(got, api.Msg{}) || e != x.want {
			t.Errorf("%d: %.100q: %s, %d, wanted %d", i, x.b, show(got), e, x.want)
		}
	}
}

// Each byte of each kind's message is changed to each other one, and what comes of that is also cut, and made longer.
func TestTakeOfEachByteAtEachPlace(t *testing.T) {
	seen := map[api.Errno]int{}
	for _, kind := range kinds() {
		for i, text := range written[kind] {
			for at := range text {
				if i == 1 && at > 80 && at < len(text)-70 {
					continue // the same entry, or item, again
				}
				for x := range 256 {
					b := []byte(text)
					b[at] = byte(x)
					seen[rightTake(t, b)]++
					if x < 3 {
						rightTake(t, b[:len(b)-1])
						rightTake(t, append(b, 0))
					}
				}
			}
		}
	}
	for _, e := range []api.Errno{api.OK, api.ErrBig, api.ErrShort, api.ErrForm, api.ErrRest, api.ErrKind} {
		if seen[e] == 0 {
			t.Errorf("%d was not met", e)
		}
	}
}

func TestTakeOfBytesOfAllKinds(t *testing.T) {
	for many := range 120 {
		for seed := range 40 {
			b := []byte(made(many, byte(seed)))
			rightTake(t, b)
			if many > 8 {
				copy(b, head(seed%17))
				rightTake(t, b)
				copy(b[5:], "\x00\x00\x01\x00\x01")
				rightTake(t, b)
			}
		}
	}
	for _, x := range samples() {
		rightTake(t, wantBytes(x.m))
	}
}

// P16.4

// differ answers values of each field, each one unlike the field's ordinary one, and unlike the next one.
func differ() map[string][]any {
	return map[string][]any{
		"Kind": {0, 1, 16, -1, 256, math.MinInt, math.MaxInt}, "Rid": {0, 1, -1, 1 << 32, math.MinInt, math.MaxInt}, "Ver": {0, 1, -1, 1 << 32, math.MinInt, math.MaxInt}, "Error": {api.Errno(0), api.Errno(1), api.Errno(-1), api.Errno(1 << 32), api.Errno(math.MinInt)},
		"Id": {uint64(0), uint64(1), uint64(1 << 63), uint64(math.MaxUint64)}, "Has": {false}, "Gone": {false}, "Key": {"", "k", "k/1\x00", "k/", "K/1", strings.Repeat("k", 70000)}, "Val": {"", "v", "v 1\x00", "v ", "V 1", strings.Repeat("v", 70000)},
		"Entries": {[]api.Entry{}, []api.Entry{{}}, []api.Entry{plainEntry(), plainEntry()}, []api.Entry{plainEntry(), {}}, entries(9)}, "Items": {[]api.Item{}, []api.Item{{}}, []api.Item{plainItem()}, append(ordinary()["Items"].([]api.Item), api.Item{}), items(17)},
	}
}

// areSame asks both ways round whether messages are alike.
func areSame(t *testing.T, a, b api.Msg, want bool) {
	t.Helper()
	if got := Same(a, b); got != want {
		t.Errorf("%s and %s: %t", show(a), show(b), got)
	}
	if got := Same(b, a); got != want {
		t.Errorf("%s and %s, the other way round: %t", show(a), show(b), got)
	}
}

func TestSameOfMessagesThatDifferInOneField(t *testing.T) {
	count := reflect.TypeFor[api.Msg]().NumField()
	for _, kind := range append(kinds(), 0, -1, 17) {
		a := all(kind)
		areSame(t, a, all(kind), true)
		if len(differ()) != count {
			t.Fatalf("%d fields alone, of %d", len(differ()), count)
		}
		for field, values := range differ() {
			for i, value := range values {
				b := give(all(kind), field, value)
				areSame(t, a, b, field == "Kind" && value == kind)
				areSame(t, b, give(all(kind), field, value), true)
				if len(values) > 1 {
					areSame(t, b, give(all(kind), field, values[(i+1)%len(values)]), false)
				}
			}
		}
	}
}

// Fields of one type, and lists, are not taken for one another.
func TestSameOfFieldsThatChangePlaces(t *testing.T) {
	for _, x := range [][2]api.Msg{
		{{Kind: 1, Rid: 2, Ver: 3}, {Kind: 2, Rid: 1, Ver: 3}}, {{Kind: 1, Rid: 2, Ver: 3}, {Kind: 1, Rid: 3, Ver: 2}}, {{Kind: 1, Rid: 2, Ver: 3}, {Kind: 3, Rid: 2, Ver: 1}}, {{Error: 3}, {Ver: 3}}, {{Id: 3}, {Ver: 3}}, {{Has: true}, {Gone: true}}, {{Key: "k"}, {Val: "k"}}, {{Key: "ab", Val: "c"}, {Key: "a", Val: "bc"}},
		{{Entries: entries(2)}, {Entries: []api.Entry{entries(2)[1], entries(2)[0]}}}, {{Items: items(2)}, {Items: []api.Item{items(2)[1], items(2)[0]}}}, {{Entries: make([]api.Entry, 1)}, {Items: make([]api.Item, 1)}},
	} {
		areSame(t, x[0], x[1], false)
	}
}

func TestSameOfLists(t *testing.T) {
	lists := []api.Msg{{}, {Entries: []api.Entry{}}, {Items: []api.Item{}}, {Entries: []api.Entry{}, Items: []api.Item{}}, {Entries: entries(2)[:0]}, {Items: items(2)[:0]}}
	for _, a := range lists {
		for _, b := range lists {
			areSame(t, a, b, true)
		}
	}
	for a := range 10 {
		for b := range 10 {
			areSame(t, api.Msg{Entries: entries(a)}, api.Msg{Entries: entries(b)}, a == b)
			areSame(t, api.Msg{Entries: make([]api.Entry, a)}, api.Msg{Entries: make([]api.Entry, b)}, a == b)
		}
	}
	for a := range 18 {
		for b := range 18 {
			areSame(t, api.Msg{Items: items(a)}, api.Msg{Items: items(b)}, a == b)
			areSame(t, api.Msg{Items: make([]api.Item, a)}, api.Msg{Items: make([]api.Item, b)}, a == b)
		}
	}
}

func TestSameOfListsWithOneUnlikeElement(t *testing.T) {
	for _, many := range []int{1, 2, 8, 9, 100} {
		for at := range many {
			for _, change := range []func(e *api.Entry){
				func(e *api.Entry) { e.Name += "x" }, func(e *api.Entry) { e.Id ^= 1 << 63 }, func(e *api.Entry) { e.From-- }, func(e *api.Entry) { e.Until++ }, func(e *api.Entry) { e.Index++ }, func(e *api.Entry) { e.Tag = e.Tag[:31] + "x" }, func(e *api.Entry) { *e = api.Entry{} },
			} {
				a, b := api.Msg{Kind: 4, Entries: entries(many)}, api.Msg{Kind: 4, Entries: entries(many)}
				change(&b.Entries[at])
				areSame(t, a, b, false)
			}
		}
	}
	for _, many := range []int{1, 2, 16, 17, 100} {
		for at := range many {
			for _, change := range []func(i *api.Item){
				func(i *api.Item) { i.Key += "x" }, func(i *api.Item) { i.Val += "x" }, func(i *api.Item) { i.Ver-- }, func(i *api.Item) { i.Gone = !i.Gone }, func(i *api.Item) { *i = api.Item{} },
			} {
				a, b := api.Msg{Kind: 12, Items: items(many)}, api.Msg{Kind: 12, Items: items(many)}
				change(&b.Items[at])
				areSame(t, a, b, false)
			}
		}
	}
}

// A message is like itself, and like none of the others.
func TestSameOfMessagesOfAllKinds(t *testing.T) {
	list := samples()
	for i, x := range list {
		areSame(t, x.m, x.m, true)
		for _, step := range []int{1, 7, 1000} {
			other := list[(i+step)%len(list)].m
			areSame(t, x.m, other, alike(x.m, other))
		}
	}
}

func TestCopyOfMessagesOfAllKinds(t *testing.T) {
	for _, x := range samples() {
		if got := Copy(x.m); !alike(got, x.m) || !Same(got, x.m) {
			t.Errorf("%s is copied as %s", show(x.m), show(got))
		}
	}
	for _, m := range []api.Msg{{}, {Entries: []api.Entry{}, Items: []api.Item{}}, {Kind: math.MinInt, Rid: math.MaxInt, Entries: make([]api.Entry, 1000), Items: make([]api.Item, 1000)}} {
		if got := Copy(m); !alike(got, m) {
			t.Errorf("%s is copied as %s", show(m), show(got))
		}
	}
}

func TestAnswer(t *testing.T) {
	want := map[int]int{1: 2, 3: 4, 5: 2, 6: 7, 8: 9, 10: 11, 12: 13, 14: 15, 16: 2}
	for kind := -300; kind <= 600; kind++ {
		if got := Answer(kind); got != want[kind] {
			t.Errorf("%d: %d, wanted %d", kind, got, want[kind])
		}
	}
	for _, kind := range noKinds() {
		if got := Answer(kind); got != 0 {
			t.Errorf("%d: %d", kind, got)
		}
	}
}

// P16.5

func TestWhatIsPutIsTakenAsItWas(t *testing.T) {
	for _, m := range right() {
		b, e := Put(m)
		if e != api.OK {
			t.Errorf("%s is not put: %d", show(m), e)
		}
		if got, e := Take(b); !alike(got, m) || !Same(got, m) || e != api.OK {
			t.Errorf("%s is taken as %s, %d", show(m), show(got), e)
		}
		if len(b) > api.MaxPacket {
			t.Errorf("%s has %d bytes", show(m), len(b))
		}
	}
}

// putBack asks that what is taken may be, and is put as it was: no two rows of bytes are one message.
func putBack(t *testing.T, b []byte) bool {
	t.Helper()
	m, e := Take(b)
	if e != api.OK {
		return false
	}
	if got, f := Put(m); !Right(m) || !bytes.Equal(got, b) || f != api.OK {
		t.Errorf("%.300q is taken as %s, and put as %.300q, %d", b, show(m), got, f)
	}
	return true
}

func TestWhatIsTakenIsPutAsItWas(t *testing.T) {
	count := 0
	for _, kind := range kinds() {
		for _, text := range []string{written[kind][0], written[kind][2]} {
			for at := range text {
				for x := range 256 {
					b := []byte(text)
					b[at] = byte(x)
					if putBack(t, b) {
						count++
					}
				}
			}
		}
	}
	for _, x := range samples() {
		if putBack(t, wantBytes(x.m)) {
			count++
		}
	}
	if count < 10000 {
		t.Errorf("%d alone are taken", count)
	}
}

func TestUnlikeMessagesHaveUnlikeBytes(t *testing.T) {
	of := map[string]api.Msg{}
	list := right()
	for shift := range 64 {
		list = append(list, api.Msg{Kind: api.MFind, Id: 1 << shift}, api.Msg{Kind: api.MHand, Id: 1 << shift})
	}
	for shift := range 31 {
		list = append(list, api.Msg{Kind: api.MDone, Rid: 1 << shift}, api.Msg{Kind: api.MDone, Ver: 1 << shift}, api.Msg{Kind: api.MCopy, Items: []api.Item{{Key: "k", Ver: 1 << shift}}})
	}
	for many := 1; many < 24; many++ {
		list = append(list, api.Msg{Kind: api.MPut, Key: strings.Repeat("x", many), Val: strings.Repeat("x", 24-many)}, api.Msg{Kind: api.MCopy, Items: []api.Item{{Key: strings.Repeat("x", many), Val: strings.Repeat("x", 24-many), Ver: 1}}})
	}
	for _, m := range list {
		b, e := Put(m)
		if other, ok := of[string(b)]; ok && !alike(m, other) || e != api.OK {
			t.Errorf("%s and %s have the same bytes", show(m), show(other))
		}
		of[string(b)] = m
	}
	if len(of) < 500 {
		t.Errorf("%d messages alone are unlike", len(of))
	}
}

func FuzzWhatFollows(f *testing.F) {
	f.Add(8, 7, 5, 27, uint64(258), true, false, "k/1", "v 1", "node-1", 5, 1, 1, []byte(written[4][0]))
	f.Add(4, 0, 0, 0, uint64(0), false, false, "", "", "", 0, 0, 0, []byte{})
	f.Add(15, 1<<30, 1<<30, 99, uint64(math.MaxUint64), true, true, strings.Repeat("~", 24), strings.Repeat("\xff", 32), "abcdefghijklmnop", 1<<30, 8, 16, []byte(written[15][1]))
	f.Add(-1, -1, -1, -1, uint64(1<<63), true, true, "a b", strings.Repeat("v", 33), "N", -1, 9, 17, []byte(head(12)+"\x11"))
	f.Add(256+7, math.MinInt, math.MaxInt, 65536, uint64(1), false, true, strings.Repeat("k", 25), "", "a", 1<<30+1, 255, 255, []byte(head(4)+"\x02\x01"+someEntry))
	f.Fuzz(func(t *testing.T, kind, rid, ver, err int, id uint64, has, gone bool, key, val, name string, time, few, many int, b []byte) {
		rightTake(t, b)
		putBack(t, b)
		i := api.Item{Key: key, Val: val, Ver: ver, Gone: gone}
		if got := Item(i); got != wantItem(i) {
			t.Errorf("%q %q %d: %t", key, val, ver, got)
		}
		m := api.Msg{Kind: kind, Rid: rid, Ver: ver, Error: api.Errno(err), Id: id, Has: has, Gone: gone, Key: key, Val: val}
		m.Entries = slices.Repeat([]api.Entry{{Name: name, Id: id, From: time, Until: time, Tag: made(32, 1)}}, few&15)
		m.Items = slices.Repeat([]api.Item{i}, many&31)
		for _, m := range []api.Msg{m, wantBare(m), wantBare(give(m, "Kind", kind&15+1)), wantBare(give(give(m, "Kind", kind&15+1), "Rid", rid&0xffffff))} {
			if got, want := Right(m), wantRight(m); got != want {
				t.Errorf("%s: %t", show(m), got)
			}
			if got := Bare(m); !alike(got, wantBare(m)) {
				t.Errorf("Bare of %s: %s", show(m), show(got))
			}
			if got := Copy(m); !alike(got, m) || !Same(got, m) {
				t.Errorf("%s is copied as %s", show(m), show(got))
			}
			rightTake(t, wantBytes(m))
			got, e := Put(m)
			if !wantRight(m) {
				if len(got) != 0 || e != api.ErrArg {
					t.Errorf("Put of %s: %q, %d", show(m), got, e)
				}
				continue
			}
			isPut(t, m, string(wantBytes(m)))
		}
	})
}

// Rules 4, 5 and 8: what is handed in stays as it was, what is handed out is new memory, what lies behind a length does not count, and nothing is kept.

// roomy answers a message like that one, whose lists have spare room, in which others stand, and all of that memory.
func roomy(m api.Msg, e api.Entry, i api.Item) (api.Msg, []api.Entry, []api.Item) {
	entries := append(slices.Clone(m.Entries), e, e, e)
	items := append(slices.Clone(m.Items), i, i, i)
	m.Entries, m.Items = entries[:len(m.Entries)], items[:len(m.Items)]
	return m, entries, items
}

// some answers messages of all kinds, that may be or not.
func some() []api.Msg {
	var list []api.Msg
	for _, kind := range kinds() {
		list = append(list, full(kind), greatest(kind), least(kind), all(kind))
	}
	return append(list, api.Msg{}, all(0), all(17), all(-1), api.Msg{Kind: 4, Entries: entries(9), Items: items(17)}, api.Msg{Kind: 4, Entries: make([]api.Entry, 2)}, api.Msg{Kind: 12, Items: make([]api.Item, 2)})
}

// Calls on a message neither change its lists nor read what lies behind them, though it be such as may not be.
func TestMessagesHandedInStayAsTheyWere(t *testing.T) {
	for _, m := range some() {
		for _, behind := range []struct {
			e api.Entry
			i api.Item
		}{{}, {plainEntry(), plainItem()}} {
			in, entries, items := roomy(m, behind.e, behind.i)
			keptEntries, keptItems := slices.Clone(entries), slices.Clone(items)
			bare, is, same, copied := Bare(in), Right(in), Same(in, m), Copy(in)
			b, e := Put(in)
			if !slices.Equal(entries, keptEntries) || !slices.Equal(items, keptItems) || !alike(in, m) {
				t.Errorf("%s is changed", show(m))
			}
			want, wantErr := Put(m)
			if !alike(bare, wantBare(m)) || is != wantRight(m) || !same || !alike(copied, m) || !bytes.Equal(b, want) || e != wantErr {
				t.Errorf("%s: what lies behind its lists counts", show(m))
			}
			for _, l := range [][]api.Entry{bare.Entries, copied.Entries} {
				if behind := l[len(l):cap(l)]; slices.ContainsFunc(behind, func(e api.Entry) bool { return e != api.Entry{} }) {
					t.Errorf("%s: what lies behind its entries is handed out", show(m))
				}
			}
			for _, l := range [][]api.Item{bare.Items, copied.Items} {
				if behind := l[len(l):cap(l)]; slices.ContainsFunc(behind, func(i api.Item) bool { return i != api.Item{} }) {
					t.Errorf("%s: what lies behind its items is handed out", show(m))
				}
			}
		}
	}
}

// spoil writes over all memory of a message's lists, their spare room too.
func spoil(m api.Msg) {
	for i := range m.Entries[:cap(m.Entries)] {
		m.Entries[:cap(m.Entries)][i] = api.Entry{Name: "spoiled"}
	}
	for i := range m.Items[:cap(m.Items)] {
		m.Items[:cap(m.Items)][i] = api.Item{Key: "spoiled"}
	}
}

// Lists of what is copied, or made bare, are not the given ones, behind a change of either.
func TestCopiesShareNothing(t *testing.T) {
	for _, m := range some() {
		for i, call := range []func(api.Msg) api.Msg{Copy, Bare} {
			want := m
			if i == 1 {
				want = wantBare(m)
			}
			in, entries, items := roomy(m, plainEntry(), plainItem())
			keptEntries, keptItems := slices.Clone(entries), slices.Clone(items)
			one, two := call(in), call(in)
			spoil(one)
			if !slices.Equal(entries, keptEntries) || !slices.Equal(items, keptItems) {
				t.Errorf("%d: %s changes with its copy", i, show(m))
			}
			if !alike(two, want) {
				t.Errorf("%d: %s: a copy changes with another one", i, show(m))
			}
			clear(entries)
			clear(items)
			if !alike(two, want) {
				t.Errorf("%d: %s: its copy changes with it", i, show(m))
			}
		}
	}
}

// fill writes over all of this memory, its spare room too.
func fill(b []byte) {
	b = b[:cap(b)]
	for i := range b {
		b[i] ^= 0xa5
	}
}

func TestBytesHandedInStayAsTheyWere(t *testing.T) {
	var list []string
	for _, kind := range kinds() {
		for _, text := range written[kind] {
			list = append(list, text, text[:len(text)-1], text+"\x00", "\x00"+text)
		}
	}
	for _, text := range append(list, "", head(12)+"\x11", head(4)+"\x02\x00") {
		want, wantErr := wantTake([]byte(text))
		for _, behind := range []string{"\x00", someEntry, greatItem, made(90, 7), strings.Repeat("\x00", 90)} {
			room := []byte(text + behind)
			kept := slices.Clone(room)
			got, e := Take(room[:len(text)])
			if !bytes.Equal(room, kept) {
				t.Fatalf("%.300q is changed", text)
			}
			if !alike(got, want) || e != wantErr {
				t.Errorf("%.300q: what lies behind counts: %s, %d", text, show(got), e)
			}
			fill(room)
			if !alike(got, want) {
				t.Errorf("%.300q: what is taken changes with it: %s", text, show(got))
			}
		}
	}
}

func TestWhatIsHandedOutIsNewMemory(t *testing.T) {
	for _, kind := range kinds() {
		texts := written[kind]
		for i, m := range []api.Msg{full(kind), greatest(kind), least(kind)} {
			one, _ := Put(m)
			two, _ := Put(m)
			for _, x := range one[len(one):cap(one)] {
				if x != 0 {
					t.Errorf("%s: the spare room holds %d", show(m), x)
				}
			}
			fill(one)
			if string(two) != texts[i] {
				t.Errorf("%s: its bytes change with those that were handed out ahead of them", show(m))
			}
			if three, _ := Put(m); string(three) != texts[i] {
				t.Errorf("%s: its bytes are kept", show(m))
			}
			first, _ := Take([]byte(texts[i]))
			second, _ := Take([]byte(texts[i]))
			spoil(first)
			if third, _ := Take([]byte(texts[i])); !alike(second, m) || !alike(third, m) {
				t.Errorf("%.300q: what is taken is one memory", texts[i])
			}
		}
	}
}

// What is put does not hang on a message's lists, once it is handed out.
func TestWhatIsPutStays(t *testing.T) {
	for _, kind := range kinds() {
		texts := written[kind]
		m, entries, items := roomy(greatest(kind), plainEntry(), plainItem())
		b, _ := Put(m)
		clear(entries)
		clear(items)
		if string(b) != texts[1] {
			t.Errorf("%d: %.300q", kind, b)
		}
	}
}

// A call leaves nothing behind: whatever comes ahead of it, it answers what it would have.
func TestNothingIsKept(t *testing.T) {
	m, text := full(15), written[15][0]
	for _, x := range samples() {
		Right(x.m)
		Bare(x.m)
		Put(x.m)
		Take(wantBytes(x.m))
		Same(x.m, m)
		Copy(x.m)
		Answer(x.m.Kind)
		if len(x.m.Items) > 0 {
			Item(x.m.Items[0])
		}
		if b, e := Put(m); string(b) != text || e != api.OK {
			t.Fatalf("behind %s: %q, %d", show(x.m), b, e)
		}
		if got, e := Take([]byte(text)); !alike(got, m) || e != api.OK {
			t.Fatalf("behind %s: %s, %d", show(x.m), show(got), e)
		}
		if _, e := Take(nil); e != api.ErrShort {
			t.Fatalf("behind %s: %d", show(x.m), e)
		}
		if !Right(m) || Right(api.Msg{}) || !Same(m, m) || Same(m, api.Msg{}) || !alike(Bare(all(15)), m) || !alike(Copy(m), m) || Answer(14) != 15 || !Item(plainItem()) || Item(api.Item{}) {
			t.Fatalf("behind %s: other answers", show(x.m))
		}
	}
}
