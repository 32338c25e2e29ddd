package token

import (
	"crypto/hmac"
	"crypto/sha256"
	"encoding/binary"
	"encoding/hex"
	"fmt"
	"math"
	"regexp"
	"strings"
	"testing"

	"carcanet/api"
)

// made answers a text of so many bytes without a plain order, the same ones for the same seed.
func made(length int, seed byte) string {
	b := make([]byte, length)
	state := uint32(seed)*2654435761 + 1
	for i := range b {
		state = state*1664525 + 1013904223
		b[i] = byte(state>>24) ^ seed
	}
	return string(b)
}

// keys answers keys of lengths at the edges of a block and of a tag, and of very many bytes.
func keys() []string {
	list := []string{"", "x", "key", "a", "node-1", "\x00", "\xff", "é", " ", "key ", "kez"}
	for _, many := range []int{1, 2, 8, 31, 32, 33, 55, 56, 62, 63, 64, 65, 66, 100, 127, 128, 129, 1000, 65536} {
		list = append(list, strings.Repeat("\x00", many), strings.Repeat("\xff", many), made(many, byte(many)))
	}
	return list
}

// plain answers an entry that may be, but for its Tag's being a right one.
func plain() api.Entry {
	return api.Entry{Name: "node-1", Id: 0x0102030405060708, From: 5, Until: 1000, Index: 3, Tag: made(32, 9)}
}

// but answers that entry, changed.
func but(change func(e *api.Entry)) api.Entry {
	e := plain()
	change(&e)
	return e
}

// names answers texts that are names, and others.
func names() []string {
	list := []string{"", "a", "z", "ab", "a-", "z9-", "node-1", "node-2", "abcdefghijklmno", "abcdefghijklmnop", "abcdefghijklmnopq", "0", "-", "-a", "1a", "A", "No name!", "aB", "a b", "a\n", "a_", "a\x00", "\x00", "é", "\xff", "a`", "a{"}
	for _, many := range []int{17, 32, 255, 256, 257, 65534, 65535, 65536, 65537} {
		list = append(list, strings.Repeat("a", many), made(many, byte(many)))
	}
	return list
}

// counts answers numbers at the edges of what an entry may have, of four and two bytes, and of their type.
func counts() []int {
	list := []int{math.MinInt, math.MinInt + 1, math.MaxInt - 1, math.MaxInt}
	for _, edge := range []int{0, 1 << 6, 1 << 8, 1 << 16, 1 << 30, 1 << 31, 1 << 32, 1 << 62} {
		for near := -2; near <= 2; near++ {
			list = append(list, edge+near, -edge+near)
		}
	}
	return append(list, 1<<16+3, 1<<32+3, 1<<32+5, 3, 4, 5, 6, 999, 1000, 1001)
}

// ids answers identifiers at the edges of their range, and in between.
func ids() []uint64 {
	return []uint64{0, 1, 255, 256, 258, 1<<32 - 1, 1 << 32, 1<<63 - 1, 1 << 63, 0x0102030405060709, 0xfedcba9876543210, math.MaxUint64 - 1, math.MaxUint64}
}

// tags answers texts that may be tags, and others; for nearly no entry they are the right ones.
func tags() []string {
	var list []string
	for _, many := range []int{0, 1, 16, 30, 31, 32, 33, 34, 64, 65, 256, 65536} {
		list = append(list, strings.Repeat("\x00", many), strings.Repeat("\xff", many), made(many, byte(many)))
	}
	return list
}

// varied answers entries of which one field is changed, most of which may not be.
func varied() []api.Entry {
	list := []api.Entry{{}, plain(), {Name: "abcdefghijklmnop", Id: math.MaxUint64, From: 1 << 30, Until: 1 << 30, Index: 64}, {From: math.MinInt, Until: math.MaxInt, Index: math.MinInt}}
	for _, name := range names() {
		list = append(list, but(func(e *api.Entry) { e.Name = name }))
	}
	for _, id := range ids() {
		list = append(list, but(func(e *api.Entry) { e.Id = id }))
	}
	for _, tag := range tags() {
		list = append(list, but(func(e *api.Entry) { e.Tag = tag }))
	}
	for _, n := range counts() {
		list = append(list, but(func(e *api.Entry) { e.From = n }), but(func(e *api.Entry) { e.Until = n }), but(func(e *api.Entry) { e.Index = n }), api.Entry{From: n, Until: n, Index: n})
	}
	return list
}

// show tells an entry shortly, whatever its texts.
func show(e api.Entry) string {
	return fmt.Sprintf("{%.20q (%d) %x %d %d %d %.8x (%d)}", e.Name, len(e.Name), e.Id, e.From, e.Until, e.Index, e.Tag, len(e.Tag))
}

// short tells a key shortly.
func short(key string) string { return fmt.Sprintf("%.8q (%d)", key, len(key)) }

// turned answers the text of which this bit is another one.
func turned(s string, bit int) string {
	b := []byte(s)
	b[bit/8] ^= 1 << (bit % 8)
	return string(b)
}

// unhex answers the text that hex digits are.
func unhex(t *testing.T, s string) string {
	t.Helper()
	b, e := hex.DecodeString(s)
	if e != nil {
		t.Fatal(e)
	}
	return string(b)
}

// wantTag answers an entry's tag, by the library's tag of the library's numbers.
func wantTag(key string, e api.Entry) string {
	name := e.Name[:min(len(e.Name), 65535)]
	tag := hmac.New(sha256.New, []byte(key))
	head := binary.BigEndian.AppendUint16(nil, uint16(len(name)))
	rest := binary.BigEndian.AppendUint64(nil, e.Id)
	rest = binary.BigEndian.AppendUint32(rest, uint32(e.From))
	rest = binary.BigEndian.AppendUint32(rest, uint32(e.Until))
	rest = binary.BigEndian.AppendUint16(rest, uint16(e.Index))
	tag.Write(head)
	tag.Write([]byte(name))
	tag.Write(rest)
	return string(tag.Sum(nil))
}

// wantSign answers what Sign has to.
func wantSign(key string, e api.Entry) api.Entry {
	return api.Entry{Name: e.Name, Id: e.Id, From: e.From, Until: e.Until, Index: e.Index, Tag: wantTag(key, e)}
}

var nameForm = regexp.MustCompile(`\A[a-z][a-z0-9-]{0,15}\z`)

// mayBe answers what chapter 11's Right has to, of its own.
func mayBe(e api.Entry) bool {
	const last = 1073741824
	return nameForm.MatchString(e.Name) && e.From >= 0 && e.From <= e.Until && e.Until <= last && e.Index >= 0 && e.Index <= 64 && len(e.Tag) == 32
}

// wantValid answers the first error of the chapter's row that applies.
func wantValid(g api.Gate, e api.Entry, now int) api.Errno {
	for _, x := range []struct {
		applies bool
		err     api.Errno
	}{
		{!mayBe(e), 11},
		{e.Index < g.Index, 33},
		{e.Index > g.Index, 34},
		{e.Tag != wantTag(g.Key, e), 20},
		{now < e.From, 32},
		{now > e.Until, 32},
	} {
		if x.applies {
			return x.err
		}
	}
	return 0
}

// rightSign asks whether Sign is what it should be, and Check of it.
func rightSign(t *testing.T, key string, e api.Entry) {
	t.Helper()
	got, want := Sign(key, e), wantSign(key, e)
	if got != want {
		t.Errorf("%s by %s is signed as %s, wanted %x", show(e), short(key), show(got), want.Tag)
	}
	if !Check(key, want) {
		t.Errorf("%s by %s: what is signed is not checked", show(e), short(key))
	}
}

// rightCheck asks whether Check is what it should be.
func rightCheck(t *testing.T, key string, e api.Entry) {
	t.Helper()
	if got, want := Check(key, e), e.Tag == wantTag(key, e); got != want {
		t.Errorf("Check of %s by %s: %t", show(e), short(key), got)
	}
}

// rightValid asks whether Valid is what it should be.
func rightValid(t *testing.T, g api.Gate, e api.Entry, now int) {
	t.Helper()
	if got, want := Valid(g, e, now), wantValid(g, e, now); got != want {
		t.Errorf("Valid of %s by %d, %s at %d: %d, wanted %d", show(e), g.Index, short(g.Key), now, got, want)
	}
}

// P13.1

// The tags were made by another program.
func TestSignOfKnownEntries(t *testing.T) {
	one := api.Entry{Name: "node-1", Id: 0x0102030405060708, From: 5, Until: 1000, Index: 3}
	for i, x := range []struct {
		key  string
		e    api.Entry
		want string
	}{
		{"key", api.Entry{Name: "a", Id: 258, From: 1, Until: 2, Index: 3}, "9be25550552df722ce66f572675ea78d8dc41cd613471b2eeb875a5f4c92cc81"},
		{"key", api.Entry{Name: "a", Id: 7, From: 10, Until: 20, Index: 2}, "80ac3fd8b89b2afb45dab79a15a8143e127208ee1e2169efc481f5c06b3ee722"},
		{"", api.Entry{}, "600933d0f4553b3e019a240fcef903b1bc97c40815a4099765b8e800c9f58e24"},
		{"", api.Entry{Name: "a", Id: 258, From: 1, Until: 2, Index: 3}, "0c9536e65c28e56793ff22f9d4e8beafd3583c14312cb3a604c35e97748b941a"},
		{strings.Repeat("k", 63), one, "d92d33e5ec64f690f48da61a8d0fd12f141d454685a8990eed09a1f2c2e19481"},
		{strings.Repeat("k", 64), one, "4e96d962590c82931c33ac8fe07babec5bffff0fe19b509c27e89fbe5408586a"},
		{strings.Repeat("k", 65), one, "6033b93b2651a8fb89b661f22db7b1d6033e5ade9b2a1793d1f74886b6d7e4bf"},
		{strings.Repeat("k", 1000000), one, "c2ea5950d421cdb137bb117c3d733b209a926eff3f806c38f8596e871aa3c936"},
		{strings.Repeat("\x00", 32), api.Entry{Name: "abcdefghijklmnop", Id: math.MaxUint64, From: 1 << 30, Until: 1 << 30, Index: 64}, "846d50c1e24113c1609f553d6df848bc6a6869b14c2dd4de95daee456c522621"},
		{"key", api.Entry{Name: "No name!", Id: 1, From: -1, Until: math.MinInt, Index: math.MaxInt}, "29e99bbbdd7753acb263146a7592116aa953969b31a8ef32ffcdccaf67adc70f"},
		{"key", api.Entry{Name: strings.Repeat("n", 65536), From: math.MaxInt, Until: 1<<32 + 5, Index: -3}, "dfc685e8d223ab6eb9bd80ca2bbd6823ac22bb575b6db9abbb529c8f5a2a1124"},
	} {
		for _, tag := range append(tags(), unhex(t, x.want)) {
			e, want := x.e, x.e
			e.Tag, want.Tag = tag, unhex(t, x.want)
			if got := Sign(x.key, e); got != want {
				t.Errorf("%d, with a tag of %d: %s, wanted %s", i, len(tag), show(got), x.want)
			}
			if got := Check(x.key, e); got != (tag == want.Tag) {
				t.Errorf("%d: Check of a tag of %d: %t", i, len(tag), got)
			}
		}
	}
}

func TestSignOfEntriesOfAllKinds(t *testing.T) {
	for _, e := range varied() {
		for _, key := range []string{"", "key", made(32, 1), made(63, 2), made(64, 3), made(65, 4), made(1000, 5)} {
			rightSign(t, key, e)
			rightCheck(t, key, e)
		}
	}
}

func TestSignByKeysOfAllLengths(t *testing.T) {
	all := append(keys(), made(1<<20, 6))
	for many := range 200 {
		all = append(all, made(many, 7))
	}
	for _, key := range all {
		for _, e := range []api.Entry{plain(), {}, but(func(e *api.Entry) { e.Tag = "" })} {
			rightSign(t, key, e)
			rightCheck(t, key, e)
		}
	}
}

// Nothing but the Tag is changed, and what it was does not count.
func TestSignPutsTheTagAlone(t *testing.T) {
	for _, e := range varied() {
		got := Sign("key", e)
		if len(got.Tag) != 32 {
			t.Errorf("%s: a tag of %d bytes", show(e), len(got.Tag))
		}
		for _, tag := range tags() {
			other := e
			other.Tag = tag
			if Sign("key", other) != got {
				t.Errorf("%s: the tag of %d bytes that it had counts", show(e), len(tag))
			}
		}
		got.Tag = e.Tag
		if got != e {
			t.Errorf("%s becomes %s", show(e), show(got))
		}
	}
}

// By unlike keys one entry has unlike tags, and is checked by the one that signed it alone.
func TestCheckByOtherKeys(t *testing.T) {
	blocks := map[string]string{}
	for _, key := range keys() {
		if len(key) <= 64 && strings.TrimRight(key, "\x00") == "" {
			continue // they are one key, as chapter 4 has it
		}
		tag := Sign(key, plain()).Tag
		if other, met := blocks[tag]; met && other != key {
			t.Errorf("%s and %s sign alike", short(key), short(other))
		}
		blocks[tag] = key
	}
	for _, by := range blocks {
		signed := Sign(by, plain())
		for _, key := range keys() {
			if got := Check(key, signed); got != (key == by) {
				t.Errorf("signed by %s, Check by %s: %t", short(by), short(key), got)
			}
		}
	}
}

// Keys that chapter 4 makes one block of are one key.
func TestCheckByKeysOfOneBlock(t *testing.T) {
	long := made(65, 8)
	sum := sha256.Sum256([]byte(long))
	for _, x := range [][2]string{{"", "\x00"}, {"", strings.Repeat("\x00", 64)}, {"key", "key\x00"}, {"key", "key" + strings.Repeat("\x00", 61)}, {long, string(sum[:])}, {long, string(sum[:]) + "\x00"}} {
		if !Check(x[0], Sign(x[1], plain())) || !Check(x[1], Sign(x[0], plain())) {
			t.Errorf("%s and %s are not one key", short(x[0]), short(x[1]))
		}
	}
	for _, x := range [][2]string{{"", strings.Repeat("\x00", 65)}, {"key", "key" + strings.Repeat("\x00", 62)}, {"key", "\x00key"}, {"key", "ke"}, {long, long + "\x00"}} {
		if Check(x[0], Sign(x[1], plain())) || Check(x[1], Sign(x[0], plain())) {
			t.Errorf("%s and %s are one key", short(x[0]), short(x[1]))
		}
	}
}

func TestCheckOfTagsOfOtherLengths(t *testing.T) {
	for _, key := range []string{"", "key", made(65, 9)} {
		for _, e := range []api.Entry{plain(), {}, {Name: "No name!", From: -1}} {
			right := Sign(key, e)
			list := append(tags(), right.Tag+"\x00", right.Tag+"x", "\x00"+right.Tag, right.Tag+right.Tag, right.Tag[1:]+right.Tag[:1], hex.EncodeToString([]byte(right.Tag)), right.Name, key)
			for many := range 32 {
				list = append(list, right.Tag[:many], right.Tag[32-many:], right.Tag+right.Tag[:many+1], right.Tag[:many]+strings.Repeat("\x00", 32-many))
			}
			for _, tag := range list {
				other := right
				other.Tag = tag
				if Check(key, other) {
					t.Errorf("%s by %s", show(other), short(key))
				}
			}
			if !Check(key, right) {
				t.Errorf("%s by %s is not checked", show(right), short(key))
			}
		}
	}
}

// What is signed is all but the Tag: each field, changed, makes the tag a wrong one.
func TestCheckOfEntriesWithOneFieldChanged(t *testing.T) {
	right := Sign("key", plain())
	for _, e := range varied() {
		e.Tag = right.Tag
		rightCheck(t, "key", e)
	}
	for bit := range 64 {
		for i, change := range []func(e *api.Entry){
			func(e *api.Entry) { e.Id ^= 1 << bit },
			func(e *api.Entry) { e.From ^= 1 << (bit % 32) },
			func(e *api.Entry) { e.Until ^= 1 << (bit % 32) },
			func(e *api.Entry) { e.Index ^= 1 << (bit % 16) },
			func(e *api.Entry) { e.Name = turned(e.Name, bit%48) },
			func(e *api.Entry) { e.From, e.Until = e.Until, e.From },
		} {
			e := right
			change(&e)
			if Check("key", e) {
				t.Errorf("%d, bit %d: %s", i, bit, show(e))
			}
		}
	}
}

// Of numbers a tag is of as many bytes as chapter 11 puts: those alike there have one tag.
func TestCheckOfNumbersThatLeaveTheirBytes(t *testing.T) {
	right := Sign("key", plain())
	for i, change := range []func(e *api.Entry){
		func(e *api.Entry) { e.From += 1 << 32 },
		func(e *api.Entry) { e.From -= 1 << 40 },
		func(e *api.Entry) { e.Until += 1 << 62 },
		func(e *api.Entry) { e.Index += 1 << 16 },
		func(e *api.Entry) { e.Index += math.MinInt },
	} {
		e := right
		change(&e)
		if !Check("key", e) || Sign("key", e).Tag != right.Tag {
			t.Errorf("%d: %s", i, show(e))
		}
		if got := Valid(api.Gate{Index: e.Index, Key: "key"}, e, 6); got != api.ErrForm {
			t.Errorf("%d: Valid of %s: %d", i, show(e), got)
		}
	}
}

// P13.2

func TestValidOfKnownEntries(t *testing.T) {
	e := api.Entry{Name: "a", Id: 7, From: 10, Until: 20, Index: 2}
	signed := e
	signed.Tag = unhex(t, "80ac3fd8b89b2afb45dab79a15a8143e127208ee1e2169efc481f5c06b3ee722")
	gate := api.Gate{Index: 2, Key: "key"}
	for i, x := range []struct {
		g    api.Gate
		e    api.Entry
		now  int
		want api.Errno
	}{
		{gate, signed, 10, api.OK}, {gate, signed, 11, api.OK}, {gate, signed, 15, api.OK}, {gate, signed, 19, api.OK}, {gate, signed, 20, api.OK},
		{gate, signed, 9, api.ErrExpired}, {gate, signed, 21, api.ErrExpired}, {gate, signed, 0, api.ErrExpired}, {gate, signed, -15, api.ErrExpired},
		{gate, signed, math.MinInt, api.ErrExpired}, {gate, signed, math.MaxInt, api.ErrExpired}, {gate, signed, 1<<32 + 15, api.ErrExpired},
		{api.Gate{Index: 1, Key: "key"}, signed, 15, api.ErrFuture}, {api.Gate{Index: 3, Key: "key"}, signed, 15, api.ErrRevoked},
		{api.Gate{Index: 0, Key: "key"}, signed, 15, api.ErrFuture}, {api.Gate{Index: 64, Key: "key"}, signed, 15, api.ErrRevoked},
		{api.Gate{Index: -1, Key: "key"}, signed, 15, api.ErrFuture}, {api.Gate{Index: -2, Key: "key"}, signed, 15, api.ErrFuture}, {api.Gate{Index: 65, Key: "key"}, signed, 15, api.ErrRevoked},
		{api.Gate{Index: math.MinInt, Key: "key"}, signed, 15, api.ErrFuture}, {api.Gate{Index: math.MaxInt, Key: "key"}, signed, 15, api.ErrRevoked},
		{api.Gate{Index: 1<<32 + 2, Key: "key"}, signed, 15, api.ErrRevoked}, {api.Gate{Index: -1<<32 + 2, Key: "key"}, signed, 15, api.ErrFuture},
		{api.Gate{Index: 2, Key: "kez"}, signed, 15, api.ErrMac}, {api.Gate{Index: 2}, signed, 15, api.ErrMac}, {api.Gate{Index: 2, Key: "key\x00"}, signed, 15, api.OK},
		{gate, e, 15, api.ErrForm}, {gate, api.Entry{}, 0, api.ErrForm}, {api.Gate{}, api.Entry{}, 0, api.ErrForm}, {api.Gate{}, signed, 15, api.ErrFuture},
	} {
		if got := Valid(x.g, x.e, x.now); got != x.want {
			t.Errorf("%d: %d, wanted %d", i, got, x.want)
		}
	}
}

// shaped answers ways in which an entry may not be, each one of which chapter 11 tells, and which leave a tag of 32 bytes.
func shaped() []func(e *api.Entry) {
	var list []func(e *api.Entry)
	for _, name := range []string{"", "A", "Node-1", "1a", "-a", "a b", "a\x00", "é", "abcdefghijklmnopq", strings.Repeat("a", 65536)} {
		list = append(list, func(e *api.Entry) { e.Name = name })
	}
	for _, x := range [][2]int{{-1, 1000}, {math.MinInt, 1000}, {-1, -1}, {5, 4}, {5, 0}, {5, -1}, {5, math.MinInt}, {5, 1<<30 + 1}, {1<<30 + 1, 1<<30 + 1}, {5, math.MaxInt}, {math.MaxInt, math.MinInt}, {1 << 32, 1<<32 + 5}, {1<<30 + 1, 1 << 30}} {
		list = append(list, func(e *api.Entry) { e.From, e.Until = x[0], x[1] })
	}
	for _, index := range []int{-1, -2, 65, 66, 256, 1 << 16, 1<<16 + 3, 1<<32 + 3, math.MinInt, math.MaxInt} {
		list = append(list, func(e *api.Entry) { e.Index = index })
	}
	return list
}

// An entry that may not be is of no use, even if its gate, its tag and the time are those that it asks for.
func TestValidOfEntriesThatMayNotBe(t *testing.T) {
	for i, change := range shaped() {
		e := wantSign("key", but(change))
		for _, now := range []int{e.From, e.Until, 5, 6, 1000} {
			if got := Valid(api.Gate{Index: e.Index, Key: "key"}, e, now); got != api.ErrForm {
				t.Errorf("%d: %s at %d: %d", i, show(e), now, got)
			}
		}
	}
	for _, tag := range tags() {
		e := but(func(e *api.Entry) { e.Tag = tag })
		want := api.ErrForm
		if len(tag) == 32 {
			want = api.ErrMac
		}
		if got := Valid(api.Gate{Index: 3, Key: "key"}, e, 6); got != want {
			t.Errorf("a tag of %d: %d", len(tag), got)
		}
	}
	right := wantSign("key", plain())
	for many := range 32 {
		for _, tag := range []string{right.Tag[:many], right.Tag + right.Tag[:many+1]} {
			e := right
			e.Tag = tag
			if got := Valid(api.Gate{Index: 3, Key: "key"}, e, 6); got != api.ErrForm {
				t.Errorf("%d bytes of the right tag: %d", len(tag), got)
			}
		}
	}
}

// A look is what Valid is asked.
type look struct {
	g   api.Gate
	e   api.Entry
	now int
}

// A fault is one way in which something may be wrong: what is done to a look ahead of signing, and behind it.
type fault struct {
	err           api.Errno
	ahead, behind func(l *look)
}

func leave(l *look) {}

// faultsOf answers, error by error, ways in which it may apply; each row begins with that by which nothing is wrong.
func faultsOf() [][]fault {
	none := fault{api.OK, leave, leave}
	form, place, tag, time := []fault{none}, []fault{none}, []fault{none}, []fault{none}
	for _, change := range shaped() {
		form = append(form, fault{api.ErrForm, func(l *look) { change(&l.e) }, leave})
	}
	for _, cut := range []string{"", "t", strings.Repeat("t", 31), strings.Repeat("t", 33)} {
		form = append(form, fault{api.ErrForm, leave, func(l *look) { l.e.Tag = cut }})
	}
	for _, index := range []int{4, 5, 64, 65, 1<<32 + 3, math.MaxInt} {
		place = append(place, fault{api.ErrRevoked, leave, func(l *look) { l.g.Index = index }})
	}
	for _, index := range []int{2, 1, 0, -1, -1<<32 + 3, math.MinInt} {
		place = append(place, fault{api.ErrFuture, leave, func(l *look) { l.g.Index = index }})
	}
	for _, key := range []string{"", "kez", "ke", "keyy", made(65, 10)} {
		tag = append(tag, fault{api.ErrMac, leave, func(l *look) { l.g.Key = key }})
	}
	tag = append(tag,
		fault{api.ErrMac, leave, func(l *look) { l.e.Id++ }},
		fault{api.ErrMac, leave, func(l *look) { l.e.Tag = made(len(l.e.Tag), 11) }},
	)
	for _, now := range []int{4, 0, -1, 1001, 1 << 30, 1<<32 + 6, math.MinInt, math.MaxInt} {
		time = append(time, fault{api.ErrExpired, leave, func(l *look) { l.now = now }})
	}
	return [][]fault{form, place, tag, time}
}

// Whatever is wrong at once, the first that the chapter names is told.
func TestValidOfSeveralFaultsAtOnce(t *testing.T) {
	rows := faultsOf()
	seen := map[[4]api.Errno]bool{}
	for _, form := range rows[0] {
		for _, place := range rows[1] {
			for _, tag := range rows[2] {
				for _, time := range rows[3] {
					l := look{api.Gate{Index: 3, Key: "key"}, plain(), 6}
					want := api.OK
					for _, x := range []fault{time, tag, place, form} {
						x.ahead(&l)
						if x.err != api.OK {
							want = x.err
						}
					}
					l.e = wantSign("key", l.e)
					for _, x := range []fault{time, tag, place, form} {
						x.behind(&l)
					}
					if got := Valid(l.g, l.e, l.now); got != want {
						t.Errorf("%s by %d, %s at %d: %d, wanted %d", show(l.e), l.g.Index, short(l.g.Key), l.now, got, want)
					}
					seen[[4]api.Errno{form.err, place.err, tag.err, time.err}] = true
				}
			}
		}
	}
	if len(seen) != 2*3*2*2 {
		t.Errorf("%d kinds of faults alone", len(seen))
	}
}

// near answers numbers about that one which are in the range of their type.
func near(n int) []int {
	list := []int{n}
	for step := 1; step <= 2; step++ {
		if n <= math.MaxInt-step {
			list = append(list, n+step)
		}
		if n >= math.MinInt+step {
			list = append(list, n-step)
		}
	}
	return list
}

func TestValidAtTimesAboutFromAndUntil(t *testing.T) {
	g := api.Gate{Index: 3, Key: "key"}
	for _, x := range [][2]int{{0, 0}, {0, 1}, {1, 1}, {5, 5}, {5, 6}, {5, 7}, {5, 1000}, {0, 1 << 30}, {1<<30 - 1, 1<<30 - 1}, {1<<30 - 1, 1 << 30}, {1 << 30, 1 << 30}} {
		e := wantSign("key", but(func(e *api.Entry) { e.From, e.Until = x[0], x[1] }))
		for _, now := range append(append(counts(), near(x[0])...), near(x[1])...) {
			want := api.ErrExpired
			if x[0] <= now && now <= x[1] {
				want = api.OK
			}
			if got := Valid(g, e, now); got != want {
				t.Errorf("from %d until %d, at %d: %d", x[0], x[1], now, got)
			}
		}
	}
}

func TestValidByGatesOfAllIndexes(t *testing.T) {
	for index := range 65 {
		e := wantSign("key", but(func(e *api.Entry) { e.Index = index }))
		for _, of := range append(counts(), near(index)...) {
			want := api.OK
			if index < of {
				want = api.ErrRevoked
			} else if index > of {
				want = api.ErrFuture
			}
			if got := Valid(api.Gate{Index: of, Key: "key"}, e, 6); got != want {
				t.Errorf("of %d, by %d: %d", index, of, got)
			}
			// What the tag and the time are does not count where the key is another one.
			if got := Valid(api.Gate{Index: of, Key: "x"}, e, 6); want != api.OK && got != want {
				t.Errorf("of %d, by %d and another key: %d", index, of, got)
			}
			if got := Valid(api.Gate{Index: of, Key: "key"}, e, 4); want != api.OK && got != want {
				t.Errorf("of %d, by %d at another time: %d", index, of, got)
			}
		}
	}
}

func TestValidByGatesOfAllKeys(t *testing.T) {
	for _, by := range keys() {
		e := wantSign(by, plain())
		for _, key := range keys() {
			rightValid(t, api.Gate{Index: 3, Key: key}, e, 6)
			rightValid(t, api.Gate{Index: 3, Key: key}, e, 1001)
		}
	}
}

func TestValidOfEntriesOfAllKinds(t *testing.T) {
	for _, e := range varied() {
		for _, of := range []int{e.Index, 3, 2, 4, -1, math.MinInt, math.MaxInt} {
			for _, now := range []int{e.From, e.Until, 5, 1000, 4, 1001, math.MinInt, math.MaxInt} {
				g := api.Gate{Index: of, Key: "key"}
				rightValid(t, g, e, now)
				rightValid(t, g, wantSign("key", e), now)
			}
		}
	}
}

// P13.3

// follows asks of an entry and a key all that the chapter says follows.
func follows(t *testing.T, key string, e api.Entry) {
	t.Helper()
	signed := Sign(key, e)
	if !Check(key, signed) {
		t.Errorf("%s by %s is not checked", show(signed), short(key))
	}
	for at := range signed.Tag {
		for _, by := range []byte{1, 2, 4, 8, 16, 32, 64, 128, 255} {
			b := []byte(signed.Tag)
			b[at] ^= by
			other := signed
			other.Tag = string(b)
			if Check(key, other) {
				t.Errorf("%s by %s: byte %d does not count", show(signed), short(key), at)
			}
		}
	}
}

func TestWhatIsSignedIsChecked(t *testing.T) {
	for _, key := range append(keys(), made(1<<20, 12)) {
		if len(key) > 65 {
			rightSign(t, key, plain())
			continue
		}
		follows(t, key, plain())
	}
	for i, e := range varied() {
		if len(e.Name) > 65 {
			rightSign(t, "key", e)
		} else if i%3 == 0 {
			follows(t, "key", e)
		}
	}
}

// Each byte of a tag is put to each other value.
func TestTagsWithOneByteChangedAreNone(t *testing.T) {
	right := Sign("key", plain())
	g := api.Gate{Index: 3, Key: "key"}
	for at := range right.Tag {
		for b := range 256 {
			other := right
			other.Tag = right.Tag[:at] + string([]byte{byte(b)}) + right.Tag[at+1:]
			same := other.Tag == right.Tag
			want := api.ErrMac
			if same {
				want = api.OK
			}
			if got := Check("key", other); got != same {
				t.Errorf("byte %d as %d: %t", at, b, got)
			}
			if got := Valid(g, other, 6); got != want {
				t.Errorf("byte %d as %d: %d", at, b, got)
			}
		}
	}
}

// The chapter's example, and what follows: the times at which an entry is valid have no gap.
func TestWhatIsValidAtTwoTimesIsValidBetween(t *testing.T) {
	for from := range 12 {
		for until := from; until < 12; until++ {
			e := Sign("key", but(func(e *api.Entry) { e.From, e.Until = from, until }))
			var at []int
			for now := -3; now < 16; now++ {
				if Valid(api.Gate{Index: 3, Key: "key"}, e, now) == api.OK {
					at = append(at, now)
				}
			}
			if len(at) != until-from+1 || at[0] != from || at[len(at)-1] != until {
				t.Errorf("from %d until %d: valid at %v", from, until, at)
			}
		}
	}
}

func FuzzWhatFollows(f *testing.F) {
	f.Add("key", "key", "a", uint64(258), 1, 2, 3, 3, 1, "")
	f.Add("", "", "", uint64(0), 0, 0, 0, 0, 0, strings.Repeat("t", 32))
	f.Add(made(65, 13), "k", "abcdefghijklmnop", uint64(math.MaxUint64), 1<<30, 1<<30, 64, 63, 1<<30, made(32, 14))
	f.Add(made(63, 15), made(64, 16), "No name!", uint64(1<<63), -1, math.MinInt, math.MaxInt, math.MinInt, math.MaxInt, "t")
	f.Add("k", "k", "a", uint64(1), 5, 9, 1, 1, 4, made(31, 17))
	f.Fuzz(func(t *testing.T, key, other, name string, id uint64, from, until, index, of, now int, tag string) {
		e := api.Entry{Name: name, Id: id, From: from, Until: until, Index: index, Tag: tag}
		rightSign(t, key, e)
		rightCheck(t, key, e)
		small := api.Entry{Name: "n", Id: id, From: from & 0xffff, Until: from&0xffff + until&0xffff, Index: index & 63}
		for _, x := range []api.Entry{e, wantSign(key, e), small, wantSign(key, small)} {
			rightCheck(t, other, x)
			for _, by := range []string{key, other} {
				for _, when := range []int{now, x.From, x.Until, now & 0x1ffff} {
					rightValid(t, api.Gate{Index: of, Key: by}, x, when)
					rightValid(t, api.Gate{Index: x.Index, Key: by}, x, when)
				}
			}
		}
		follows(t, key, small)
	})
}

// Rules 4 and 5: what is handed in stays as it was, and nothing is kept.

func TestWhatIsHandedInStaysAsItWas(t *testing.T) {
	for _, key := range keys() {
		for _, e := range []api.Entry{{}, plain(), wantSign(key, plain()), but(func(e *api.Entry) { e.Tag = "" })} {
			keptKey, kept := strings.Clone(key), e
			kept.Name, kept.Tag = strings.Clone(e.Name), strings.Clone(e.Tag)
			g := api.Gate{Index: 3, Key: key}
			Sign(key, e)
			Check(key, e)
			for _, now := range []int{4, 6, 1001} {
				Valid(g, e, now)
			}
			if key != keptKey || e != kept || g != (api.Gate{Index: 3, Key: keptKey}) {
				t.Errorf("%s, %s: changed", short(keptKey), show(kept))
			}
		}
	}
}

// What is handed out does not hang on bytes that the texts which were handed in were made of.
func TestWhatIsHandedOutStays(t *testing.T) {
	key, name, tag := []byte("key"), []byte("node-1"), []byte(made(32, 18))
	first := Sign(string(key), but(func(e *api.Entry) { e.Name, e.Tag = string(name), string(tag) }))
	clear(key)
	clear(name)
	clear(tag)
	if want := wantSign("key", plain()); first != want {
		t.Errorf("%s, wanted %s", show(first), show(want))
	}
}

// A call leaves nothing behind: whatever comes ahead of it, it answers what it would have.
func TestNothingIsKept(t *testing.T) {
	right := wantSign("key", plain())
	g := api.Gate{Index: 3, Key: "key"}
	for i, other := range varied() {
		key := keys()[i%len(keys())]
		Sign(key, other)
		Check(key, other)
		Valid(api.Gate{Index: other.Index, Key: key}, other, other.From)
		if Sign("key", plain()) != right || !Check("key", right) || Check("key", plain()) {
			t.Fatalf("behind %s: other answers", show(other))
		}
		if Valid(g, right, 6) != api.OK || Valid(g, right, 4) != api.ErrExpired || Valid(g, plain(), 6) != api.ErrMac || Valid(g, api.Entry{}, 6) != api.ErrForm {
			t.Fatalf("behind %s: Valid tells something else", show(other))
		}
	}
}
