package keys

import (
	"crypto/hmac"
	"crypto/sha256"
	"encoding/binary"
	"fmt"
	"math"
	"strconv"
	"strings"

	"carcanet/api"
)

// made answers a text of so many bytes without a plain order, the same ones for the same seed.
func made(length int, seed byte) string {
	b := make([]byte, length)
	state := uint32(seed)*2654435761 + 1
	for i := range b {
		state = state*1664525 + 1013904223
		b[i] = byte(state>>24) ^ seed
	}
	return string(b)
}

// turned answers the text that has this byte at this place.
func turned(s string, at int, b byte) string { return s[:at] + string([]byte{b}) + s[at+1:] }

// show tells an entry or a session shortly, whatever its texts.
func show(v any) string {
	text := fmt.Sprintf("%+q", fmt.Sprint(v))
	return text[:min(len(text), 400)]
}

// Entries

// plainEntry answers an entry that may be.
func plainEntry() api.Entry {
	return api.Entry{Name: "node-1", Id: 0x0102030405060708, From: 5, Until: 1000, Index: 3, Tag: made(32, 9)}
}

// but answers that entry, changed.
func but(e api.Entry, change func(e *api.Entry)) api.Entry {
	change(&e)
	return e
}

// otherEntry answers another entry that may be.
func otherEntry() api.Entry {
	return api.Entry{Name: "b", Id: 2, Until: 9, Tag: strings.Repeat("y", 32)}
}

// longEntry answers the entry of the greatest numbers and the longest texts that may be.
func longEntry() api.Entry {
	return api.Entry{Name: "abcdefghijklmnop", Id: math.MaxUint64, From: 1 << 30, Until: 1 << 30, Index: 64, Tag: strings.Repeat("\xff", 32)}
}

// leastEntry answers the entry of zeros that may be.
func leastEntry() api.Entry { return api.Entry{Name: "a", Tag: strings.Repeat("\x00", 32)} }

// hugeEntry answers an entry whose name and whose text are cut.
func hugeEntry() api.Entry {
	return api.Entry{Name: strings.Repeat("n", 70000), Id: 1, From: 2, Until: 3, Index: 4, Tag: strings.Repeat("t", 10)}
}

// taggedEntry answers an entry whose text is cut within its tag.
func taggedEntry() api.Entry {
	return but(plainEntry(), func(e *api.Entry) { e.Tag = strings.Repeat("t", 70000) })
}

// wrongEntry answers an entry of which nothing may be.
func wrongEntry() api.Entry {
	return api.Entry{Name: "No name!", Id: 1 << 63, From: -1, Until: -2, Index: -3, Tag: "t"}
}

// changes answers changes of one field each, after which an entry whose text is not cut is put as other bytes.
func changes() []func(e *api.Entry) {
	spoilt := func(tag string, at int) string {
		if tag == "" {
			return "\x01"
		}
		return turned(tag, at, tag[at]^1)
	}
	return []func(e *api.Entry){
		func(e *api.Entry) { e.Name += "0" },
		func(e *api.Entry) { e.Name = "x" + e.Name },
		func(e *api.Entry) { e.Name += "\x00" },
		func(e *api.Entry) { e.Name = strings.ToUpper(e.Name) + "A" },
		func(e *api.Entry) { e.Id++ },
		func(e *api.Entry) { e.Id ^= 1 << 31 },
		func(e *api.Entry) { e.Id ^= 1 << 32 },
		func(e *api.Entry) { e.Id ^= 1 << 63 },
		func(e *api.Entry) { e.From++ },
		func(e *api.Entry) { e.From ^= 1 << 31 },
		func(e *api.Entry) { e.Until++ },
		func(e *api.Entry) { e.Until ^= 1 << 31 },
		func(e *api.Entry) { e.Index++ },
		func(e *api.Entry) { e.Index ^= 1 << 15 },
		func(e *api.Entry) { e.Tag += "\x00" },
		func(e *api.Entry) { e.Tag = "t" + e.Tag },
		func(e *api.Entry) { e.Tag = spoilt(e.Tag, 0) },
		func(e *api.Entry) { e.Tag = spoilt(e.Tag, len(e.Tag)-1) },
	}
}

// fineEntries answers entries that may be, some of which differ from the plain one in one field each.
func fineEntries() []api.Entry {
	list := []api.Entry{plainEntry(), otherEntry(), longEntry(), leastEntry()}
	for _, change := range []func(e *api.Entry){
		func(e *api.Entry) { e.Name = "node-2" },
		func(e *api.Entry) { e.Name = "n" },
		func(e *api.Entry) { e.Name = "node-11" },
		func(e *api.Entry) { e.Id++ },
		func(e *api.Entry) { e.Id = 0 },
		func(e *api.Entry) { e.Id ^= 1 << 63 },
		func(e *api.Entry) { e.From = 4 },
		func(e *api.Entry) { e.From = 0 },
		func(e *api.Entry) { e.Until = 1001 },
		func(e *api.Entry) { e.Until = 1 << 30 },
		func(e *api.Entry) { e.Index = 2 },
		func(e *api.Entry) { e.Index = 64 },
		func(e *api.Entry) { e.Tag = turned(e.Tag, 0, e.Tag[0]^1) },
		func(e *api.Entry) { e.Tag = turned(e.Tag, 31, e.Tag[31]^128) },
	} {
		list = append(list, but(plainEntry(), change))
	}
	return list
}

// oddEntries answers entries that may not be, each for one thing alone but for the first ones. All are put as unlike bytes.
func oddEntries() []api.Entry {
	list := []api.Entry{{}, wrongEntry(), hugeEntry(), taggedEntry()}
	for _, change := range []func(e *api.Entry){
		func(e *api.Entry) { e.Name = "" },
		func(e *api.Entry) { e.Name = "Node" },
		func(e *api.Entry) { e.Name = "1" },
		func(e *api.Entry) { e.Name = "a b" },
		func(e *api.Entry) { e.Name = "\xff\x00" },
		func(e *api.Entry) { e.Name = "abcdefghijklmnopq" },
		func(e *api.Entry) { e.Name = strings.Repeat("a", 256) },
		func(e *api.Entry) { e.From = -1 },
		func(e *api.Entry) { e.From = 1001 },
		func(e *api.Entry) { e.From = math.MinInt + 7 },
		func(e *api.Entry) { e.Until = 4 },
		func(e *api.Entry) { e.Until = -1 },
		func(e *api.Entry) { e.Until = 1<<30 + 1 },
		func(e *api.Entry) { e.Until = math.MaxInt - 7 },
		func(e *api.Entry) { e.Index = -1 },
		func(e *api.Entry) { e.Index = 65 },
		func(e *api.Entry) { e.Index = math.MaxInt - 7 },
		func(e *api.Entry) { e.Tag = "" },
		func(e *api.Entry) { e.Tag = e.Tag[:31] },
		func(e *api.Entry) { e.Tag += "t" },
		func(e *api.Entry) { e.Tag += e.Tag },
		func(e *api.Entry) { e.Tag += strings.Repeat("\x00", 300) },
	} {
		list = append(list, but(plainEntry(), change))
	}
	return list
}

func allEntries() []api.Entry { return append(fineEntries(), oddEntries()...) }

// What Roots are handed

// A meeting is all that Roots are handed.
type meeting struct {
	psk             string
	first, second   uint64
	asker, answerer api.Entry
}

// roots answers Roots of it.
func (m meeting) roots() (there, back string) {
	return Roots(m.psk, m.first, m.second, m.asker, m.answerer)
}

// plain answers an ordinary one.
func plain() meeting { return meeting{"psk", 258, 259, plainEntry(), otherEntry()} }

// bases answers the ordinary one, and those of the least, the greatest and wrong things.
func bases() []meeting {
	return []meeting{
		plain(),
		{},
		{strings.Repeat("\xff", 64), math.MaxUint64, math.MaxUint64, longEntry(), longEntry()},
		{made(65, 3), 1, 1 << 63, wrongEntry(), hugeEntry()},
		{made(64, 4), 7, 7, leastEntry(), leastEntry()},
		{made(1000, 5), 1<<32 - 1, 1 << 32, plainEntry(), plainEntry()},
	}
}

// secrets answers secrets of lengths at and beside those of a sum and of a block, and some that are nearly alike.
func secrets() []string {
	return []string{"", "psk", "psl", "PSK", "psk\x00", "\x00psk", " psk", "\x00", "\x00\x00", "\xff", made(31, 1), made(32, 2), made(33, 3), made(63, 4), made(64, 5), made(64, 5) + "\x00", made(65, 6), made(65, 7), made(100, 8), made(127, 9), made(128, 10), made(129, 11), made(1000, 12), made(70000, 13), strings.Repeat("\x00", 64), strings.Repeat("\xff", 64), strings.Repeat("k", 64), strings.Repeat("k", 65)}
}

// numbers answers numbers at the edges of their range, and in between.
func numbers() []uint64 {
	return []uint64{0, 1, 2, 255, 256, 258, 1<<32 - 1, 1 << 32, 1<<63 - 1, 1 << 63, 1<<63 + 1, 0x0102030405060708, 0x0807060504030201, 0xfedcba9876543210, math.MaxUint64 - 1, math.MaxUint64}
}

// What Epoch is handed

// roots answers roots that have unlike blocks (chapter 4), of lengths at and beside a block's.
func roots() []string {
	return []string{"", "root", "roos", "Root", "\x01", "\x00\x01", made(31, 1), made(32, 2), made(32, 3), made(33, 4), made(63, 5), made(64, 6), made(65, 7), made(128, 8), made(1000, 9), made(70000, 10), strings.Repeat("\xff", 32), strings.Repeat("\xff", 33)}
}

// epochs answers the epochs at the edges of what may be one, and of numbers' digits and sizes.
func epochs() []int {
	list := []int{0, 65535, 65534, 65536, 65537, -1, math.MaxInt, math.MaxInt - 1, math.MinInt, math.MinInt + 1}
	for _, edge := range []int{10, 100, 1000, 10000, 100000, 1000000, 1 << 31, 1 << 32, 1000000000000000000} {
		list = append(list, edge-1, edge, edge+1, -edge-1, -edge, -edge+1)
	}
	for n := 1; n < 9; n++ {
		list = append(list, n)
	}
	for n := -8; n < -1; n++ {
		list = append(list, n)
	}
	return list
}

// What Mine is handed

// others answers roles that are none, some of which are ones if only their lowest bits count.
func others() []int {
	list := []int{0, math.MinInt, math.MinInt + 1, math.MinInt + 2, math.MaxInt, math.MaxInt - 1}
	for n := 3; n < 70; n++ {
		list = append(list, n, -n)
	}
	for _, by := range []int{8, 16, 31, 32, 33, 62} {
		for n := range 4 {
			list = append(list, 1<<by+n, -1<<by+n, -1<<by-n)
		}
	}
	return append(list, -1, -2)
}

// pairs answers two texts each, such as may stand for roots.
func pairs() [][2]string {
	return [][2]string{{"x", "y"}, {"y", "x"}, {"", ""}, {"x", ""}, {"", "y"}, {"x", "x"}, {"x", "xx"}, {"\x00", ""}, {made(32, 1), made(32, 2)}, {made(32, 2), made(32, 1)}, {made(32, 3), made(32, 3)}, {made(70000, 4), made(31, 5)}, {"\xff\xfe", "é"}}
}

// The chapter's words, with the library's tags

// wantText answers a text with its length ahead, cut to what that can tell.
func wantText(s string) string {
	s = s[:min(len(s), 65535)]
	return string(binary.BigEndian.AppendUint16(nil, uint16(len(s)))) + s
}

func wantNum(n uint64) string { return string(binary.BigEndian.AppendUint64(nil, n)) }

// entryText answers what chapter 11's Bytes has to, as a Text.
func entryText(e api.Entry) string {
	b := binary.BigEndian.AppendUint64([]byte(wantText(e.Name)), e.Id)
	b = binary.BigEndian.AppendUint32(b, uint32(e.From))
	b = binary.BigEndian.AppendUint32(b, uint32(e.Until))
	b = binary.BigEndian.AppendUint16(b, uint16(e.Index))
	return wantText(string(b) + e.Tag)
}

// wantTag answers chapter 4's Sum by the library's.
func wantTag(key, of string) string {
	h := hmac.New(sha256.New, []byte(key))
	h.Write([]byte(of))
	return string(h.Sum(nil))
}

// rootsOf answers what roots have to be by this salt, secret and info: the two blocks that chapter 5 makes first.
func rootsOf(salt, secret, info string) (there, back string) {
	from := wantTag(salt, secret)
	there = wantTag(from, info+"\x01")
	return there, wantTag(from, there+info+"\x02")
}

// wantRoots answers what Roots have to be.
func (m meeting) wantRoots() (there, back string) {
	return rootsOf(wantNum(m.first)+wantNum(m.second), m.psk, "carcanet session"+entryText(m.asker)+entryText(m.answerer))
}

// wantEpoch answers what Epoch has to be.
func wantEpoch(root string, epoch int) string {
	return wantTag(root, "carcanet epoch "+strconv.FormatInt(int64(epoch), 10)+"\x01")
}
