package msg

import (
	"fmt"
	"math"
	"reflect"
	"slices"
	"strings"

	"carcanet/api"
)

// made answers a text of so many bytes without a plain order, the same ones for the same seed.
func made(length int, seed byte) string {
	b := make([]byte, length)
	state := uint32(seed)*2654435761 + 1
	for i := range b {
		state = state*1664525 + 1013904223
		b[i] = byte(state>>24) ^ seed
	}
	return string(b)
}

// plainEntry answers an entry that may be.
func plainEntry() api.Entry {
	return api.Entry{Name: "node-1", Id: 0x0102030405060708, From: 5, Until: 1000, Index: 3, Tag: made(32, 9)}
}

// butEntry answers that entry, changed.
func butEntry(change func(e *api.Entry)) api.Entry {
	e := plainEntry()
	change(&e)
	return e
}

// longEntry answers the entry of the greatest numbers and the longest texts that may be.
func longEntry() api.Entry {
	return api.Entry{Name: "abcdefghijklmnop", Id: math.MaxUint64, From: 1 << 30, Until: 1 << 30, Index: 64, Tag: strings.Repeat("\xff", 32)}
}

// entries answers so many entries that may be, no two of them alike.
func entries(many int) []api.Entry {
	list := make([]api.Entry, 0, many)
	for n := range many {
		list = append(list, butEntry(func(e *api.Entry) { e.Name, e.Id, e.Index = fmt.Sprint("n", n), uint64(n), n%65 }))
	}
	return list
}

// oddEntries answers entries that may not be.
func oddEntries() []api.Entry {
	return []api.Entry{
		{},
		butEntry(func(e *api.Entry) { e.Name = "" }),
		butEntry(func(e *api.Entry) { e.Name = "Node" }),
		butEntry(func(e *api.Entry) { e.Name = "abcdefghijklmnopq" }),
		butEntry(func(e *api.Entry) { e.From = -1 }),
		butEntry(func(e *api.Entry) { e.Until = 4 }),
		butEntry(func(e *api.Entry) { e.Until = 1<<30 + 1 }),
		butEntry(func(e *api.Entry) { e.Index = -1 }),
		butEntry(func(e *api.Entry) { e.Index = 65 }),
		butEntry(func(e *api.Entry) { e.Tag = "" }),
		butEntry(func(e *api.Entry) { e.Tag = e.Tag[:31] }),
		butEntry(func(e *api.Entry) { e.Tag += "t" }),
	}
}

// plainItem answers an item that may be.
func plainItem() api.Item { return api.Item{Key: "k/1", Val: "v 1", Ver: 3, Gone: true} }

// butItem answers that item, changed.
func butItem(change func(i *api.Item)) api.Item {
	i := plainItem()
	change(&i)
	return i
}

// longItem answers the item of the greatest version and the longest texts that may be.
func longItem() api.Item {
	return api.Item{Key: strings.Repeat("~", 24), Val: strings.Repeat("\xff", 32), Ver: 1 << 30, Gone: true}
}

// items answers so many items that may be, no two of them alike.
func items(many int) []api.Item {
	list := make([]api.Item, 0, many)
	for n := range many {
		list = append(list, api.Item{Key: fmt.Sprint("k", n), Val: made(n%33, byte(n)), Ver: n + 1, Gone: n%2 == 1})
	}
	return list
}

// An itemEdge is an item at the edge of what may be, and whether it may.
type itemEdge struct {
	item  api.Item
	right bool
}

// itemEdges answers items of which one field is at an edge.
func itemEdges() []itemEdge {
	list := []itemEdge{{api.Item{}, false}, {plainItem(), true}, {longItem(), true}, {api.Item{Key: "!", Ver: 1}, true}, {api.Item{Key: "k"}, false}, {api.Item{Ver: 1}, false}, {butItem(func(i *api.Item) { i.Gone = false }), true}}
	for _, x := range keyEdges() {
		list = append(list, itemEdge{butItem(func(i *api.Item) { i.Key = x.text }), x.right})
	}
	for _, x := range valEdges() {
		list = append(list, itemEdge{butItem(func(i *api.Item) { i.Val = x.text }), x.right})
	}
	for _, n := range []int{math.MinInt, -1, 0, 1, 2, 1<<30 - 1, 1 << 30, 1<<30 + 1, 1 << 31, 1 << 32, 1<<32 + 1, math.MaxInt} {
		list = append(list, itemEdge{butItem(func(i *api.Item) { i.Ver = n }), 1 <= n && n <= 1<<30})
	}
	return list
}

// A textEdge is a text, and whether it is a key, or a value.
type textEdge struct {
	text  string
	right bool
}

func keyEdges() []textEdge {
	return []textEdge{
		{"", false}, {"k", true}, {"!", true}, {"~", true}, {"a/b", true}, {strings.Repeat("k", 23), true}, {strings.Repeat("k", 24), true}, {strings.Repeat("k", 25), false}, {strings.Repeat("k", 65536), false},
		{" ", false}, {"a b", false}, {"a ", false}, {" a", false}, {"\x7f", false}, {"a\x00", false}, {"\n", false}, {"é", false}, {"\xff", false}, {strings.Repeat("k", 23) + " ", false},
	}
}

func valEdges() []textEdge {
	return []textEdge{
		{"", true}, {"v", true}, {" ", true}, {"\x00", true}, {strings.Repeat("v", 31), true}, {strings.Repeat("\xff", 32), true}, {strings.Repeat("é", 16), true}, {strings.Repeat("v", 33), false}, {strings.Repeat("é", 17), false}, {strings.Repeat("v", 65536), false},
	}
}

// names answers the fields that some kinds have.
func names() []string {
	return []string{"Error", "Has", "Gone", "Id", "Ver", "Key", "Val", "Entries", "Items"}
}

// fields is the chapter's table: what each kind has beside Kind and Rid, in order.
var fields = map[int][]string{
	1: {}, 2: {}, 3: {}, 4: {"Has", "Entries"}, 5: {}, 6: {"Id"}, 7: {"Entries"}, 8: {"Gone", "Key", "Val"},
	9: {"Error", "Ver"}, 10: {"Key"}, 11: {"Error", "Has", "Gone", "Ver", "Val"}, 12: {"Items"}, 13: {"Error"}, 14: {"Id"}, 15: {"Error", "Items"}, 16: {},
}

// kinds answers the kinds, rising.
func kinds() []int { return []int{1, 2, 3, 4, 5, 6, 7, 8, 9, 10, 11, 12, 13, 14, 15, 16} }

// noKinds answers numbers that are no kind, some of which are one in a byte.
func noKinds() []int {
	list := []int{-1, 0, 17, 18, 127, 128, 255, 256, -256, 1 << 32, math.MinInt, math.MinInt + 1, math.MaxInt - 1, math.MaxInt}
	for kind := range 16 {
		list = append(list, 256+kind+1, -kind-1, kind+1-256, 1<<32+kind+1, math.MinInt+kind+1)
	}
	return list
}

// give answers a message with another value in this field.
func give(m api.Msg, field string, value any) api.Msg {
	reflect.ValueOf(&m).Elem().FieldByName(field).Set(reflect.ValueOf(value))
	return m
}

// filled answers a message of this kind with these values in its kind's fields.
func filled(kind, rid int, values map[string]any) api.Msg {
	m := api.Msg{Kind: kind, Rid: rid}
	for _, field := range fields[kind] {
		m = give(m, field, values[field])
	}
	return m
}

// ordinary answers a value of each field that a message may have, none of them zero.
func ordinary() map[string]any {
	return map[string]any{"Error": api.Errno(27), "Has": true, "Gone": true, "Id": uint64(258), "Ver": 5, "Key": "k/1", "Val": "v 1", "Entries": []api.Entry{plainEntry()}, "Items": []api.Item{plainItem(), {Key: "k", Ver: 1}}}
}

// full answers a message of this kind that has all of its kind's fields.
func full(kind int) api.Msg { return filled(kind, 7, ordinary()) }

// greatest answers a message of this kind of the greatest numbers, the longest texts and the fullest lists.
func greatest(kind int) api.Msg {
	list := slices.Repeat([]api.Entry{longEntry()}, 8)
	if kind == api.MFound {
		list = list[:1]
	}
	return filled(kind, 1<<30, map[string]any{"Error": api.Errno(99), "Has": true, "Gone": true, "Id": uint64(math.MaxUint64), "Ver": 1 << 30, "Key": strings.Repeat("~", 24), "Val": strings.Repeat("\xff", 32), "Entries": list, "Items": slices.Repeat([]api.Item{longItem()}, 16)})
}

// least answers a message of this kind that has no more than it must.
func least(kind int) api.Msg {
	m := api.Msg{Kind: kind}
	switch kind {
	case api.MPut, api.MGet:
		m.Key = "k"
	case api.MFound:
		m.Entries = []api.Entry{{Name: "a", Tag: strings.Repeat("\x00", 32)}}
	}
	return m
}

// all answers a message of this kind that has each field, its kind's or not.
func all(kind int) api.Msg {
	m := api.Msg{Kind: kind, Rid: 7}
	for field, value := range ordinary() {
		m = give(m, field, value)
	}
	return m
}

// An edge is a value of a field, and whether a message that has the field may have it.
type edge struct {
	field string
	value any
	right bool
}

// edges answers values at the edges of each field that this kind may have.
func edges(kind int) []edge {
	list := []edge{
		{"Rid", math.MinInt, false}, {"Rid", -1, false}, {"Rid", 0, true}, {"Rid", 1, true}, {"Rid", 1<<30 - 1, true}, {"Rid", 1 << 30, true}, {"Rid", 1<<30 + 1, false}, {"Rid", 1 << 31, false}, {"Rid", 1<<32 - 1, false}, {"Rid", 1 << 32, false}, {"Rid", 1<<32 + 7, false}, {"Rid", math.MaxInt, false},
		{"Ver", math.MinInt, false}, {"Ver", -1, false}, {"Ver", 0, true}, {"Ver", 1, true}, {"Ver", 1<<30 - 1, true}, {"Ver", 1 << 30, true}, {"Ver", 1<<30 + 1, false}, {"Ver", 1 << 31, false}, {"Ver", 1<<32 - 1, false}, {"Ver", 1 << 32, false}, {"Ver", 1<<32 + 7, false}, {"Ver", math.MaxInt, false},
		{"Has", false, true}, {"Has", true, true}, {"Gone", false, true}, {"Gone", true, true},
		{"Id", uint64(0), true}, {"Id", uint64(1), true}, {"Id", uint64(1 << 63), true}, {"Id", uint64(math.MaxUint64), true},
	}
	for _, n := range []int{math.MinInt, -65536, -65535, -1, 0, 1, 52, 53, 98, 99, 100, 101, 127, 128, 255, 256, 257, 65535, 65536, 65537, 1 << 32, 1<<32 + 27, math.MaxInt} {
		list = append(list, edge{"Error", api.Errno(n), 0 <= n && n <= 99})
	}
	for _, x := range keyEdges() {
		list = append(list, edge{"Key", x.text, x.right})
	}
	for _, x := range valEdges() {
		list = append(list, edge{"Val", x.text, x.right})
	}
	return append(append(list, entriesEdges(kind)...), itemsEdges()...)
}

// entriesEdges answers lists of entries: of each length up to nine and some more, and with one that may not be in each place.
func entriesEdges(kind int) []edge {
	list := []edge{{"Entries", []api.Entry(nil), kind != api.MFound}, {"Entries", []api.Entry{}, kind != api.MFound}, {"Entries", []api.Entry{longEntry()}, true}, {"Entries", []api.Entry{{Name: "a", Tag: strings.Repeat("t", 32)}}, true}}
	may := func(many int) bool { return many <= 8 && (kind != api.MFound || many == 1) }
	for _, many := range []int{0, 1, 2, 3, 4, 5, 6, 7, 8, 9, 10, 16, 17, 255, 256, 257, 264, 1000} {
		list = append(list, edge{"Entries", entries(many), may(many)}, edge{"Entries", slices.Repeat([]api.Entry{plainEntry()}, many), may(many)})
	}
	for _, many := range []int{1, 2, 8} {
		for at := range many {
			for _, e := range oddEntries() {
				l := entries(many)
				l[at] = e
				list = append(list, edge{"Entries", l, false})
			}
		}
	}
	return list
}

// itemsEdges answers lists of items: of each length up to seventeen and some more, and with one at an edge in each place.
func itemsEdges() []edge {
	list := []edge{{"Items", []api.Item(nil), true}, {"Items", []api.Item{}, true}}
	for _, many := range []int{0, 1, 2, 8, 9, 15, 16, 17, 18, 32, 255, 256, 257, 272, 1000} {
		list = append(list, edge{"Items", items(many), many <= 16}, edge{"Items", slices.Repeat([]api.Item{plainItem()}, many), many <= 16})
	}
	for _, many := range []int{1, 2, 16} {
		for at := range many {
			for _, x := range itemEdges() {
				l := items(many)
				l[at] = x.item
				list = append(list, edge{"Items", l, x.right})
			}
		}
	}
	return list
}

// empty tells whether a field is zero, of which a list without an element is one, too.
func empty(value any) bool {
	v := reflect.ValueOf(value)
	return v.IsZero() || v.Kind() == reflect.Slice && v.Len() == 0
}

// A sample is a message, and whether it may be.
type sample struct {
	m     api.Msg
	right bool
}

// samples answers messages of all kinds with each field at its edges, those that their kinds do not have, too.
func samples() []sample {
	var list []sample
	for _, kind := range kinds() {
		has := fields[kind]
		list = append(list, sample{full(kind), true}, sample{greatest(kind), true}, sample{least(kind), true}, sample{all(kind), false})
		for _, base := range []api.Msg{full(kind), greatest(kind), least(kind)} {
			for _, x := range edges(kind) {
				right := x.right
				if x.field != "Rid" && !slices.Contains(has, x.field) {
					right = empty(x.value)
				}
				list = append(list, sample{give(base, x.field, x.value), right})
			}
		}
		for _, none := range []int{256 + kind, kind - 256, -kind} {
			m := full(kind)
			m.Kind = none
			list = append(list, sample{m, false})
		}
	}
	for _, kind := range noKinds() {
		list = append(list, sample{api.Msg{Kind: kind}, false}, sample{api.Msg{Kind: kind, Rid: 7}, false}, sample{all(kind), false})
		for _, field := range names() {
			list = append(list, sample{give(api.Msg{Kind: kind}, field, ordinary()[field]), false})
		}
	}
	return list
}

// right answers those of them that may be.
func right() []api.Msg {
	var list []api.Msg
	for _, x := range samples() {
		if x.right {
			list = append(list, x.m)
		}
	}
	return list
}

// show tells a message shortly.
func show(m api.Msg) string {
	return fmt.Sprintf("{kind %d of %d: %d %d %x %t %t %.30q (%d) %.40q (%d), %d entries %.200q, %d items %.200q}", m.Kind, m.Rid, m.Error, m.Ver, m.Id, m.Has, m.Gone, m.Key, len(m.Key), m.Val, len(m.Val), len(m.Entries), fmt.Sprint(m.Entries[:min(len(m.Entries), 20)]), len(m.Items), fmt.Sprint(m.Items[:min(len(m.Items), 20)]))
}

// alike tells whether messages are the same, of which lists without an element are, whatever their memory.
func alike(a, b api.Msg) bool { return reflect.DeepEqual(plain(a), plain(b)) }

// plain answers a message whose lists without an element are nil.
func plain(m api.Msg) api.Msg {
	if len(m.Entries) == 0 {
		m.Entries = nil
	}
	if len(m.Items) == 0 {
		m.Items = nil
	}
	return m
}
