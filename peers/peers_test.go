package peers

import (
	"fmt"
	"slices"
	"strings"
	"testing"

	"carcanet/api"
)

// show tells a list shortly.
func show(l []api.Peer) string {
	var b strings.Builder
	for i, p := range l {
		fmt.Fprintf(&b, "\n\t%d: %q %d, from %d until %d, key %d, %q, taken %d under %d", i, p.Entry.Name, p.Entry.Id, p.Entry.From, p.Entry.Until, p.Entry.Index, p.Entry.Tag, p.Since, p.Under)
	}
	return fmt.Sprintf("%d peers%s", len(l), b.String())
}

// is asks that a list is this one.
func is(t *testing.T, what string, got, want []api.Peer) {
	t.Helper()
	if !slices.Equal(got, want) {
		t.Fatalf("%s: %s\nwanted %s", what, show(got), show(want))
	}
}

// are asks that entries are these.
func are(t *testing.T, what string, got, want []api.Entry) {
	t.Helper()
	if !slices.Equal(got, want) {
		t.Fatalf("%s: %#v\nwanted %#v", what, got, want)
	}
}

// finds asks that Place answers this.
func finds(t *testing.T, l []api.Peer, name string, want int) {
	t.Helper()
	if got := Place(l, name); got != want {
		t.Fatalf("Place of %q: %d, wanted %d, of %s", name, got, want, show(l))
	}
}

// right asks that Right answers this.
func right(t *testing.T, me api.Entry, l []api.Peer, want bool) {
	t.Helper()
	if got := Right(me, l); got != want {
		t.Fatalf("Right of %q %d: %v, wanted %v, of %s", me.Name, me.Id, got, want, show(l))
	}
}

// adds asks that Add answers this.
func adds(t *testing.T, me api.Entry, l []api.Peer, p api.Peer, want []api.Peer) {
	t.Helper()
	is(t, fmt.Sprintf("node %d, Add of %s\nto %s\nanswers", me.Id, show([]api.Peer{p}), show(l)), Add(me, l, p), want)
}

// stands asks that Add answers the list as it is.
func stands(t *testing.T, me api.Entry, l []api.Peer, p api.Peer) {
	t.Helper()
	adds(t, me, l, p, l)
}

// comes asks that Add puts p at this place of the list, and that nothing goes.
func comes(t *testing.T, me api.Entry, l []api.Peer, p api.Peer, place int) {
	t.Helper()
	adds(t, me, l, p, slices.Insert(slices.Clone(l), place, p))
}

// owns asks that Owner answers this.
func owns(t *testing.T, me api.Entry, l []api.Peer, key uint64, want api.Entry) {
	t.Helper()
	if got := Owner(me, l, key); got != want {
		t.Fatalf("node %d, Owner of %d: %#v\nwanted %#v, of %s", me.Id, key, got, want, show(l))
	}
}

// before asks that Before answers this.
func before(t *testing.T, me api.Entry, l []api.Peer, want uint64) {
	t.Helper()
	if got := Before(me, l); got != want {
		t.Fatalf("node %d, Before: %d, wanted %d, of %s", me.Id, got, want, show(l))
	}
}

// all asks each call of a list, a peer and a key, and wants what the chapter's words ask for.
func all(t *testing.T, me api.Entry, l []api.Peer, p api.Peer, key uint64) {
	t.Helper()
	finds(t, l, p.Entry.Name, wantPlace(l, p.Entry.Name))
	right(t, me, l, wantRight(me, l))
	adds(t, me, l, p, wantAdd(me, l, p))
	is(t, fmt.Sprintf("Drop of %q from %s\nanswers", p.Entry.Name, show(l)), Drop(l, p.Entry.Name), wantDrop(l, p.Entry.Name))
	for _, k := range []uint64{key, me.Id, p.Entry.Id} {
		owns(t, me, l, k, wantOwner(me, l, k))
	}
	for n := -1; n < len(l)+2; n++ {
		are(t, fmt.Sprint("First ", n), First(l, n), wantFirst(l, n))
	}
	are(t, "Entries", Entries(l), wantEntries(l))
	before(t, me, l, wantBefore(me, l))
}

// P24.1: Place

func TestPlaceIsTheFirst(t *testing.T) {
	for _, x := range []struct {
		l    []api.Peer
		name string
		want int
	}{
		{row(1), "a", 0},
		{row(1, 2, 3), "a", 0},
		{row(1, 2, 3), "b", 1},
		{row(3, 2, 1), "c", 2},
		{row(1, 2, 3), "d", -1},
		{called(5, "a", "b", "a"), "a", 0},
		{called(5, "b", "a", "a"), "a", 1},
		{[]api.Peer{at("b", 1), at("a", 9), at("a", 1), at("a", 5)}, "a", 1},
		{append(many(8), at("h", 1)), "h", 7},
		{append(many(30), at("", 1)), "", 30},
	} {
		finds(t, x.l, x.name, x.want)
	}
}

// A name is found as it is written alone, and no other part of a peer is a name.
func TestPlaceOfEachName(t *testing.T) {
	names := rising()
	l := called(5, names...)
	for i, name := range names {
		finds(t, l, name, i)
		finds(t, slices.Concat(l[:i], l[i+1:]), name, -1)
		finds(t, slices.Concat(l, l), name, i)
		finds(t, slices.Concat(l[i+1:], l), name, len(names)-1)
	}
	for _, name := range []string{"B", "a\x00a", "aaa", "tag", "\xfe", "\xc3", "é\x00", "5", " a"} {
		finds(t, l, name, -1)
	}
}

func TestPlaceOfNoList(t *testing.T) {
	for _, l := range nothings() {
		for _, name := range append(rising(), "me", "d", "tag") {
			finds(t, l, name, -1)
		}
	}
}

// P24.1: Right

func TestRightOfOrder(t *testing.T) {
	for _, x := range []struct {
		me   uint64
		l    []api.Peer
		want bool
	}{
		{100, row(101), true},
		{100, row(99), true},
		{100, row(100), true},
		{100, row(101, 102), true},
		{100, row(102, 101), false},
		{100, row(100, 101), true},
		{100, row(101, 100), false},
		{100, row(101, 99), true},
		{100, row(99, 101), false},
		{100, row(99, 100), false},
		{100, row(end, 0), true},
		{100, row(0, end), false},
		{100, row(101, end-1, end, 0, 1, 98, 99), true},
		{100, row(101, end, end-1, 0, 1, 98, 99), false},
		{100, row(102, 101, end, 0, 1, 98, 99), false},
		{100, row(101, end, 0, 1, 97, 99, 98), false},
		{100, row(101, 102, 103, 104, 106, 105), false},
		{100, row(101, 103, 102, 104, 105, 106), false},
		{0, row(0, 1, 1<<63, end), true},
		{0, row(1, 1<<32), true},
		{0, row(1<<32, 1), false},
		{0, row(1<<63, 1<<63-1), false},
		{0, row(1<<63-1, 1<<63), true},
		{end, row(end, 0, 1, end-1), true},
		{end, row(end-1, 0), false},
		{1 << 63, row(1<<63+1, end, 0, 1<<63-1), true},
		{1 << 63, row(0, end), false},
	} {
		right(t, node(x.me), x.l, x.want)
	}
}

// Peers of one identifier stand by their names.
func TestRightOfNames(t *testing.T) {
	names := rising()
	for i, name := range names {
		for j, other := range names {
			for _, id := range []uint64{100, 101, 99, 0, end} {
				right(t, node(100), called(id, name, other), i < j)
			}
			right(t, node(100), []api.Peer{at(name, 101), at(other, 102)}, i != j)
			right(t, node(100), []api.Peer{at(name, 102), at(other, 101)}, false)
		}
	}
	for i := range len(names) - 6 {
		right(t, node(100), called(7, names[i:i+7]...), true)
		for j := range 6 {
			l := called(7, names[i:i+7]...)
			l[j], l[j+1] = l[j+1], l[j]
			right(t, node(100), l, false)
		}
	}
}

func TestRightOfTheNodesName(t *testing.T) {
	for many := range 7 {
		for place := range many + 1 {
			l := slices.Insert(row(102, 104, 106, 108, 110, 112)[:many], place, at("me", uint64(101+2*place)))
			right(t, node(100), l, false)
			l[place].Entry.Name = "m"
			right(t, node(100), l, true)
		}
	}
	right(t, node(100), []api.Peer{at("me", 100)}, false)
	right(t, node(100), []api.Peer{{Entry: node(100)}}, false)
	right(t, api.Entry{Id: 100}, []api.Peer{at("", 101)}, false)
	right(t, api.Entry{Id: 100}, []api.Peer{at("me", 101)}, true)
	for _, name := range rising() {
		right(t, api.Entry{Name: name, Id: 100}, []api.Peer{at(name, 101)}, false)
		right(t, api.Entry{Name: name, Id: 100}, []api.Peer{at(name+"\x00", 101), at(name+"-", 102), at("+"+name, 103)}, true)
	}
}

func TestRightOfTwoOfOneName(t *testing.T) {
	good := many(7)
	for i := range good {
		for j := range i {
			l := slices.Clone(good)
			l[i].Entry.Name = l[j].Entry.Name
			right(t, node(100), l, false)
			right(t, node(100), l[j:i+1], false)
		}
	}
	for _, l := range [][]api.Peer{
		{at("a", 101), at("a", 101)},
		{at("a", 101), taken(at("a", 101))},
		{at("a", 101), renewed(at("a", 101))},
		{at("a", 101), at("a", 102)},
		{at("a", 102), at("a", 101)},
		{at("a", 101), at("b", 102), at("a", 103)},
		{at("", 101), at("b", 102), at("", 103)},
		{at("b", 101), at("a", 102), at("c", 103), at("a", 104)},
	} {
		right(t, node(100), l, false)
	}
}

func TestRightOfHowMany(t *testing.T) {
	for count := range 12 {
		right(t, node(100), many(count), count <= 7)
	}
	right(t, node(100), many(300), false)
	for _, l := range nothings() {
		for _, id := range nodes() {
			right(t, node(id), l, true)
		}
	}
	right(t, api.Entry{}, nil, true)
	right(t, api.Entry{}, []api.Peer{{}}, false)
}

// Whether a list is Right hangs on names and identifiers alone.
func TestRightOfOtherParts(t *testing.T) {
	good := many(7)
	for i := range good {
		for _, other := range append(others(good[i]), taken(good[i]), api.Peer{Entry: api.Entry{Name: good[i].Entry.Name, Id: good[i].Entry.Id}}) {
			l := slices.Clone(good)
			l[i] = other
			right(t, node(100), l, true)
			right(t, api.Entry{Name: "me", Id: 100}, l, true)
		}
	}
}

// P24.2: the list as it is

func TestAddOfTheNodesName(t *testing.T) {
	lists := append(nothings(), many(1), many(6), many(7), many(8), many(12), row(130, 110, 120), called(5, "b", "me", "a"))
	for _, l := range lists {
		for _, id := range []uint64{0, 99, 100, 101, 115, end} {
			stands(t, node(100), l, at("me", id))
		}
		stands(t, node(100), l, api.Peer{Entry: node(100)})
		stands(t, api.Entry{Id: 100}, l, at("", 105))
	}
	comes(t, node(100), many(2), at("m", 105), 0)
	comes(t, node(100), many(2), at("me ", 105), 0)
	comes(t, node(100), many(2), at("Me", 105), 0)
	comes(t, node(100), many(2), at("", 105), 0)
	comes(t, node(100), many(2), at("other", 100), 0)
	comes(t, api.Entry{Id: 100}, many(2), at("me", 105), 0)
}

// A certificate that is there stays as it was taken, whatever else the new peer has.
func TestAddOfAnEntryThatIsThere(t *testing.T) {
	for _, l := range [][]api.Peer{many(1), many(3), many(6), many(7), many(8), many(12), row(130, 110, 120), called(5, "c", "", "\xff", "a")} {
		for _, p := range l {
			stands(t, node(100), l, p)
			stands(t, node(100), l, taken(p))
			stands(t, node(p.Entry.Id), l, taken(p))
			stands(t, node(100), l, api.Peer{Entry: p.Entry})
			stands(t, node(100), l, api.Peer{Entry: p.Entry, Since: greatest, Under: least})
		}
	}
}

// One of several of that name is enough, wherever it stands; the others stay too.
func TestAddOfAnEntryThatIsThereAmongOthersOfItsName(t *testing.T) {
	p := at("b", 115)
	for _, other := range append(others(p), moved(p, 105), moved(p, 300)) {
		stands(t, node(100), []api.Peer{p, other}, taken(p))
		stands(t, node(100), []api.Peer{other, p}, taken(p))
		stands(t, node(100), []api.Peer{other, at("a", 3), other, taken(p), at("c", 4), other}, p)
		stands(t, node(100), append(slices.Repeat([]api.Peer{other}, 20), p), taken(p))
	}
}

// P24.2: another certificate of a name

func TestAddOfAnotherEntry(t *testing.T) {
	for i := range 7 {
		l := many(7)
		for _, other := range others(l[i]) {
			want := slices.Clone(l)
			want[i] = other
			adds(t, node(100), l, other, want)
			adds(t, node(100), l, taken(other), slices.Concat(l[:i], []api.Peer{taken(other)}, l[i+1:]))
		}
	}
}

func TestAddOfANameThatMoves(t *testing.T) {
	l := row(110, 120, 130, 140, 150, 160, 170)
	a, b, c, d, e, f, g := l[0], l[1], l[2], l[3], l[4], l[5], l[6]
	for _, x := range []struct {
		l    []api.Peer
		p    api.Peer
		want []api.Peer
	}{
		{l, moved(a, 101), []api.Peer{moved(a, 101), b, c, d, e, f, g}},
		{l, moved(a, 125), []api.Peer{b, moved(a, 125), c, d, e, f, g}},
		{l, moved(a, 99), []api.Peer{b, c, d, e, f, g, moved(a, 99)}},
		{l, moved(a, 100), []api.Peer{moved(a, 100), b, c, d, e, f, g}},
		{l, moved(d, 105), []api.Peer{moved(d, 105), a, b, c, e, f, g}},
		{l, moved(d, 131), []api.Peer{a, b, c, moved(d, 131), e, f, g}},
		{l, moved(d, 149), []api.Peer{a, b, c, moved(d, 149), e, f, g}},
		{l, moved(d, 151), []api.Peer{a, b, c, e, moved(d, 151), f, g}},
		{l, moved(d, 0), []api.Peer{a, b, c, e, f, g, moved(d, 0)}},
		{l, moved(g, 161), []api.Peer{a, b, c, d, e, f, moved(g, 161)}},
		{l, moved(g, 111), []api.Peer{a, moved(g, 111), b, c, d, e, f}},
		{l, moved(g, 109), []api.Peer{moved(g, 109), a, b, c, d, e, f}},
		{l, moved(g, 99), []api.Peer{a, b, c, d, e, f, moved(g, 99)}},
		{[]api.Peer{a}, moved(a, 111), []api.Peer{moved(a, 111)}},
		{[]api.Peer{a, b}, moved(a, 121), []api.Peer{b, moved(a, 121)}},
		{[]api.Peer{a, b}, moved(b, 109), []api.Peer{moved(b, 109), a}},
	} {
		adds(t, node(100), x.l, x.p, x.want)
	}
}

// All of that name go, wherever they stand, and make no gap where they stood.
func TestAddOfANameThatStandsThereSeveralTimes(t *testing.T) {
	a, c, d := at("a", 110), at("c", 130), at("d", 140)
	p := at("b", 120)
	x, y, z := renewed(p), moved(p, 105), moved(p, 50)
	for _, l := range [][]api.Peer{
		{a, x, c, d}, {x, a, c, d}, {a, c, d, x}, {a, c, x, d},
		{y, a, c, d}, {a, y, c, d}, {a, c, d, y},
		{z, a, c, d}, {a, z, c, d}, {a, c, d, z},
		{x, x, a, c, d}, {a, x, x, c, d}, {a, c, d, x, x},
		{z, y, x, a, c, d}, {a, z, y, x, c, d}, {a, c, d, z, y, x},
		{x, a, y, c, z, d}, {z, a, x, c, y, d, y}, {z, z, a, z, z, c, z, z, d, z, z},
		slices.Concat(slices.Repeat([]api.Peer{z}, 9), []api.Peer{a}, slices.Repeat([]api.Peer{x}, 9), []api.Peer{c, d}),
	} {
		adds(t, node(100), l, p, []api.Peer{a, p, c, d})
		adds(t, node(100), l, moved(p, 101), []api.Peer{moved(p, 101), a, c, d})
		adds(t, node(100), l, moved(p, 99), []api.Peer{a, c, d, moved(p, 99)})
	}
	for _, l := range [][]api.Peer{{x}, {x, y}, {z, z, x}, slices.Repeat([]api.Peer{z}, 20)} {
		adds(t, node(100), l, p, []api.Peer{p})
	}
}

// P24.2: the place

func TestAddAtEachPlace(t *testing.T) {
	for _, from := range nodes() {
		ids := places(from)
		for i := range len(ids) - 5 {
			l := row(ids[i : i+6]...)
			for j, p := range l {
				comes(t, node(from), slices.Delete(slices.Clone(l), j, j+1), p, j)
			}
		}
	}
}

func TestAddRoundTheCircle(t *testing.T) {
	for _, x := range []struct {
		me    uint64
		l     []api.Peer
		id    uint64
		place int
	}{
		{100, row(110, end, 5, 90), 100, 0},
		{100, row(110, end, 5, 90), 101, 0},
		{100, row(110, end, 5, 90), 109, 0},
		{100, row(110, end, 5, 90), 111, 1},
		{100, row(110, end, 5, 90), end - 1, 1},
		{100, row(110, end, 5, 90), 0, 2},
		{100, row(110, end, 5, 90), 4, 2},
		{100, row(110, end, 5, 90), 6, 3},
		{100, row(110, end, 5, 90), 89, 3},
		{100, row(110, end, 5, 90), 91, 4},
		{100, row(110, end, 5, 90), 99, 4},
		{0, row(1, end), 0, 0},
		{0, row(1, end), 1 << 63, 1},
		{0, row(1, end-1), end, 2},
		{end, row(0, end-1), end, 0},
		{end, row(1, end-1), 0, 0},
		{end, row(0, end-2), end - 1, 2},
		{1 << 63, row(1<<63+1, 1<<63-1), 0, 1},
		{1 << 63, row(1<<63+1, 1<<63-1), end, 1},
		{100, nil, 100, 0},
		{100, nil, 99, 0},
	} {
		comes(t, node(x.me), x.l, at("new", x.id), x.place)
	}
}

// Of one identifier, names tell who is ahead.
func TestAddOfAnIdentifierThatIsThere(t *testing.T) {
	names := rising()
	for _, id := range []uint64{100, 101, 99, 0, end} {
		for i, name := range names {
			for j, other := range names {
				switch {
				case i < j:
					comes(t, node(100), called(id, other), at(name, id), 0)
				case i > j:
					comes(t, node(100), called(id, other), at(name, id), 1)
				default:
					adds(t, node(100), called(id, other), renewed(at(name, id)), []api.Peer{renewed(at(name, id))})
				}
			}
		}
		for i := range len(names) - 5 {
			l := called(id, names[i:i+6]...)
			for j, p := range l {
				comes(t, node(100), slices.Delete(slices.Clone(l), j, j+1), p, j)
			}
		}
	}
	l := []api.Peer{at("z", 109), at("b", 110), at("d", 110), at("a", 111)}
	for name, place := range map[string]int{"a\x00": 1, "c": 2, "e": 3, "zz": 3, "": 1, "b\x00": 2, "D": 1, "\xff": 3} {
		comes(t, node(100), l, at(name, 110), place)
	}
	comes(t, node(100), l, at("b0", 109), 0)
	comes(t, node(100), l, at("b0", 111), 4)
}

// In a list that is in no order a peer stands behind the first ones that are ahead of it, and behind no gap.
func TestAddToAListInNoOrder(t *testing.T) {
	for _, x := range []struct {
		l     []api.Peer
		id    uint64
		place int
	}{
		{row(130, 110, 120), 125, 0},
		{row(130, 110, 120), 131, 3},
		{row(130, 110, 120), 130, 3},
		{row(110, 130, 115), 120, 1},
		{row(110, 130, 115, 116, 117), 120, 1},
		{row(110, 112, 150, 115, 116), 120, 2},
		{row(112, 110, 150, 115, 116), 120, 2},
		{row(112, 110, 150, 115, 116), 111, 0},
		{row(112, 110, 111, 115, 99), 120, 4},
		{row(99, 110, 111), 120, 0},
		{row(99, 98, 97), 99, 3},
		{row(110, 110, 110), 110, 3},
		{row(110, 120, 110), 110, 1},
	} {
		comes(t, node(100), x.l, at("new", x.id), x.place)
	}
}

// Another one of the same name that stands between others is no gap, though it is not ahead.
func TestAddOfANameInNoOrder(t *testing.T) {
	a, b, c := at("a", 110), at("b", 120), at("c", 130)
	old, p := at("new", 99), at("new", 125)
	adds(t, node(100), []api.Peer{old, c, a, b}, p, []api.Peer{p, c, a, b})
	adds(t, node(100), []api.Peer{a, old, c, b}, p, []api.Peer{a, p, c, b})
	adds(t, node(100), []api.Peer{a, old, b, old, c}, p, []api.Peer{a, b, p, c})
	adds(t, node(100), []api.Peer{b, old, a, old, c, old}, p, []api.Peer{b, a, p, c})
	adds(t, node(100), []api.Peer{a, c, old, b, old}, p, []api.Peer{a, p, c, b})
}

// P24.2: how many

func TestAddOfHowMany(t *testing.T) {
	for count := range 12 {
		for place := range count + 1 {
			p := at("new", uint64(105+10*place))
			want := slices.Insert(many(count), place, p)
			adds(t, node(100), many(count), p, want[:min(7, count+1)])
		}
	}
	adds(t, node(100), many(6), at("new", 99), append(many(6), at("new", 99)))
	adds(t, node(100), many(7), at("new", 99), many(7))
	adds(t, node(100), many(7), at("new", 171), many(7))
	adds(t, node(100), many(8), at("new", 99), many(7))
	adds(t, node(100), many(200), at("new", 99), many(7))
	adds(t, node(100), many(7), at("new", 169), append(many(6), at("new", 169)))
}

// More than 7 stay only where the list is answered as it is.
func TestAddToMoreThanSeven(t *testing.T) {
	for _, count := range []int{8, 9, 12, 30} {
		l := many(count)
		stands(t, node(100), l, at("me", 1))
		for i, p := range l {
			stands(t, node(100), l, taken(p))
			want := slices.Clone(l)
			want[i] = renewed(p)
			adds(t, node(100), l, renewed(p), want[:7])
			gone := slices.Delete(slices.Clone(l), i, i+1)
			adds(t, node(100), l, moved(p, 99), append(gone, moved(p, 99))[:7])
			adds(t, node(100), l, moved(p, 101), append([]api.Peer{moved(p, 101)}, gone[:6]...))
		}
	}
	// Seven of another name and any number of p's own are not more than 7 and p.
	p := at("new", 99)
	l := append(many(6), slices.Repeat([]api.Peer{moved(p, 98)}, 9)...)
	adds(t, node(100), l, p, append(many(6), p))
	adds(t, node(100), append(many(7), moved(p, 98)), p, many(7))
	adds(t, node(100), append(many(7), moved(p, 98)), moved(p, 100), append([]api.Peer{moved(p, 100)}, many(6)...))
}

func TestAddToNoList(t *testing.T) {
	for _, l := range nothings() {
		for _, id := range nodes() {
			for _, p := range []api.Peer{at("a", 1), at("", id), at("\xff", id-1), {Entry: api.Entry{Name: "a"}}, {}} {
				adds(t, node(id), l, p, []api.Peer{p})
			}
			stands(t, node(id), l, at("me", 5))
		}
		stands(t, api.Entry{}, l, api.Peer{})
	}
}

func TestAddOfAllShortLists(t *testing.T) {
	me := node(100)
	for _, l := range lists(few(), 3) {
		for _, p := range few() {
			adds(t, me, l, p, wantAdd(me, l, p))
		}
		right(t, me, l, wantRight(me, l))
	}
	for _, l := range lists(few(), 2) {
		for _, p := range few() {
			for _, id := range []uint64{99, 101, 110, 0, end} {
				all(t, node(id), l, p, id+1)
			}
		}
	}
}

func TestAllOfDrawnLists(t *testing.T) {
	for seed := range uint64(3000) {
		draw := rows(seed)
		me := node(nodes()[draw(9)])
		for _, l := range [][]api.Peer{drawnList(draw, me.Id, draw(12)), drawnRight(draw, me, draw(40)), drawnList(draw, me.Id, draw(3))} {
			all(t, me, l, drawn(draw, me.Id), drawn(draw, me.Id).Entry.Id-uint64(draw(2)))
		}
	}
}

// P24.3

func TestDrop(t *testing.T) {
	a, b, c := at("a", 110), at("b", 120), at("c", 130)
	for _, x := range []struct {
		l    []api.Peer
		name string
		want []api.Peer
	}{
		{[]api.Peer{a, b, c}, "a", []api.Peer{b, c}},
		{[]api.Peer{a, b, c}, "b", []api.Peer{a, c}},
		{[]api.Peer{a, b, c}, "c", []api.Peer{a, b}},
		{[]api.Peer{a, b, c}, "d", []api.Peer{a, b, c}},
		{[]api.Peer{a, b, c}, "", []api.Peer{a, b, c}},
		{[]api.Peer{a, b, c}, "tag", []api.Peer{a, b, c}},
		{[]api.Peer{c, a, b}, "A", []api.Peer{c, a, b}},
		{[]api.Peer{a}, "a", nil},
		{[]api.Peer{a, taken(a), renewed(a), moved(a, 7)}, "a", nil},
		{[]api.Peer{a, b, renewed(a), c, moved(a, 7)}, "a", []api.Peer{b, c}},
		{[]api.Peer{a, b, b, b, c}, "b", []api.Peer{a, c}},
		{[]api.Peer{b, a, b, b, c, b}, "b", []api.Peer{a, c}},
		{[]api.Peer{b, a, b, c}, "a", []api.Peer{b, b, c}},
		{[]api.Peer{at("", 110), b, at("", 7), {}}, "", []api.Peer{b}},
		{[]api.Peer{at("", 110), b}, "b", []api.Peer{at("", 110)}},
	} {
		is(t, fmt.Sprintf("Drop of %q from %s\nanswers", x.name, show(x.l)), Drop(x.l, x.name), x.want)
	}
	for _, l := range nothings() {
		for _, name := range []string{"", "a", "d", "me"} {
			is(t, "Drop from nothing", Drop(l, name), nil)
		}
	}
}

func TestDropOfEachName(t *testing.T) {
	names := rising()
	l := called(5, names...)
	for i, name := range names {
		is(t, "Drop of "+name, Drop(l, name), slices.Concat(l[:i], l[i+1:]))
	}
	for _, count := range []int{6, 7, 8, 26} {
		l := many(count)
		for i, p := range l {
			is(t, "Drop", Drop(l, p.Entry.Name), slices.Concat(l[:i], l[i+1:]))
			is(t, "Drop", Drop(slices.Concat(l, l), p.Entry.Name), slices.Concat(l[:i], l[i+1:], l[:i], l[i+1:]))
		}
	}
}

func TestFirst(t *testing.T) {
	a, b, c := at("a", 110), renewed(at("b", 120)), at("", 5)
	l := []api.Peer{c, a, b, a}
	for n, want := range map[int][]api.Entry{
		least: nil, -4: nil, -1: nil, 0: nil,
		1: {c.Entry}, 2: {c.Entry, a.Entry}, 3: {c.Entry, a.Entry, b.Entry}, 4: {c.Entry, a.Entry, b.Entry, a.Entry},
		5: {c.Entry, a.Entry, b.Entry, a.Entry}, 1 << 32: {c.Entry, a.Entry, b.Entry, a.Entry}, greatest: {c.Entry, a.Entry, b.Entry, a.Entry},
	} {
		are(t, fmt.Sprint("First ", n), First(l, n), want)
	}
	are(t, "Entries", Entries(l), []api.Entry{c.Entry, a.Entry, b.Entry, a.Entry})
}

func TestFirstOfEachLength(t *testing.T) {
	for length := range 30 {
		l := many(length)
		for _, n := range counts(length) {
			got := First(l, n)
			are(t, fmt.Sprintf("First %d of %d", n, length), got, wantFirst(l, n))
			if len(got) != max(0, min(n, length)) {
				t.Fatalf("First %d of %d are %d", n, length, len(got))
			}
		}
		are(t, "Entries", Entries(l), wantEntries(l))
	}
	for _, l := range nothings() {
		for _, n := range counts(0) {
			are(t, "First of nothing", First(l, n), nil)
		}
		are(t, "Entries of nothing", Entries(l), nil)
	}
}

// An Entry comes out whole.
func TestEntriesAreWhole(t *testing.T) {
	want := api.Entry{Name: "n", Id: end, From: least, Until: greatest, Index: -1, Tag: "t"}
	l := []api.Peer{{Entry: want, Since: 1, Under: 2}}
	are(t, "First", First(l, 1), []api.Entry{want})
	are(t, "Entries", Entries(l), []api.Entry{want})
	owns(t, node(0), l, end, want)
	owns(t, want, nil, 3, want)
	is(t, "Add", Add(node(3), nil, l[0]), l)
	is(t, "Drop", Drop(l, ""), l)
}

// P24.4

// The chapter's example.
func TestTheExample(t *testing.T) {
	me := node(3)
	l := []api.Peer{at("a", 5), at("b", 9)}
	right(t, me, l, true)
	owns(t, me, l, 6, l[1].Entry)
	owns(t, me, l, 10, me)
}

func TestOwner(t *testing.T) {
	me := node(100)
	l := row(110, end, 5, 90)
	for _, x := range []struct {
		key  uint64
		want api.Entry
	}{
		{99, me}, {100, me}, {101, l[0].Entry},
		{109, l[0].Entry}, {110, l[0].Entry}, {111, l[1].Entry},
		{end - 1, l[1].Entry}, {end, l[1].Entry}, {0, l[2].Entry},
		{4, l[2].Entry}, {5, l[2].Entry}, {6, l[3].Entry},
		{89, l[3].Entry}, {90, l[3].Entry}, {91, me},
		{1 << 63, l[1].Entry}, {1 << 32, l[1].Entry},
	} {
		for _, list := range [][]api.Peer{l, {l[3], l[1], l[0], l[2]}, {l[2], l[3], l[0], l[1]}, slices.Concat(l, l, l)} {
			owns(t, me, list, x.key, x.want)
		}
	}
}

func TestOwnerOfNoPeers(t *testing.T) {
	for _, l := range nothings() {
		for _, id := range nodes() {
			for _, key := range places(id) {
				owns(t, node(id), l, key, node(id))
			}
		}
	}
}

// Each place of the circle belongs to who is met first, right behind and right ahead of each.
func TestOwnerRoundTheCircle(t *testing.T) {
	for _, id := range nodes() {
		me := node(id)
		for _, other := range places(id)[1:] {
			p := at("a", other)
			owns(t, me, []api.Peer{p}, other, p.Entry)
			owns(t, me, []api.Peer{p}, other+1, me)
			owns(t, me, []api.Peer{p}, id, me)
			owns(t, me, []api.Peer{p}, id+1, p.Entry)
			if other != id+1 {
				owns(t, me, []api.Peer{p}, other-1, p.Entry)
			}
			if other != id-1 {
				owns(t, me, []api.Peer{p}, id-1, me)
			}
		}
	}
}

// Of several at one place the node is the first, and then who stands first in the list, whatever the names are.
func TestOwnerOfSeveralAtOnePlace(t *testing.T) {
	a, b := at("a", 110), at("b", 110)
	for _, key := range []uint64{101, 105, 110} {
		owns(t, node(100), []api.Peer{a, b}, key, a.Entry)
		owns(t, node(100), []api.Peer{b, a}, key, b.Entry)
		owns(t, node(100), []api.Peer{at("c", 120), b, a}, key, b.Entry)
		owns(t, node(100), []api.Peer{renewed(a), a}, key, renewed(a).Entry)
		owns(t, node(110), []api.Peer{a, b}, key, node(110))
	}
	for _, key := range []uint64{100, 99, 111, 0, end} {
		owns(t, node(100), []api.Peer{a, b}, key, node(100))
		owns(t, node(100), []api.Peer{at("a", 100), at("", 100)}, key, node(100))
		owns(t, node(100), []api.Peer{at("me", 100)}, key, node(100))
	}
	twin := at("me", 110)
	owns(t, node(100), []api.Peer{twin}, 105, twin.Entry)
}

func TestBefore(t *testing.T) {
	for _, x := range []struct {
		l    []api.Peer
		want uint64
	}{
		{row(110), 110},
		{row(110, 120), 120},
		{row(110, end, 5, 90), 90},
		{row(90, 5, 110), 110},
		{row(110, 120, 100), 100},
		{row(110, 0), 0},
		{row(0, end), end},
		{many(7), 170},
		{many(8), 180},
		{called(5, "a", "me"), 5},
		{[]api.Peer{at("a", 7), {}}, 0},
	} {
		before(t, node(100), x.l, x.want)
		before(t, api.Entry{}, x.l, x.want)
	}
	for _, l := range nothings() {
		for _, id := range nodes() {
			before(t, node(id), l, id)
		}
	}
}

// P24.5

// follows asks what follows, of a list that is Right.
func follows(t *testing.T, me api.Entry, l []api.Peer) {
	t.Helper()
	right(t, me, l, true)
	owns(t, me, l, me.Id, me)
	last := Before(me, l)
	for _, p := range l {
		if far(me.Id, p.Entry.Id).Cmp(far(me.Id, last)) > 0 {
			t.Fatalf("%d lies nearer behind %d than %d, of %s", p.Entry.Id, me.Id, last, show(l))
		}
	}
	if len(l) > 0 && !slices.ContainsFunc(l, func(p api.Peer) bool { return p.Entry.Id == last }) {
		t.Fatalf("%d is none of %s", last, show(l))
	}
}

func TestAListStaysRight(t *testing.T) {
	full := 0
	for seed := range uint64(300) {
		draw := rows(seed)
		me := node(nodes()[draw(9)])
		var l []api.Peer
		for range 120 {
			p := drawn(draw, me.Id)
			k := Add(me, l, p)
			follows(t, me, k)
			if i := Place(k, p.Entry.Name); i >= 0 && k[i].Entry != p.Entry {
				t.Fatalf("%s is not there as it came", show([]api.Peer{p}))
			}
			adds(t, me, k, taken(p), wantAdd(me, k, taken(p)))
			if len(k) == 7 {
				full++
			}
			l = k
			if draw(9) == 0 {
				name := drawn(draw, me.Id).Entry.Name
				l = Drop(l, name)
				follows(t, me, l)
				finds(t, l, name, -1)
			}
		}
	}
	if full < 10000 {
		t.Errorf("the rows come to 7 only %d times", full)
	}
}

func TestAnyRightListStaysRight(t *testing.T) {
	for seed := range uint64(3000) {
		draw := rows(seed)
		me := node(nodes()[draw(9)])
		l := drawnRight(draw, me, draw(60))
		follows(t, me, l)
		for range 5 {
			p := drawn(draw, me.Id)
			follows(t, me, Add(me, l, p))
			follows(t, me, Drop(l, p.Entry.Name))
		}
	}
}

// Of peers that come one by one the list hangs on who they are, and not on who came first.
func TestAddInAnyOrder(t *testing.T) {
	for seed := range uint64(500) {
		draw := rows(seed)
		me := node(nodes()[draw(9)])
		ids := places(me.Id)
		var list []api.Peer
		for i := range 12 {
			list = append(list, at(string(rune('a'+i)), ids[draw(len(ids))]))
		}
		var want []api.Peer
		for _, p := range list {
			want = Add(me, want, p)
		}
		for range 5 {
			for i := range list {
				j := draw(i + 1)
				list[i], list[j] = list[j], list[i]
			}
			var got []api.Peer
			for _, p := range list {
				got = Add(me, got, p)
			}
			is(t, "in another order", got, want)
		}
	}
}

// What is handed in, and out

// lures answers peers that a list has behind its end and ahead of its beginning: all that a call could look for, each of them with a mark.
func lures() []api.Peer {
	list := append(many(9), few()...)
	for _, id := range []uint64{0, 99, 100, 101, 105, end} {
		list = append(list, at("new", id), at("", id), at("me", id))
	}
	for i := range list {
		list[i].Entry.Tag = "lure"
	}
	return list
}

// A bed is a list within memory that has other things around it, and how that memory was.
type bed struct{ list, memory, was []api.Peer }

// laid answers a list between others.
func laid(list []api.Peer) bed {
	memory := slices.Concat(lures(), list, lures())
	memory = memory[:len(memory):len(memory)]
	return bed{memory[len(lures()) : len(lures())+len(list)], memory, slices.Clone(memory)}
}

// same asks that nothing of the memory was changed.
func (b bed) same(t *testing.T, what string) {
	t.Helper()
	if !slices.Equal(b.memory, b.was) {
		t.Fatalf("%s changed what was handed in, or what lies around it", what)
	}
}

// alone asks that what a call answers is new memory, with its spare room, in which nothing but what it answers is.
func alone[T comparable](t *testing.T, what string, l []api.Peer, call func(l []api.Peer) []T) {
	t.Helper()
	b := laid(l)
	want := call(slices.Clone(l))
	one, two := call(b.list), call(b.list)
	if !slices.Equal(one, want) {
		t.Fatalf("%s of a list with others behind it: %#v\nwanted %#v", what, one, want)
	}
	b.same(t, what)
	var zero T
	for _, x := range one[len(one):cap(one)] {
		if x != zero {
			t.Fatalf("%s hands out %#v behind its answer", what, x)
		}
	}
	clear(one[:cap(one)])
	b.same(t, what+", and then its answer,")
	if !slices.Equal(two, want) {
		t.Fatalf("%s, once an answer is spoilt: %#v\nwanted %#v", what, two, want)
	}
	clear(b.memory)
	if !slices.Equal(two, want) {
		t.Fatalf("%s, once the list is spoilt: %#v\nwanted %#v", what, two, want)
	}
}

func TestMemory(t *testing.T) {
	several := append(nothings(), lists(few()[2:8], 2)...)
	for _, count := range []int{3, 5, 6, 7, 8, 9, 15, 16, 30} {
		several = append(several, many(count), drawnList(rows(uint64(count)), 100, count), called(5, rising()[:min(count, 27)]...))
	}
	for _, l := range several {
		for _, p := range []api.Peer{at("a", 110), renewed(at("a", 110)), at("a", 105), at("new", 99), at("new", 100), at("new", 125), at("me", 105), at("", 110), renewed(at("g", 170))} {
			alone(t, "Add", l, func(l []api.Peer) []api.Peer { return Add(node(100), l, p) })
			alone(t, "Drop", l, func(l []api.Peer) []api.Peer { return Drop(l, p.Entry.Name) })
		}
		for _, n := range counts(len(l)) {
			alone(t, "First", l, func(l []api.Peer) []api.Entry { return First(l, n) })
		}
		alone(t, "Entries", l, Entries)
	}
}

// What a call tells hangs on nothing around a list, and asking changes nothing.
func TestOthersAroundTheList(t *testing.T) {
	for _, l := range append(nothings(), lists(few(), 2)...) {
		b := laid(l)
		for _, p := range []api.Peer{at("a", 110), at("new", 105), at("", 99), at("me", 100)} {
			all(t, node(100), b.list, p, 95)
			b.same(t, "one of the eight")
		}
	}
}

// What a call answers hangs on what it is handed alone.
func TestNothingIsKept(t *testing.T) {
	for range 3 {
		l := many(3)
		comes(t, node(100), l, at("new", 115), 1)
		comes(t, node(115), l, at("new", 115), 0)
		stands(t, node(100), l, l[1])
		finds(t, l, "c", 2)
		finds(t, nil, "c", -1)
		right(t, node(100), l, true)
		right(t, node(125), l, false)
		owns(t, node(100), l, 115, l[1].Entry)
		owns(t, node(117), l, 115, node(117))
		before(t, node(100), l, 130)
		before(t, node(100), nil, 100)
	}
}

func FuzzPeers(f *testing.F) {
	f.Add(uint64(1), uint64(100), 7, "a", uint64(110), 0, uint64(5))
	f.Add(uint64(2), uint64(end), 8, "", uint64(0), 1, uint64(end))
	f.Add(uint64(3), uint64(0), 0, "me", uint64(0), least, uint64(0))
	f.Add(uint64(4), uint64(1<<63), 6, "\xff", uint64(1<<63), greatest, uint64(1<<63+1))
	f.Fuzz(func(t *testing.T, seed, id uint64, count int, name string, place uint64, n int, key uint64) {
		draw := rows(seed)
		me := node(id)
		p := at(name, place)
		p.Entry.Index, p.Entry.Tag = n, "tag"
		l := drawnList(draw, id, count&15)
		good := drawnRight(draw, me, count&31)
		all(t, me, l, p, key)
		all(t, me, good, p, key)
		are(t, "First", First(l, n), wantFirst(l, n))
		follows(t, me, good)
		follows(t, me, Add(me, good, p))
		follows(t, me, Drop(good, name))
	})
}
