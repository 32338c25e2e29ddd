package fingers

import (
	"fmt"
	"slices"
	"strings"
	"testing"

	"carcanet/api"
)

// line tells a peer shortly.
func line(p api.Peer) string {
	if (p == api.Peer{}) {
		return "none"
	}
	return fmt.Sprintf("%q %d, from %d until %d, key %d, %q, taken %d under %d", p.Entry.Name, p.Entry.Id, p.Entry.From, p.Entry.Until, p.Entry.Index, p.Entry.Tag, p.Since, p.Under)
}

// peersOf tells a list of peers shortly.
func peersOf(l []api.Peer) string {
	var b strings.Builder
	for i, p := range l {
		fmt.Fprintf(&b, "\n\t%d: %s", i, line(p))
	}
	return fmt.Sprintf("%d peers%s", len(l), b.String())
}

// show tells fingers shortly.
func show(f []api.Finger) string {
	var b strings.Builder
	for i, x := range f {
		fmt.Fprintf(&b, "\n\t%d: from bit %d on %s", i, x.Bit, line(x.Peer))
	}
	return fmt.Sprintf("%d fingers%s", len(f), b.String())
}

// are asks that fingers are these.
func are(t *testing.T, what string, got, want []api.Finger) {
	t.Helper()
	if !slices.Equal(got, want) {
		t.Fatalf("%s: %s\nwanted %s", what, show(got), show(want))
	}
}

// of asks that Of answers this.
func of(t *testing.T, me api.Entry, l []api.Peer, want ...api.Finger) {
	t.Helper()
	are(t, fmt.Sprintf("node %d, Of %s\nanswers", me.Id, peersOf(l)), Of(me, l), want)
}

// leadsTo asks that At answers this peer.
func leadsTo(t *testing.T, f []api.Finger, bit int, want api.Peer) {
	t.Helper()
	if got, ok := At(f, bit); got != want || !ok {
		t.Fatalf("At %d: %s, %v\nwanted %s, of %s", bit, line(got), ok, line(want), show(f))
	}
}

// nowhere asks that At answers that there is nobody.
func nowhere(t *testing.T, f []api.Finger, bit int) {
	t.Helper()
	if got, ok := At(f, bit); ok || got != (api.Peer{}) {
		t.Fatalf("At %d: %s, %v\nwanted nobody, of %s", bit, line(got), ok, show(f))
	}
}

// drops asks that Drop answers this.
func drops(t *testing.T, f []api.Finger, name string, want []api.Finger) {
	t.Helper()
	are(t, fmt.Sprintf("Drop of %q from %s\nanswers", name, show(f)), Drop(f, name), want)
}

// hops asks that Hop answers this.
func hops(t *testing.T, me api.Entry, l []api.Peer, f []api.Finger, key uint64, want api.Entry) {
	t.Helper()
	if got := Hop(me, l, f, key); got != want {
		t.Fatalf("node %d, Hop to %d: %#v\nwanted %#v, of %s\nand %s", me.Id, key, got, want, peersOf(l), show(f))
	}
}

// all asks each call, and wants what the chapter's words ask for.
func all(t *testing.T, me api.Entry, l []api.Peer, f []api.Finger, keys ...uint64) {
	t.Helper()
	of(t, me, l, wantOf(me, l)...)
	asked(t, f)
	for _, key := range keys {
		hops(t, me, l, f, key, wantHop(me, l, f, key))
	}
}

// asked asks At and Drop.
func asked(t *testing.T, f []api.Finger) {
	t.Helper()
	for _, bit := range bits() {
		if p, ok := wantAt(f, bit); ok {
			leadsTo(t, f, bit, p)
		} else {
			nowhere(t, f, bit)
		}
	}
	for _, name := range []string{"a", "b", "", "me", "new"} {
		drops(t, f, name, wantDrop(f, name))
	}
}

// P25.1

func TestOfTheExample(t *testing.T) {
	p := at("a", 8)
	f := Of(node(0), []api.Peer{p})
	are(t, "of a node 0 with one peer 8", f, []api.Finger{to(0, p), none(4)})
	for bit := range 64 {
		if bit <= 3 {
			leadsTo(t, f, bit, p)
		} else {
			nowhere(t, f, bit)
		}
	}
}

func TestOfNoPeers(t *testing.T) {
	for _, l := range nothings[api.Peer]() {
		for _, id := range nodes() {
			of(t, node(id), l, none(0))
			of(t, api.Entry{Id: id}, l, none(0))
		}
	}
}

func TestOfOnePeer(t *testing.T) {
	for _, x := range []struct {
		me, id uint64
		until  int
	}{
		{100, 100, 0},
		{100, 101, 1},
		{100, 102, 2},
		{100, 103, 2},
		{100, 104, 3},
		{100, 107, 3},
		{100, 108, 4},
		{100, 109, 4},
		{100, 100 + 1<<31, 32},
		{100, 99 + 1<<32, 32},
		{100, 100 + 1<<32, 33},
		{100, 99 + 1<<62, 62},
		{100, 100 + 1<<62, 63},
		{100, 101 + 1<<62, 63},
		{100, 99 + 1<<63, 63},
		{100, 100 + 1<<63, 64},
		{100, 101 + 1<<63, 64},
		{100, end, 64},
		{100, 0, 64},
		{100, 99, 64},
		{0, 0, 0},
		{0, 1, 1},
		{0, 1<<63 - 1, 63},
		{0, 1 << 63, 64},
		{0, end, 64},
		{end, end, 0},
		{end, 0, 1},
		{end, 1, 2},
		{end, 2, 2},
		{end, 3, 3},
		{end, 1<<62 - 2, 62},
		{end, 1<<62 - 1, 63},
		{end, 1<<63 - 2, 63},
		{end, 1<<63 - 1, 64},
		{end, end - 1, 64},
		{1 << 63, end, 63},
		{1 << 63, 0, 64},
		{1 << 63, 1<<63 - 1, 64},
		{1<<63 + 1, 0, 63},
		{1<<63 + 1, 1, 64},
	} {
		p := at("a", x.id)
		l := []api.Peer{p}
		switch x.until {
		case 0:
			of(t, node(x.me), l, none(0))
		case 64:
			of(t, node(x.me), l, to(0, p))
		default:
			of(t, node(x.me), l, to(0, p), none(x.until))
		}
	}
}

// A peer right at a Start is met from there, and so is one behind it; one that lies ahead of it is met no more.
func TestOfAPeerRoundEachStart(t *testing.T) {
	for _, id := range nodes() {
		for bit := range 64 {
			start := id + 1<<bit
			for far, until := range map[uint64]int{start - 1: bit, start: bit + 1, start + 1: bit + 1} {
				if far == id+2 {
					until = 2
				}
				want := []api.Finger{to(0, at("a", far)), none(until)}
				switch until {
				case 0:
					want = want[1:]
					want[0].Bit = 0
				case 64:
					want = want[:1]
				}
				of(t, node(id), row(far), want...)
			}
		}
	}
}

func TestOfTwoAtTwoStarts(t *testing.T) {
	for _, id := range nodes() {
		for i := range 63 {
			for j := i + 1; j < 64; j++ {
				l := row(id+1<<i, id+1<<j)
				want := []api.Finger{to(0, l[0]), to(i+1, l[1]), none(j + 1)}
				if j == 63 {
					want = want[:2]
				}
				of(t, node(id), l, want...)
				of(t, node(id), []api.Peer{l[1], l[0]}, want...)
			}
		}
	}
}

func TestOfSeveral(t *testing.T) {
	for _, x := range []struct {
		me   uint64
		ids  []uint64
		want []api.Finger
	}{
		{0, []uint64{1, 2}, []api.Finger{to(0, at("a", 1)), to(1, at("b", 2)), none(2)}},
		{0, []uint64{1, 2, 3, 4}, []api.Finger{to(0, at("a", 1)), to(1, at("b", 2)), to(2, at("d", 4)), none(3)}},
		{0, []uint64{5, 6, 7}, []api.Finger{to(0, at("a", 5)), none(3)}},
		{0, []uint64{5, 8, 9}, []api.Finger{to(0, at("a", 5)), to(3, at("b", 8)), none(4)}},
		{0, []uint64{5, 9, 1 << 63}, []api.Finger{to(0, at("a", 5)), to(3, at("b", 9)), to(4, at("c", 1<<63))}},
		{0, []uint64{5, 9, end}, []api.Finger{to(0, at("a", 5)), to(3, at("b", 9)), to(4, at("c", end))}},
		{100, []uint64{103, 140, 1<<63 + 200}, []api.Finger{to(0, at("a", 103)), to(2, at("b", 140)), to(6, at("c", 1<<63+200))}},
		{100, []uint64{101, end, 0, 99}, []api.Finger{to(0, at("a", 101)), to(1, at("b", end))}},
		{100, []uint64{1<<62 + 100, 1<<63 + 99, 1<<63 + 100}, []api.Finger{to(0, at("a", 1<<62+100)), to(63, at("c", 1<<63+100))}},
		{100, []uint64{1<<62 + 99, 1<<63 + 99, 1<<63 + 101}, []api.Finger{to(0, at("a", 1<<62+99)), to(62, at("b", 1<<63+99)), to(63, at("c", 1<<63+101))}},
		{100, []uint64{110, 120, 130, 140, 150, 160, 170}, []api.Finger{to(0, at("a", 110)), to(4, at("b", 120)), to(5, at("d", 140)), to(6, at("g", 170)), none(7)}},
		{100, []uint64{110, 120, 130, 140, 150, 160, 170, 180, 300, 1<<63 + 100}, []api.Finger{to(0, at("a", 110)), to(4, at("b", 120)), to(5, at("d", 140)), to(6, at("g", 170)), to(7, at("i", 300)), to(8, at("j", 1<<63+100))}},
		{end, []uint64{0, 3, 9, end - 1}, []api.Finger{to(0, at("a", 0)), to(1, at("b", 3)), to(3, at("c", 9)), to(4, at("d", end-1))}},
		{end - 2, []uint64{end - 1, end, 0, 5}, []api.Finger{to(0, at("a", end-1)), to(1, at("b", end)), to(2, at("d", 5)), none(4)}},
		{1 << 63, []uint64{1<<63 + 1, end, 0, 1}, []api.Finger{to(0, at("a", 1<<63+1)), to(1, at("b", end)), to(63, at("c", 0))}},
	} {
		l := row(x.ids...)
		of(t, node(x.me), l, x.want...)
		slices.Reverse(l)
		of(t, node(x.me), l, x.want...)
		of(t, node(x.me), slices.Concat(l[1:], l[:1]), x.want...)
		of(t, node(x.me), slices.Concat(l, l), x.want...)
	}
}

// Each bit has a peer of its own, so all 64 fingers are told.
func TestOfAllPowers(t *testing.T) {
	for _, id := range nodes() {
		l := powers(id)
		var want []api.Finger
		for bit, p := range l {
			want = append(want, to(bit, p))
		}
		of(t, node(id), l, want...)
		for bit := range 63 {
			far := slices.Concat([]api.Finger{to(0, l[bit])}, want[bit+1:])
			of(t, node(id), l[bit:], far...)
			of(t, node(id), l[:bit+1], append(slices.Clone(want[:bit+1]), none(bit+1))...)
		}
		of(t, node(id), l[63:], to(0, l[63]))
		slices.Reverse(l)
		of(t, node(id), l, want...)
	}
}

// Peers at the node's own place are met behind the node, whoever they are.
func TestOfPeersAtTheNodesPlace(t *testing.T) {
	for _, id := range nodes() {
		me := node(id)
		a, own := at("a", id), api.Peer{Entry: me, Since: 5, Under: 6}
		for _, l := range [][]api.Peer{{a}, {own}, {a, own}, {own, a}, {{Entry: me}}, {at("me", id)}, slices.Repeat([]api.Peer{a}, 9)} {
			of(t, me, l, none(0))
			p := at("b", id+5)
			for i := range len(l) + 1 {
				of(t, me, slices.Insert(slices.Clone(l), i, p), to(0, p), none(3))
			}
		}
		of(t, api.Entry{Id: id}, []api.Peer{{Entry: api.Entry{Id: id}, Since: 4}}, none(0))
	}
	of(t, api.Entry{}, []api.Peer{{}}, none(0))
	of(t, api.Entry{}, []api.Peer{{Since: 1}}, none(0))
}

// Of peers at one place the first one in the list is met, whatever its name is; who has the node's name is met as others are.
func TestOfPeersAtOnePlace(t *testing.T) {
	a, b, c := at("a", 108), at("b", 108), at("me", 108)
	for _, l := range [][]api.Peer{{a, b}, {b, a}, {c, a}, {a, c}, {b, b, a}, {a, taken(a)}, {taken(a), a}, {c, b, a}} {
		of(t, node(100), l, to(0, l[0]), none(4))
		of(t, node(100), append([]api.Peer{at("d", 120)}, l...), to(0, l[0]), to(4, at("d", 120)), none(5))
	}
	for _, p := range append(others(a), others(c)...) {
		of(t, node(100), []api.Peer{p, a}, to(0, p), none(4))
		of(t, node(100), []api.Peer{a, p}, to(0, a), none(4))
	}
}

// Two bits have one finger if all parts of their peers are alike, and not else.
func TestOfPeersThatAreNearlyAlike(t *testing.T) {
	near := at("a", 104)
	for _, p := range others(near) {
		p.Entry.Id = 110
		of(t, node(100), []api.Peer{near, p}, to(0, near), to(3, p), none(4))
	}
	moved := near
	moved.Entry.Id = 110
	of(t, node(100), []api.Peer{near, moved}, to(0, near), to(3, moved), none(4))
}

// A peer that is zero is none, at its own place; one that is zero in part alone is a peer.
func TestOfAZeroPeer(t *testing.T) {
	of(t, node(100), []api.Peer{{}}, none(0))
	of(t, node(end-6), []api.Peer{{}}, none(0))
	of(t, node(end-6), []api.Peer{at("a", end-4), {}, at("b", 20)}, to(0, at("a", end-4)), none(2), to(3, at("b", 20)), none(5))
	for _, p := range parts() {
		if p.Entry.Id == 0 {
			of(t, node(100), []api.Peer{p}, to(0, p))
			of(t, node(end-6), []api.Peer{p}, to(0, p), none(3))
		}
	}
}

func TestOfAllShortLists(t *testing.T) {
	for _, l := range lists(few(), 3) {
		for _, id := range []uint64{100, 94, end - 6} {
			me := node(id)
			of(t, me, l, wantOf(me, l)...)
		}
	}
}

func TestOfDrawnLists(t *testing.T) {
	for seed := range uint64(800) {
		draw := rows(seed)
		me := node(nodes()[draw(9)])
		l := drawnList(draw, me.Id, draw(20))
		of(t, me, l, wantOf(me, l)...)
	}
}

// P25.2

func TestAtOfOneFinger(t *testing.T) {
	p := at("a", 110)
	for _, bit := range bits() {
		for _, asked := range bits() {
			if asked >= 0 && asked <= 63 && bit <= asked {
				leadsTo(t, []api.Finger{to(bit, p)}, asked, p)
			} else {
				nowhere(t, []api.Finger{to(bit, p)}, asked)
			}
			nowhere(t, []api.Finger{none(bit)}, asked)
		}
	}
}

func TestAtOfNoFingers(t *testing.T) {
	for _, f := range nothings[api.Finger]() {
		for _, bit := range bits() {
			nowhere(t, f, bit)
		}
	}
}

// A finger's own bit, between two fingers', ahead of the first one's, and behind the last one's.
func TestAtOfSeveral(t *testing.T) {
	a, b, c := at("a", 110), at("b", 120), at("c", 130)
	f := []api.Finger{to(2, a), to(5, b), none(9), to(40, c)}
	for _, x := range []struct {
		from, until int
		want        api.Peer
	}{
		{2, 4, a}, {5, 8, b}, {40, 63, c},
	} {
		for bit := x.from; bit <= x.until; bit++ {
			leadsTo(t, f, bit, x.want)
		}
	}
	for _, bit := range []int{least, -1, 0, 1, 9, 10, 20, 38, 39, 64, 65, greatest} {
		nowhere(t, f, bit)
	}
	for _, bit := range []int{0, 1, 62, 63} {
		leadsTo(t, []api.Finger{to(0, a), to(63, a)}, bit, a)
		leadsTo(t, []api.Finger{to(bit, a), to(bit+1, b)}, bit, a)
		nowhere(t, []api.Finger{to(0, a), none(bit)}, bit)
	}
}

// The last finger that may be is taken, wherever its bit lies among the others'.
func TestAtOfFingersInNoOrder(t *testing.T) {
	a, b, c := at("a", 110), at("b", 120), at("c", 130)
	for _, x := range []struct {
		f    []api.Finger
		bit  int
		want api.Peer
	}{
		{[]api.Finger{to(5, a), to(2, b)}, 5, b},
		{[]api.Finger{to(5, a), to(2, b)}, 63, b},
		{[]api.Finger{to(5, a), to(2, b)}, 4, b},
		{[]api.Finger{to(5, a), to(6, c), to(2, b)}, 5, b},
		{[]api.Finger{to(2, a), to(6, c), to(2, b)}, 2, b},
		{[]api.Finger{to(2, a), to(2, b), to(2, c)}, 2, c},
		{[]api.Finger{to(2, a), to(2, b), to(3, c)}, 2, b},
		{[]api.Finger{to(2, a), to(2, a), to(2, a)}, 3, a},
		{[]api.Finger{none(2), to(2, a)}, 2, a},
		{[]api.Finger{none(5), to(1, a)}, 63, a},
		{[]api.Finger{to(7, a), none(8), to(3, b), to(9, c)}, 7, b},
		{[]api.Finger{to(7, a), none(8), to(3, b), to(9, c)}, 8, b},
		{[]api.Finger{to(0, a), to(63, b), to(62, c)}, 63, c},
		{[]api.Finger{to(0, a), to(63, b), to(64, c)}, 63, b},
		{[]api.Finger{to(0, a), to(greatest, c)}, 63, a},
		{[]api.Finger{to(0, a), to(1<<32, c)}, 0, a},
		{[]api.Finger{to(-1, a)}, 0, a},
		{[]api.Finger{to(0, b), to(-1, a)}, 0, a},
		{[]api.Finger{to(least, a), to(1, b)}, 0, a},
		{[]api.Finger{to(0, b), to(least, a)}, 63, a},
	} {
		leadsTo(t, x.f, x.bit, x.want)
	}
	for _, x := range []struct {
		f   []api.Finger
		bit int
	}{
		{[]api.Finger{to(2, a), none(2)}, 2},
		{[]api.Finger{to(2, a), none(0)}, 5},
		{[]api.Finger{to(2, a), none(-3)}, 5},
		{[]api.Finger{to(2, a), to(1, b)}, 0},
		{[]api.Finger{to(64, a), to(65, b), to(greatest, c)}, 63},
		{[]api.Finger{to(64, a)}, 64},
		{[]api.Finger{to(-1, a)}, -1},
		{[]api.Finger{to(least, a)}, least},
		{[]api.Finger{to(greatest, a)}, greatest},
	} {
		nowhere(t, x.f, x.bit)
	}
}

// A peer that is zero in part alone is one.
func TestAtOfPeersThatAreZeroInPart(t *testing.T) {
	for _, p := range parts() {
		leadsTo(t, []api.Finger{to(0, p)}, 0, p)
		leadsTo(t, []api.Finger{to(0, at("a", 110)), to(3, p)}, 63, p)
		leadsTo(t, []api.Finger{to(0, p), none(3)}, 2, p)
		nowhere(t, []api.Finger{to(0, p), none(3)}, 3)
	}
}

// P25.3

func TestDropOfNone(t *testing.T) {
	for _, f := range nothings[api.Finger]() {
		for _, name := range names() {
			drops(t, f, name, nil)
		}
	}
	f := leading(many(5))
	for _, name := range append(names()[:4], "f", "aa", "tag", "a\x00", " a", "ab", "me") {
		drops(t, f, name, f)
	}
	drops(t, []api.Finger{none(0), none(5)}, "a", []api.Finger{none(0), none(5)})
	drops(t, []api.Finger{none(0), none(5)}, "", []api.Finger{none(0), none(5)})
}

func TestDropOfSome(t *testing.T) {
	a, b, c := at("a", 110), at("b", 120), at("c", 130)
	f := []api.Finger{to(0, a), to(3, b), to(5, a), none(6), to(7, taken(a)), to(9, at("a", 3)), to(63, c)}
	drops(t, f, "a", []api.Finger{none(0), to(3, b), none(5), none(6), none(7), none(9), to(63, c)})
	drops(t, f, "b", []api.Finger{to(0, a), none(3), to(5, a), none(6), to(7, taken(a)), to(9, at("a", 3)), to(63, c)})
	drops(t, f, "c", []api.Finger{to(0, a), to(3, b), to(5, a), none(6), to(7, taken(a)), to(9, at("a", 3)), none(63)})
	drops(t, Drop(f, "a"), "c", []api.Finger{none(0), to(3, b), none(5), none(6), none(7), none(9), none(63)})
	for i := range f {
		drops(t, f[i:i+1], f[i].Peer.Entry.Name, []api.Finger{none(f[i].Bit)})
	}
}

func TestDropOfAll(t *testing.T) {
	for _, name := range names() {
		var f, want []api.Finger
		for i, p := range append(others(at(name, 110)), at(name, 0), at(name, end)) {
			f, want = append(f, to(2*i, p)), append(want, none(2*i))
		}
		drops(t, f, name, want)
	}
}

// A name is what it is alone, byte by byte; one of no bytes is a name as others are.
func TestDropOfEachName(t *testing.T) {
	var f []api.Finger
	for i, name := range names() {
		f = append(f, to(i, at(name, 110)))
	}
	for i, name := range names() {
		want := slices.Clone(f)
		want[i] = none(i)
		drops(t, f, name, want)
	}
	for _, p := range parts() {
		want := to(4, p)
		if p.Entry.Name == "" {
			want = none(4)
		}
		drops(t, []api.Finger{to(4, p), none(5)}, "", []api.Finger{want, none(5)})
	}
}

// The bits stay, whatever they are.
func TestDropOfAnyBit(t *testing.T) {
	var f, want []api.Finger
	for _, bit := range bits() {
		f = append(f, to(bit, at("a", 110)), to(bit, at("b", 110)))
		want = append(want, none(bit), to(bit, at("b", 110)))
	}
	drops(t, f, "a", want)
}

func TestAtAndDropOfAllShortLists(t *testing.T) {
	for _, f := range lists(fewFingers(), 3) {
		asked(t, f)
	}
}

// P25.4

func TestHopOfNobody(t *testing.T) {
	for _, id := range nodes() {
		for i, l := range nothings[api.Peer]() {
			f := nothings[api.Finger]()[i]
			for _, key := range places(id) {
				hops(t, node(id), l, f, key, node(id))
				hops(t, node(id), l, []api.Finger{none(0), none(3), none(63), none(-1)}, key, node(id))
			}
		}
	}
}

// The key at the node, right behind it and right ahead of it; at a peer, right behind and right ahead of it.
func TestHopOfPeersAndFingers(t *testing.T) {
	l := row(110, 120, 130)
	f := []api.Finger{to(0, at("x", 125)), to(5, at("y", 1<<63)), none(63)}
	for _, x := range []struct {
		key                 uint64
		peers, fingers, all string
	}{
		{100, "c", "y", "y"},
		{101, "me", "me", "me"},
		{102, "me", "me", "me"},
		{109, "me", "me", "me"},
		{110, "me", "me", "me"},
		{111, "a", "me", "a"},
		{119, "a", "me", "a"},
		{120, "a", "me", "a"},
		{121, "b", "me", "b"},
		{124, "b", "me", "b"},
		{125, "b", "me", "b"},
		{126, "b", "x", "x"},
		{129, "b", "x", "x"},
		{130, "b", "x", "x"},
		{131, "c", "x", "c"},
		{1<<63 - 1, "c", "x", "c"},
		{1 << 63, "c", "x", "c"},
		{1<<63 + 1, "c", "y", "y"},
		{end, "c", "y", "y"},
		{0, "c", "y", "y"},
		{98, "c", "y", "y"},
		{99, "c", "y", "y"},
	} {
		hop := func(l []api.Peer, f []api.Finger, want string) {
			t.Helper()
			got := Hop(node(100), l, f, x.key)
			if got.Name != want {
				t.Errorf("Hop to %d of %d peers and %d fingers: %q, wanted %q", x.key, len(l), len(f), got.Name, want)
			}
		}
		hop(l, nil, x.peers)
		hop(nil, f, x.fingers)
		hop(l, f, x.all)
		hop([]api.Peer{l[1], l[2], l[0]}, []api.Finger{f[2], f[1], f[0]}, x.all)
		hop([]api.Peer{l[2], l[0], l[1]}, []api.Finger{f[1], f[2], f[0]}, x.all)
		hop(l[:0], f[:0], "me")
	}
}

func TestHopRoundTheCircle(t *testing.T) {
	for _, id := range nodes() {
		me := node(id)
		for _, place := range places(id)[1:] {
			p := at("a", place)
			for _, known := range []struct {
				l []api.Peer
				f []api.Finger
			}{{l: []api.Peer{p}}, {f: []api.Finger{to(7, p)}}} {
				hops(t, me, known.l, known.f, id, p.Entry)
				hops(t, me, known.l, known.f, id+1, me)
				hops(t, me, known.l, known.f, place, me)
				hops(t, me, known.l, known.f, place-1, wantHop(me, []api.Peer{p}, nil, place-1))
				hops(t, me, known.l, known.f, place+1, p.Entry)
				if place != id+1 && place-1 != id {
					hops(t, me, known.l, known.f, place-1, me)
				}
				if place != id-1 {
					hops(t, me, known.l, known.f, id-1, p.Entry)
				}
			}
		}
	}
}

// Nobody at the node's own place is Inside, the node's own certificate neither.
func TestHopOfPeersAtTheNodesPlace(t *testing.T) {
	for _, id := range nodes() {
		me := node(id)
		for _, p := range []api.Peer{at("a", id), at("", id), at("me", id), {Entry: me}} {
			for _, key := range places(id) {
				hops(t, me, []api.Peer{p}, nil, key, me)
				hops(t, me, nil, []api.Finger{to(0, p)}, key, me)
				hops(t, me, []api.Peer{p, p}, []api.Finger{to(3, p)}, key, me)
			}
			hops(t, me, []api.Peer{p, at("b", id+1), p}, nil, id, at("b", id+1).Entry)
		}
	}
}

// Of those at one place the first one is taken, peers ahead of fingers, whatever their names are.
func TestHopOfSeveralAtOnePlace(t *testing.T) {
	a, b, c, far := at("a", 110), at("b", 110), at("me", 110), at("a", 130)
	for _, key := range []uint64{100, 111, 130, 99, 0} {
		if key > 110 && key <= 130 {
			hops(t, node(100), []api.Peer{far, a, b}, []api.Finger{to(0, far)}, key, a.Entry)
			hops(t, node(100), []api.Peer{b, far, a}, nil, key, b.Entry)
			hops(t, node(100), nil, []api.Finger{to(0, far), to(1, b), to(2, a)}, key, b.Entry)
		}
		if key == 130 {
			continue
		}
		for _, l := range [][]api.Peer{{a, b}, {b, a}, {c, a}, {a, c}, {taken(a), a}, {b, b, a}} {
			hops(t, node(100), l, nil, key, l[0].Entry)
			hops(t, node(100), nil, leading(l), key, l[0].Entry)
			hops(t, node(100), l[1:], leading(l[:1]), key, l[1].Entry)
			hops(t, node(100), append([]api.Peer{at("z", 105)}, l...), leading(many(1)), key, l[0].Entry)
		}
	}
	for _, p := range others(a) {
		hops(t, node(100), []api.Peer{p}, []api.Finger{to(0, a)}, 120, p.Entry)
		hops(t, node(100), []api.Peer{a}, []api.Finger{to(0, p)}, 120, a.Entry)
		hops(t, node(100), []api.Peer{at("z", 105)}, []api.Finger{to(0, p), to(1, a)}, 120, p.Entry)
	}
}

// A finger's bit tells nothing of who is the farthest.
func TestHopOfAnyBit(t *testing.T) {
	near, far := at("a", 110), at("b", 120)
	for _, bit := range bits() {
		hops(t, node(100), nil, []api.Finger{to(bit, near)}, 115, near.Entry)
		hops(t, node(100), nil, []api.Finger{to(bit, near), to(3, far)}, 125, far.Entry)
		hops(t, node(100), nil, []api.Finger{to(3, far), to(bit, near)}, 125, far.Entry)
		hops(t, node(100), nil, []api.Finger{to(bit, far), to(3, near)}, 120, near.Entry)
	}
}

// Zero fingers lead to nobody; a peer of the list that is zero is at 0, and a finger's peer that is zero in part is one.
func TestHopOfZeroPeers(t *testing.T) {
	zero := api.Peer{}
	for _, key := range []uint64{1, 50, 99, 100} {
		hops(t, node(100), nil, []api.Finger{none(0)}, key, node(100))
		hops(t, node(100), many(2), []api.Finger{none(0), none(5)}, key, at("b", 120).Entry)
		hops(t, node(100), nil, []api.Finger{none(0), to(3, at("a", 110)), none(6)}, key, at("a", 110).Entry)
		hops(t, node(100), []api.Peer{zero}, nil, key, zero.Entry)
		hops(t, node(100), append(many(2), zero), nil, key, zero.Entry)
		for _, p := range parts() {
			if p.Entry.Id == 0 {
				hops(t, node(100), nil, []api.Finger{none(0), to(3, p)}, key, p.Entry)
				hops(t, node(100), nil, []api.Finger{to(3, p), none(4)}, key, p.Entry)
				hops(t, node(100), many(2), []api.Finger{to(3, p)}, key, p.Entry)
				hops(t, node(100), []api.Peer{zero}, []api.Finger{to(3, p)}, key, zero.Entry)
			}
		}
	}
	for _, key := range []uint64{101, 1 << 63, end, 0} {
		hops(t, node(100), []api.Peer{zero}, []api.Finger{none(0)}, key, node(100))
	}
	hops(t, api.Entry{}, []api.Peer{zero}, []api.Finger{to(0, with(zero, func(p *api.Peer) { p.Since = 1 }))}, 0, api.Entry{})
}

func TestHopOfAllShortLists(t *testing.T) {
	chosen := []api.Finger{to(0, at("a", 110)), to(1, at("x", 115)), to(2, at("y", 99)), to(3, at("z", 100)), none(4)}
	for _, l := range lists(few(), 2) {
		for _, f := range lists(chosen, 2) {
			for _, key := range []uint64{100, 101, 102, 110, 111, 115, 116, 120, 121, 0, 1, 90, 91, 99} {
				me := node(100)
				hops(t, me, l, f, key, wantHop(me, l, f, key))
			}
		}
	}
}

func TestAllOfDrawnLists(t *testing.T) {
	for seed := range uint64(800) {
		draw := rows(seed)
		me := node(nodes()[draw(9)])
		l := drawnList(draw, me.Id, draw(12))
		f := drawnFingers(draw, me.Id, draw(12))
		keys := []uint64{me.Id, me.Id + 1, me.Id - 1, uint64(draw(1<<31)) << 33}
		for _, e := range wantKnown(l, f) {
			keys = append(keys, e.Id-1, e.Id, e.Id+1)
		}
		all(t, me, l, f, keys...)
	}
}

// P25.5

// follows asks what follows, of a node, its peers and any fingers.
func follows(t *testing.T, me api.Entry, l []api.Peer, f []api.Finger, keys ...uint64) {
	t.Helper()
	own := Of(me, l)
	for bit := range 64 {
		if p := wantFinger(me, l, bit); p != (api.Peer{}) {
			leadsTo(t, own, bit, p)
		} else {
			nowhere(t, own, bit)
		}
	}
	for _, key := range keys {
		nears(t, me, l, own, key)
		nears(t, me, l, f, key)
	}
}

// nears asks that a Hop is the node, or lies nearer to the key than the node, and not behind it; and that nobody whom the node knows lies nearer than the Hop.
func nears(t *testing.T, me api.Entry, l []api.Peer, f []api.Finger, key uint64) {
	t.Helper()
	hop := Hop(me, l, f, key)
	known := wantKnown(l, f)
	if hop != me {
		if !slices.Contains(known, hop) || !between(me.Id, hop.Id, key) {
			t.Fatalf("node %d, Hop to %d: %#v is not between them, or not known", me.Id, key, hop)
		}
		if me.Id != key && far(hop.Id, key).Cmp(far(me.Id, key)) >= 0 {
			t.Fatalf("node %d, Hop to %d: %#v lies no nearer", me.Id, key, hop)
		}
	}
	for _, e := range known {
		if between(hop.Id, e.Id, key) && between(me.Id, e.Id, key) {
			t.Fatalf("node %d, Hop to %d: %#v, but %#v lies nearer", me.Id, key, hop, e)
		}
	}
}

func TestWhatFollows(t *testing.T) {
	for seed := range uint64(600) {
		draw := rows(seed)
		me := node(nodes()[draw(9)])
		l := drawnList(draw, me.Id, draw(12))
		f := drawnFingers(draw, me.Id, draw(12))
		follows(t, me, l, f, append(places(me.Id), me.Id+uint64(draw(100)), uint64(draw(1<<31))<<33)...)
	}
}

// Fingers that Of answers rise by their bits, begin at 0, and no two that follow one another have one peer.
func TestOfRises(t *testing.T) {
	for seed := range uint64(600) {
		draw := rows(seed)
		me := node(nodes()[draw(9)])
		f := Of(me, drawnList(draw, me.Id, draw(30)))
		if len(f) == 0 || f[0].Bit != 0 {
			t.Fatalf("no finger of bit 0: %s", show(f))
		}
		for i := 1; i < len(f); i++ {
			if f[i].Bit <= f[i-1].Bit || f[i].Bit > 63 || f[i].Peer == f[i-1].Peer {
				t.Fatalf("place %d: %s", i, show(f))
			}
		}
	}
}

// On a ring of nodes that know all others, each way by Hops comes to who lies right ahead of the key, and soon.
func TestWaysOfHops(t *testing.T) {
	for seed := range uint64(60) {
		draw := rows(seed)
		var ring []api.Entry
		for i := range 2 + draw(30) {
			ring = append(ring, at(string(rune('A'+i)), uint64(draw(1<<31))<<33+uint64(draw(1<<31))).Entry)
		}
		for range 20 {
			key, place := uint64(draw(1<<31))<<33, ring[draw(len(ring))]
			for steps := 0; ; steps++ {
				var l []api.Peer
				for _, e := range ring {
					if e != place {
						l = append(l, api.Peer{Entry: e})
					}
				}
				next := Hop(place, nil, Of(place, l), key)
				if next == place {
					for _, e := range ring {
						if between(place.Id, e.Id, key) {
							t.Fatalf("the way to %d ends at %d, ahead of %d", key, place.Id, e.Id)
						}
					}
					break
				}
				if steps == 64 {
					t.Fatalf("no end of the way to %d", key)
				}
				place = next
			}
		}
	}
}

// What is handed in, and out

// A bed is a list within memory that has other things around it, and how that memory was.
type bed[T comparable] struct{ list, memory, was []T }

// laid answers a list between others.
func laid[T comparable](list, around []T) bed[T] {
	memory := slices.Concat(around, list, around)
	memory = memory[:len(memory):len(memory)]
	return bed[T]{memory[len(around) : len(around)+len(list)], memory, slices.Clone(memory)}
}

// same asks that nothing of the memory was changed.
func (b bed[T]) same(t *testing.T, what string) {
	t.Helper()
	if !slices.Equal(b.memory, b.was) {
		t.Fatalf("%s changed what was handed in, or what lies around it", what)
	}
}

// lures answers peers that a list has behind its end and ahead of its beginning, each of them with a mark.
func lures() []api.Peer {
	list := slices.Concat(many(9), few(), parts())
	for _, id := range []uint64{0, 98, 99, 100, 101, 102, 105, end} {
		list = append(list, at("new", id), at("", id), at("me", id))
	}
	for i := range list {
		list[i].Entry.Tag = "lure"
	}
	return list
}

// lureFingers answers fingers to them, of all bits that may be and of some that may not.
func lureFingers() []api.Finger {
	var list []api.Finger
	for i, p := range lures() {
		list = append(list, to(i*2-6, p))
	}
	return list
}

// alone asks that what a call answers is new memory, with its spare room, in which nothing but what it answers is.
func alone[T comparable](t *testing.T, what string, l, around []T, call func(l []T) []api.Finger) {
	t.Helper()
	b := laid(l, around)
	want := call(slices.Clone(l))
	one, two := call(b.list), call(b.list)
	are(t, what+" of a list with others behind it", one, want)
	b.same(t, what)
	for _, x := range one[len(one):cap(one)] {
		if x != (api.Finger{}) {
			t.Fatalf("%s hands out %#v behind its answer", what, x)
		}
	}
	for i := range one[:cap(one)] {
		one[:cap(one)][i] = to(77, at("spoilt", 7))
	}
	b.same(t, what+", and then its answer,")
	are(t, what+", once an answer is spoilt", two, want)
	clear(b.memory)
	are(t, what+", once the list is spoilt", two, want)
}

func TestMemory(t *testing.T) {
	several := append(nothings[api.Peer](), lists(few()[2:8], 2)...)
	for _, count := range []int{3, 5, 6, 7, 8, 9, 15, 16, 30} {
		several = append(several, many(count), drawnList(rows(uint64(count)), 100, count))
	}
	several = append(several, powers(100))
	for _, l := range several {
		alone(t, "Of", l, lures(), func(l []api.Peer) []api.Finger { return Of(node(100), l) })
		for _, name := range []string{"a", "c", "", "me", "new", "none of them"} {
			alone(t, "Drop", leading(l), lureFingers(), func(f []api.Finger) []api.Finger { return Drop(f, name) })
		}
	}
	for _, f := range append(nothings[api.Finger](), lists(fewFingers(), 2)...) {
		for _, name := range []string{"a", "", "none of them"} {
			alone(t, "Drop", f, lureFingers(), func(f []api.Finger) []api.Finger { return Drop(f, name) })
		}
	}
}

// What a call tells hangs on nothing around a list, and asking changes nothing.
func TestOthersAroundTheLists(t *testing.T) {
	for _, l := range append(nothings[api.Peer](), lists(few(), 2)...) {
		peers, f := laid(l, lures()), laid(append(leading(l), none(3)), lureFingers())
		all(t, node(100), peers.list, f.list, 95, 100, 115, 0)
		all(t, node(100), peers.list, f.list[:0], 95, 100, 115, 0)
		all(t, node(100), peers.list[:0], f.list, 95, 100, 115, 0)
		peers.same(t, "one of the four")
		f.same(t, "one of the four")
	}
}

// What a call answers hangs on what it is handed alone.
func TestNothingIsKept(t *testing.T) {
	l := many(3)
	f := leading(l)
	for range 3 {
		of(t, node(100), l, to(0, l[0]), to(4, l[1]), none(5))
		of(t, node(115), l, to(0, l[1]), to(3, l[2]), to(4, l[0]))
		of(t, node(100), nil, none(0))
		leadsTo(t, f, 4, l[1])
		nowhere(t, nil, 4)
		drops(t, f, "b", []api.Finger{to(0, l[0]), none(3), to(6, l[2])})
		drops(t, f, "c", []api.Finger{to(0, l[0]), to(3, l[1]), none(6)})
		hops(t, node(100), l, f, 125, l[1].Entry)
		hops(t, node(100), nil, f, 115, l[0].Entry)
		hops(t, node(100), nil, nil, 125, node(100))
	}
}

func FuzzFingers(f *testing.F) {
	f.Add(uint64(1), uint64(100), 7, 5, uint64(110), "a", 0)
	f.Add(uint64(2), uint64(end), 8, 9, uint64(0), "", 64)
	f.Add(uint64(3), uint64(0), 0, 0, uint64(0), "me", least)
	f.Add(uint64(4), uint64(1<<63), 6, 15, uint64(1<<63), "\xff", greatest)
	f.Fuzz(func(t *testing.T, seed, id uint64, peers, fingers int, key uint64, name string, bit int) {
		draw := rows(seed)
		me := node(id)
		l := drawnList(draw, id, peers&15)
		list := append(drawnFingers(draw, id, fingers&15), to(bit, at(name, key)))
		all(t, me, l, list, key, id, key+1, id+uint64(draw(1<<31)))
		drops(t, list, name, wantDrop(list, name))
		follows(t, me, l, list, key)
		if p, ok := wantAt(list, bit); ok {
			leadsTo(t, list, bit, p)
		} else {
			nowhere(t, list, bit)
		}
	})
}
