package arc

import (
	"encoding/binary"
	"math"
	"math/bits"
	"slices"
	"testing"
)

const last = math.MaxUint64 // the greatest place, behind which the circle begins anew

// made answers so many places without a plain order, the same ones for the same seed.
func made(many int, seed uint64) []uint64 {
	ids := make([]uint64, many)
	state := seed*0x9e3779b97f4a7c15 + 1
	for i := range ids {
		state = state*6364136223846793005 + 1442695040888963407
		ids[i] = bits.RotateLeft64(state, 32) ^ seed
	}
	return ids
}

// places answers places at the ends of the circle, of its half and of its quarters, and some in between.
func places() []uint64 {
	edges := []uint64{0, 1, 2, 3, 255, 1<<32 - 1, 1 << 32, 1<<62 - 1, 1 << 62, 1<<63 - 2, 1<<63 - 1, 1 << 63, 1<<63 + 1, 3 << 62, last - 3, last - 2, last - 1, last}
	return append(edges, made(4, 1)...)
}

// nothings answers the ways in which no places may come in.
func nothings() [][]uint64 {
	return [][]uint64{nil, {}, make([]uint64, 0, 100), []uint64{7, 8, 9}[:0]}
}

// lists answers lists of places: none, one, several, some of which stand there more often, and such as lie across the circle's end.
func lists() [][]uint64 {
	list := append(nothings(),
		[]uint64{0}, []uint64{5}, []uint64{last}, []uint64{7, 7}, []uint64{7, 7, 7, 7}, []uint64{0, 0, last, last},
		[]uint64{1, 2}, []uint64{2, 1}, []uint64{last, 0}, []uint64{0, last},
		[]uint64{9, 2, 9, 5}, []uint64{1, 2, 3, 4, 5, 6}, []uint64{6, 5, 4, 3, 2, 1}, []uint64{3, 1, 3, 2, 1, 3, 2},
		[]uint64{1, last, 0, last - 1, 2, 0, last}, []uint64{1 << 63, 1<<63 - 1, 0, 1<<63 + 1, last},
		places(), append(places(), places()...))
	for _, many := range []int{2, 3, 11, 12, 13, 20, 21, 40, 41, 100} {
		twice := made(many, uint64(many))
		list = append(list, twice, append(slices.Clone(twice), twice[:many/2]...))
	}
	return list
}

// wantDist answers Dist in whole numbers, of which none leaves the range: up to b, or up to the circle's end, over it, and up to b.
func wantDist(a, b uint64) uint64 {
	if a <= b {
		return b - a
	}
	return last - a + 1 + b
}

// wantStart answers Start in whole numbers, of which none leaves the range.
func wantStart(id uint64, bit int) uint64 {
	if bit < 0 || bit > 63 {
		return id
	}
	power := uint64(1)
	for range bit {
		power *= 2
	}
	if power <= last-id {
		return id + power
	}
	return power - (last - id) - 1
}

// wantWithin answers Within by where the places stand on a line from 0 on.
func wantWithin(a, x, b uint64) bool {
	if a < b {
		return a < x && x <= b
	}
	return a == b || a < x || x <= b
}

// wantInside answers Inside by where the places stand on a line from 0 on.
func wantInside(a, x, b uint64) bool {
	if a < b {
		return a < x && x < b
	}
	return a < x || x < b
}

// wantNearest answers Nearest: the first place that no other one lies ahead of.
func wantNearest(ids []uint64, key uint64) int {
	for i, id := range ids {
		if !slices.ContainsFunc(ids, func(other uint64) bool { return wantDist(key, other) < wantDist(key, id) }) {
			return i
		}
	}
	return -1
}

// wantOrder answers Order: as they stand on a line from 0 on, those ahead of from behind all others.
func wantOrder(from uint64, ids []uint64) []uint64 {
	var ahead, behind []uint64
	for _, id := range slices.Sorted(slices.Values(ids)) {
		if id < from {
			behind = append(behind, id)
		} else {
			ahead = append(ahead, id)
		}
	}
	return append(ahead, behind...)
}

// P9.1

// The chapter's example, and the edges that it names.
func TestDistOfKnownPlaces(t *testing.T) {
	for _, x := range []struct{ a, b, want uint64 }{
		{last, 1, 2},
		{0, 0, 0}, {7, 7, 0}, {1 << 63, 1 << 63, 0}, {last, last, 0},
		{0, 1, 1}, {7, 8, 1}, {1<<63 - 1, 1 << 63, 1}, {last - 1, last, 1}, {last, 0, 1},
		{1, 0, last}, {8, 7, last}, {1 << 63, 1<<63 - 1, last}, {last, last - 1, last}, {0, last, last},
		{1, 3, 2}, {3, 1, last - 1}, {1, last, last - 1}, {last - 1, 1, 3}, {last - 9, 10, 20},
		{0, 1 << 63, 1 << 63}, {1 << 63, 0, 1 << 63}, {5, 1<<63 + 5, 1 << 63}, {1<<63 + 5, 5, 1 << 63},
		{last, 1<<63 - 1, 1 << 63}, {1<<63 - 1, last, 1 << 63},
		{1 << 63, 1, 1<<63 + 1}, {1, 1 << 63, 1<<63 - 1}, {1 << 32, 1<<32 - 1, last}, {1<<32 - 1, 1 << 32, 1},
	} {
		if got := Dist(x.a, x.b); got != x.want {
			t.Errorf("from %d to %d: %d, wanted %d", x.a, x.b, got, x.want)
		}
	}
}

func TestDistOfEachPair(t *testing.T) {
	all := append(places(), made(60, 2)...)
	for _, a := range all {
		for _, b := range all {
			if got, want := Dist(a, b), wantDist(a, b); got != want {
				t.Errorf("from %d to %d: %d, wanted %d", a, b, got, want)
			}
		}
	}
}

// How far a place lies ahead is how many steps lead to it, each to the next place.
func TestDistIsHowManySteps(t *testing.T) {
	for _, a := range places() {
		b := a
		for steps := range uint64(300) {
			if got := Dist(a, b); got != steps {
				t.Errorf("from %d to %d: %d, wanted %d", a, b, got, steps)
			}
			if b == last {
				b = 0
			} else {
				b++
			}
		}
	}
}

// noBits answers what is no bit: the least and the greatest int, those beside the bits, and such as become a bit if they lose their highest bits, or their sign.
func noBits() []int {
	list := []int{-1, -2, -5, -63, -64, -65, 64, 65, 66, 127, 128, 129, 255, 256, 261, 65536, 65536 + 63, -256, -251, -65536 + 5}
	return append(list, math.MinInt, math.MinInt+1, math.MinInt+5, math.MinInt+63, math.MaxInt, math.MaxInt-1, math.MaxInt/2+1, math.MaxInt/2+6, math.MinInt32, math.MaxInt32)
}

func TestStartOfKnownPlaces(t *testing.T) {
	for _, x := range []struct {
		id   uint64
		bit  int
		want uint64
	}{
		{0, 0, 1}, {0, 1, 2}, {0, 62, 1 << 62}, {0, 63, 1 << 63}, {5, 3, 13}, {5, 0, 6}, {5, 31, 1<<31 + 5}, {5, 32, 1<<32 + 5},
		{last, 0, 0}, {last, 1, 1}, {last, 3, 7}, {last, 62, 1<<62 - 1}, {last, 63, 1<<63 - 1},
		{last - 1, 0, last}, {last - 1, 1, 0}, {last - 7, 3, 0}, {last - 8, 3, last},
		{1 << 63, 63, 0}, {1<<63 + 1, 63, 1}, {1<<63 - 1, 63, last}, {3 << 62, 62, 0}, {1 << 62, 62, 1 << 63},
		{5, 64, 5}, {5, -1, 5}, {0, 64, 0}, {0, -1, 0}, {last, 64, last}, {last, -1, last},
		{5, math.MinInt, 5}, {5, math.MaxInt, 5}, {last, math.MinInt, last}, {last, math.MaxInt, last},
	} {
		if got := Start(x.id, x.bit); got != x.want {
			t.Errorf("%d and 2^%d: %d, wanted %d", x.id, x.bit, got, x.want)
		}
	}
}

func TestStartOfEachBit(t *testing.T) {
	for _, id := range append(places(), made(30, 3)...) {
		for bit := range 64 {
			if got, want := Start(id, bit), wantStart(id, bit); got != want {
				t.Errorf("%d and 2^%d: %d, wanted %d", id, bit, got, want)
			}
			if got := Dist(id, Start(id, bit)); bits.OnesCount64(got) != 1 || bits.TrailingZeros64(got) != bit {
				t.Errorf("%d and 2^%d lies %d ahead", id, bit, got)
			}
		}
	}
}

func TestStartOfWhatIsNoBit(t *testing.T) {
	for _, id := range places() {
		for _, bit := range noBits() {
			if got := Start(id, bit); got != id {
				t.Errorf("%d, bit %d: %d", id, bit, got)
			}
		}
	}
}

// P9.2

// met is what Within and Inside answer of three places.
type met struct {
	a, x, b        uint64
	within, inside bool
}

// right asks that Within and Inside answer this.
func right(t *testing.T, want met) {
	t.Helper()
	if got := Within(want.a, want.x, want.b); got != want.within {
		t.Errorf("from %d, %d, to %d: Within is %t", want.a, want.x, want.b, got)
	}
	if got := Inside(want.a, want.x, want.b); got != want.inside {
		t.Errorf("from %d, %d, to %d: Inside is %t", want.a, want.x, want.b, got)
	}
}

// The chapter's example, places that are alike or not in each of their orders, and the circle's end.
func TestWithinAndInsideOfKnownPlaces(t *testing.T) {
	for _, x := range []met{
		{last, 0, 1, true, true},
		// none alike: the orders that are one way round, and those that are the other
		{1, 2, 3, true, true}, {2, 3, 1, true, true}, {3, 1, 2, true, true},
		{3, 2, 1, false, false}, {2, 1, 3, false, false}, {1, 3, 2, false, false},
		// x is b; x is a; a is b; all three are
		{1, 3, 3, true, false}, {3, 1, 1, true, false},
		{1, 1, 3, false, false}, {3, 3, 1, false, false},
		{5, 6, 5, true, true}, {5, 4, 5, true, true}, {5, 0, 5, true, true}, {5, last, 5, true, true},
		{5, 5, 5, true, false}, {0, 0, 0, true, false}, {last, last, last, true, false}, {1 << 63, 1 << 63, 1 << 63, true, false},
		// across the end, and at it
		{3, 4, 1, true, true}, {3, 0, 1, true, true}, {3, last, 1, true, true},
		{last, 0, 0, true, false}, {last, last, 0, false, false}, {last, 1, 0, false, false}, {last, last - 1, 0, false, false},
		{last - 1, last, 0, true, true}, {last - 1, 0, 0, true, false}, {last - 1, last - 1, 0, false, false}, {last - 1, 1, 0, false, false},
		{0, 1, last, true, true}, {0, 0, last, false, false}, {0, last, last, true, false}, {0, last - 1, last, true, true},
		{0, last, 0, true, true}, {last, 0, last, true, true}, {0, 1, 0, true, true}, {last, last - 1, last, true, true},
		{last, 5, 5, true, false}, {last, 5, 6, true, true}, {last, 7, 6, false, false},
		// ways of one step, and of all but one
		{7, 8, 8, true, false}, {7, 9, 8, false, false}, {7, 7, 8, false, false}, {7, 6, 8, false, false},
		{8, 7, 7, true, false}, {8, 6, 7, true, true}, {8, 9, 7, true, true}, {8, 8, 7, false, false},
		// half a circle, and more
		{0, 1<<63 + 1, 1<<63 + 2, true, true}, {0, 1<<63 + 2, 1<<63 + 1, false, false}, {1 << 63, 0, 1, true, true}, {1 << 63, 1<<63 - 1, 1, false, false},
		{1<<63 - 1, 1 << 63, last, true, true}, {1 << 63, 1<<63 - 1, last, false, false},
	} {
		right(t, x)
	}
}

func TestWithinAndInsideOfEachThree(t *testing.T) {
	all := append(places(), made(20, 4)...)
	for _, a := range all {
		for _, x := range all {
			for _, b := range all {
				right(t, met{a, x, b, wantWithin(a, x, b), wantInside(a, x, b)})
			}
		}
	}
}

// What is met is what steps come to, each to the next place: of a place that lies so many steps behind a, up to b, b too.
func TestWithinAndInsideByStepsThatAreGone(t *testing.T) {
	const most = 9
	for _, a := range places() {
		way := []uint64{a} // a and the places behind it, in turn
		for range most {
			next := way[len(way)-1] + 1
			if way[len(way)-1] == last {
				next = 0
			}
			way = append(way, next)
		}
		for end := 1; end <= most; end++ {
			for at, x := range way {
				right(t, met{a, x, way[end], 1 <= at && at <= end, 1 <= at && at < end})
				right(t, met{way[end], x, a, at == 0 || end < at, end < at})
			}
		}
	}
}

func TestWithinAndInsideOnceRound(t *testing.T) {
	all := append(places(), made(50, 5)...)
	for _, a := range all {
		for _, x := range all {
			right(t, met{a, x, a, true, x != a})
		}
	}
}

// P9.3

func TestNearestOfKnownPlaces(t *testing.T) {
	for _, x := range []struct {
		ids  []uint64
		key  uint64
		want int
	}{
		{nil, 9, -1}, {[]uint64{}, 9, -1}, {[]uint64{}, 0, -1}, {[]uint64{9, 9}[:0], 9, -1},
		{[]uint64{5}, 5, 0}, {[]uint64{5}, 4, 0}, {[]uint64{5}, 6, 0}, {[]uint64{0}, last, 0}, {[]uint64{last}, 0, 0},
		{[]uint64{9, 2, 9, 5}, 6, 0}, {[]uint64{9, 2, 9, 5}, 9, 0}, {[]uint64{9, 2, 9, 5}, 10, 1}, {[]uint64{9, 2, 9, 5}, 0, 1},
		{[]uint64{9, 2, 9, 5}, 2, 1}, {[]uint64{9, 2, 9, 5}, 3, 3}, {[]uint64{9, 2, 9, 5}, 5, 3}, {[]uint64{9, 2, 9, 5}, last, 1},
		{[]uint64{7, 7, 7}, 7, 0}, {[]uint64{7, 7, 7}, 8, 0}, {[]uint64{7, 7, 7}, 6, 0},
		{[]uint64{1, 8, 3, 8, 3}, 4, 1}, {[]uint64{1, 8, 3, 8, 3}, 2, 2}, {[]uint64{8, 3, 1, 3, 1}, 9, 2},
		{[]uint64{last, 0}, last, 0}, {[]uint64{0, last}, last, 1}, {[]uint64{last, 0}, 0, 1}, {[]uint64{last, 1, 0, 0}, 0, 2},
		{[]uint64{last - 1, 1, 2}, last, 1}, {[]uint64{2, last - 1, 1}, last, 2}, {[]uint64{5, last - 4}, last - 3, 0},
		{[]uint64{1<<63 - 1, 1<<63 + 1}, 1 << 63, 1}, {[]uint64{1<<63 + 5, 4}, 5, 0}, {[]uint64{1 << 63, 0}, 1, 0}, {[]uint64{4, 1 << 63}, 5, 1},
	} {
		if got := Nearest(x.ids, x.key); got != x.want {
			t.Errorf("%v, key %d: %d, wanted %d", x.ids, x.key, got, x.want)
		}
	}
}

// keys answers keys that are places of ids, or lie one ahead or behind, and the edges.
func keys(ids []uint64) []uint64 {
	list := places()
	for _, id := range ids {
		list = append(list, id, id-1, id+1)
	}
	return list
}

func TestNearestOfEachList(t *testing.T) {
	for _, ids := range lists() {
		for _, key := range keys(ids) {
			if got, want := Nearest(ids, key), wantNearest(ids, key); got != want {
				t.Errorf("%v, key %d: %d, wanted %d", ids, key, got, want)
			}
		}
	}
}

// The place that is nearest may stand anywhere, and of several the first is told.
func TestNearestAtEachPlaceOfAList(t *testing.T) {
	const many = 40
	for first := range many {
		ids := made(many, 6)
		for i := range ids {
			ids[i] = 100 + ids[i]%1000
		}
		ids[first] = 50
		for second := first; second < many; second++ {
			ids[second] = 50
			for _, key := range []uint64{50, 49, 0, last, 2000} {
				if got := Nearest(ids, key); got != first {
					t.Errorf("50 from %d to %d, key %d: %d", first, second, key, got)
				}
			}
		}
	}
}

func TestOrderOfKnownPlaces(t *testing.T) {
	for _, x := range []struct {
		from      uint64
		ids, want []uint64
	}{
		{9, nil, nil}, {9, []uint64{}, nil}, {9, []uint64{9, 9}[:0], nil},
		{5, []uint64{5}, []uint64{5}}, {6, []uint64{5}, []uint64{5}}, {last, []uint64{0}, []uint64{0}},
		{4, []uint64{9, 2, 9, 5}, []uint64{5, 9, 9, 2}}, {5, []uint64{9, 2, 9, 5}, []uint64{5, 9, 9, 2}}, {6, []uint64{9, 2, 9, 5}, []uint64{9, 9, 2, 5}},
		{0, []uint64{9, 2, 9, 5}, []uint64{2, 5, 9, 9}}, {10, []uint64{9, 2, 9, 5}, []uint64{2, 5, 9, 9}}, {9, []uint64{9, 2, 9, 5}, []uint64{9, 9, 2, 5}},
		{7, []uint64{7, 7, 7}, []uint64{7, 7, 7}}, {8, []uint64{7, 8, 7, 8}, []uint64{8, 8, 7, 7}},
		{last, []uint64{0, last, 1, last - 1}, []uint64{last, 0, 1, last - 1}}, {0, []uint64{last, 1, 0}, []uint64{0, 1, last}},
		{last - 1, []uint64{2, last - 2, last, 0, last - 1}, []uint64{last - 1, last, 0, 2, last - 2}},
		{1 << 63, []uint64{1<<63 - 1, 0, 1 << 63, last}, []uint64{1 << 63, last, 0, 1<<63 - 1}},
		{1, []uint64{0, 1<<63 + 1, 1 << 63, 1<<63 + 2}, []uint64{1 << 63, 1<<63 + 1, 1<<63 + 2, 0}},
	} {
		if got := Order(x.from, x.ids); !slices.Equal(got, x.want) {
			t.Errorf("from %d, %v: %v, wanted %v", x.from, x.ids, got, x.want)
		}
	}
}

// rightOrder asks that Order answers each place as often as it stands there, by rising Dist, and the nearest one first.
func rightOrder(t *testing.T, from uint64, ids []uint64) {
	t.Helper()
	got := Order(from, ids)
	if want := wantOrder(from, ids); !slices.Equal(got, want) {
		t.Errorf("from %d, %v: %v, wanted %v", from, ids, got, want)
		return
	}
	for i := 1; i < len(got); i++ {
		if wantDist(from, got[i-1]) > wantDist(from, got[i]) {
			t.Errorf("from %d: %d ahead of %d", from, got[i-1], got[i])
		}
	}
	if at := Nearest(ids, from); at >= 0 && ids[at] != got[0] {
		t.Errorf("from %d, %v: the nearest is %d, the first %d", from, ids, ids[at], got[0])
	}
	if again := Order(from, got); !slices.Equal(again, got) {
		t.Errorf("from %d, %v: ordered once more %v", from, got, again)
	}
}

func TestOrderOfEachList(t *testing.T) {
	for _, ids := range lists() {
		for _, from := range keys(ids) {
			rightOrder(t, from, ids)
		}
	}
}

// However few places stand, each way in which they may stand is brought in order.
func TestOrderOfEachWayToStand(t *testing.T) {
	few := []uint64{last, 0, 1, 2}
	for code := range 4 * 4 * 4 * 4 * 4 {
		var ids []uint64
		for left := code; len(ids) < 5; left /= 4 {
			ids = append(ids, few[left%4])
		}
		for _, from := range []uint64{0, 1, 2, 3, last - 1, last} {
			rightOrder(t, from, ids)
			if got, want := Nearest(ids, from), wantNearest(ids, from); got != want {
				t.Errorf("%v, key %d: %d, wanted %d", ids, from, got, want)
			}
		}
	}
}

func TestOrderOfManyPlaces(t *testing.T) {
	ids := made(100000, 7)
	for i := range ids[:50000] {
		ids[i] %= 1000 // so that most of these stand there more often
	}
	for _, from := range []uint64{0, 500, 1 << 63, ids[77777], last} {
		rightOrder(t, from, ids)
		rightOrder(t, from, wantOrder(from+1, ids))
		turned := wantOrder(from, ids)
		slices.Reverse(turned)
		rightOrder(t, from, turned)
	}
}

// P9.4

// round answers how many times round the circle the way from a to b, to c and back to a is, and how far beyond that.
func round(a, b, c uint64) (times, beyond uint64) {
	for _, dist := range []uint64{Dist(a, b), Dist(b, c), Dist(c, a)} {
		var over uint64
		beyond, over = bits.Add64(beyond, dist, 0)
		times += over
	}
	return times, beyond
}

// follows asks of three places all that the chapter says follows.
func follows(t *testing.T, a, b, c uint64) {
	t.Helper()
	if Within(a, b, c) && !Inside(a, b, c) && b != c {
		t.Errorf("from %d, %d is Within, to %d: neither Inside nor the end", a, b, c)
	}
	if Inside(a, b, c) && !Within(a, b, c) || !Within(a, c, c) || Inside(a, c, c) {
		t.Errorf("from %d, %d, to %d: what is Inside and the end are Within, and the end is not Inside", a, b, c)
	}
	if a == b || b == c || c == a {
		return
	}
	one, rest := round(a, b, c)
	other, left := round(a, c, b)
	if rest != 0 || left != 0 || min(one, other) != 1 || max(one, other) != 2 {
		t.Errorf("%d, %d and %d: %d times round and %d one way, %d times and %d the other", a, b, c, one, rest, other, left)
	}
	for _, x := range []met{{a, b, c, one == 1, one == 1}, {b, c, a, one == 1, one == 1}, {c, a, b, one == 1, one == 1}} {
		right(t, x)
		right(t, met{x.b, x.x, x.a, !x.within, !x.inside})
	}
}

func TestWhatFollows(t *testing.T) {
	all := append(places(), made(20, 8)...)
	for _, a := range all {
		for _, b := range all {
			for _, c := range all {
				follows(t, a, b, c)
			}
		}
	}
}

// placesOf answers the places that eight bytes each are.
func placesOf(b []byte) []uint64 {
	var ids []uint64
	for len(b) >= 8 {
		ids = append(ids, binary.BigEndian.Uint64(b))
		b = b[8:]
	}
	return ids
}

func FuzzWhatFollows(f *testing.F) {
	f.Add(uint64(0), uint64(0), uint64(0), 0, []byte{})
	f.Add(uint64(1), uint64(2), uint64(3), 63, []byte("12345678abcdefgh12345678"))
	f.Add(uint64(last), uint64(0), uint64(1), 64, make([]byte, 40))
	f.Add(uint64(1<<63), uint64(last), uint64(1<<63-1), -1, []byte("\xff\xff\xff\xff\xff\xff\xff\xff\x00\x00\x00\x00\x00\x00\x00\x00"))
	f.Fuzz(func(t *testing.T, a, b, c uint64, bit int, bytes []byte) {
		if got, want := Dist(a, b), wantDist(a, b); got != want {
			t.Errorf("from %d to %d: %d, wanted %d", a, b, got, want)
		}
		for _, bit := range []int{bit, bit & 63} {
			if got, want := Start(a, bit), wantStart(a, bit); got != want {
				t.Errorf("%d and 2^%d: %d, wanted %d", a, bit, got, want)
			}
		}
		right(t, met{a, b, c, wantWithin(a, b, c), wantInside(a, b, c)})
		follows(t, a, b, c)
		ids := append(placesOf(bytes), a, b)
		rightOrder(t, c, ids)
		if got, want := Nearest(ids, c), wantNearest(ids, c); got != want {
			t.Errorf("%v, key %d: %d, wanted %d", ids, c, got, want)
		}
	})
}

// Rules 4, 5 and 8: what is handed in stays as it was, what is handed out is new memory, what lies behind a length does not count, and nothing is kept.

// whole answers memory with spare room of which the beginning is these places, and that beginning.
func whole(ids []uint64) (all, in []uint64) {
	all = append(slices.Clone(ids), made(20, 9)...)
	return all, all[:len(ids)]
}

// fill writes over all of this memory, its spare room too.
func fill(ids []uint64) {
	ids = ids[:cap(ids)]
	for i := range ids {
		ids[i] ^= 0xa5a5a5a5a5a5a5a5
	}
}

func TestWhatIsHandedInStaysAsItWas(t *testing.T) {
	for _, ids := range lists() {
		all, in := whole(ids)
		kept := slices.Clone(all)
		for _, from := range places() {
			Nearest(in, from)
			ordered := Order(from, in)
			fill(ordered)
			_ = append(ordered, 1, 2, 3)
			if !slices.Equal(all, kept) {
				t.Fatalf("from %d: %v, was %v", from, all, kept)
			}
		}
	}
}

func TestWhatIsHandedOutIsNewMemory(t *testing.T) {
	for _, ids := range lists() {
		for _, from := range places() {
			all, in := whole(ids)
			want := wantOrder(from, ids)
			first, second := Order(from, in), Order(from, in)
			fill(all)
			if !slices.Equal(first, want) {
				t.Errorf("from %d, %v: it changes with what was handed in", from, ids)
			}
			fill(first)
			if !slices.Equal(second, want) {
				t.Errorf("from %d, %v: it changes with what was handed out ahead of it", from, ids)
			}
		}
	}
}

func TestWhatLiesBehindALengthDoesNotCount(t *testing.T) {
	for _, ids := range lists() {
		for _, from := range places() {
			all, in := whole(ids)
			for i := range all[len(ids):] {
				all[len(ids)+i] = from // none lies nearer than the key itself
			}
			if got, want := Nearest(in, from), wantNearest(ids, from); got != want {
				t.Errorf("%v, key %d: %d, wanted %d", ids, from, got, want)
			}
			got := Order(from, in)
			if want := wantOrder(from, ids); !slices.Equal(got, want) {
				t.Errorf("from %d, %v: %v, wanted %v", from, ids, got, want)
			}
			for _, id := range got[len(got):cap(got)] {
				if id != 0 {
					t.Errorf("from %d, %v: its spare room holds %d", from, ids, id)
				}
			}
		}
	}
}

// A call leaves nothing behind: whatever comes ahead of it, it answers what it would have.
func TestNothingIsKept(t *testing.T) {
	for _, from := range places() {
		for _, ids := range lists() {
			Order(from+1, ids)
			Nearest(ids, from-1)
			Within(from, 1, 2)
			Start(from, 70)
			if got := Order(4, []uint64{9, 2, 9, 5}); !slices.Equal(got, []uint64{5, 9, 9, 2}) {
				t.Errorf("behind from %d, %v: Order is %v", from, ids, got)
			}
			if got := Nearest([]uint64{9, 2, 9, 5}, 6); got != 0 {
				t.Errorf("behind from %d, %v: Nearest is %d", from, ids, got)
			}
		}
		right(t, met{last, 0, 1, true, true})
	}
}
