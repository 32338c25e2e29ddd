package table

import (
	"fmt"
	"math"
	"slices"
	"strings"
	"testing"

	"carcanet/api"
)

// show tells a list shortly: of each session what a place may hang on.
func show(l []api.Session) string {
	var b strings.Builder
	for i, s := range l {
		fmt.Fprintf(&b, "\n\t%d: Id %d Nonce %d State %d Role %d Peer %q %d Used %d Seq %d Epoch %d", i, s.Id, s.Nonce, s.State, s.Role, s.Peer.Name, s.Peer.Id, s.Used, s.Seq, s.Epoch)
	}
	return fmt.Sprintf("%d sessions%s", len(l), b.String())
}

// finds asks that a place is this one.
func finds(t *testing.T, what string, l []api.Session, got, want int) {
	t.Helper()
	if got != want {
		t.Fatalf("%s: %d, wanted %d, of %s", what, got, want, show(l))
	}
}

// allPlaces asks all four of a list, and wants what the chapter's words ask for.
func allPlaces(t *testing.T, l []api.Session, numbers []uint64, peers []api.Entry) {
	t.Helper()
	for _, n := range numbers {
		finds(t, fmt.Sprint("ById ", n), l, ById(l, n), wantById(l, n))
		finds(t, fmt.Sprint("Waits ", n), l, Waits(l, n), wantWaits(l, n))
	}
	for _, peer := range peers {
		finds(t, fmt.Sprintf("Asks %#v", peer), l, Asks(l, peer), wantAsks(l, peer))
		finds(t, fmt.Sprintf("For %#v", peer), l, For(l, peer), wantFor(l, peer))
	}
}

// adds asks that Add answers this.
func adds(t *testing.T, l []api.Session, busy []uint64, s api.Session, want []api.Session, e api.Errno) {
	t.Helper()
	got, f := Add(l, busy, s)
	if f != e || !slices.Equal(got, want) {
		t.Fatalf("Add of %s\nbusy %d, to %s\nanswers %d and %s\nwanted %d and %s", show([]api.Session{s}), busy, show(l), f, show(got), e, show(want))
	}
}

// refuses asks that Add answers this error, and the list as it is.
func refuses(t *testing.T, l []api.Session, busy []uint64, s api.Session, e api.Errno) {
	t.Helper()
	adds(t, l, busy, s, l, e)
}

// follows asks that Add puts s behind the list, and that nothing goes.
func follows(t *testing.T, l []api.Session, busy []uint64, s api.Session) {
	t.Helper()
	adds(t, l, busy, s, append(slices.Clone(l), s), api.OK)
}

// replaces asks that Add puts s behind the list, and that the one at this place goes.
func replaces(t *testing.T, l []api.Session, busy []uint64, s api.Session, place int) {
	t.Helper()
	adds(t, l, busy, s, append(slices.Delete(slices.Clone(l), place, place+1), s), api.OK)
}

// is asks that a list is this one.
func is(t *testing.T, what string, got, want []api.Session) {
	t.Helper()
	if !slices.Equal(got, want) {
		t.Fatalf("%s: %s\nwanted %s", what, show(got), show(want))
	}
}

// nothings answers the ways in which no session may come in.
func nothings() [][]api.Session {
	return [][]api.Session{nil, {}, make([]api.Session, 0, 30), opens(30)[:0], waiting(30)[7:7]}
}

// P23.1: ById

func TestByIdOfEachStateButWaiting(t *testing.T) {
	for _, state := range states() {
		for _, s := range various(at(state, 5, 9)) {
			want := 2
			if state == 1 {
				want = -1
			}
			l := []api.Session{at(3, 4, 5), at(3, 6, 5), s, at(3, 7, 5)}
			finds(t, "ById 5", l, ById(l, 5), want)
			finds(t, "ById 9", l, ById(l, 9), -1)
		}
	}
}

func TestByIdOfNoId(t *testing.T) {
	for _, state := range states() {
		l := []api.Session{at(state, 0, 0), at(state, 5, 0), {State: state}, {}}
		finds(t, "ById 0", l, ById(l, 0), -1)
	}
}

func TestByIdIsTheFirst(t *testing.T) {
	for _, x := range []struct {
		l    []api.Session
		want int
	}{
		{[]api.Session{at(3, 5, 1), at(3, 5, 2)}, 0},
		{[]api.Session{at(2, 5, 1), at(3, 5, 2), at(0, 5, 3)}, 0},
		{[]api.Session{at(3, 4, 1), at(0, 5, 2), at(2, 5, 3), at(3, 5, 4)}, 1},
		{[]api.Session{at(1, 5, 1), at(3, 5, 2), at(3, 5, 3)}, 1},
		{[]api.Session{at(1, 5, 1), at(1, 5, 2), at(2, 5, 3), at(1, 5, 4), at(3, 5, 5)}, 2},
		{[]api.Session{at(1, 5, 1), at(1, 5, 2)}, -1},
		{[]api.Session{at(3, 4, 5), at(3, 6, 5)}, -1},
		{[]api.Session{at(3, 1<<32+5, 5), at(3, 1<<63+5, 5), at(3, 5, 5)}, 2},
	} {
		finds(t, "ById 5", x.l, ById(x.l, 5), x.want)
	}
}

// P23.1: Waits

func TestWaitsOfWaitingOnesAlone(t *testing.T) {
	for _, state := range states() {
		for _, nonce := range ids() {
			for _, s := range various(at(state, 9, nonce)) {
				want := -1
				if state == 1 {
					want = 1
				}
				l := []api.Session{at(1, nonce, nonce+2), s, at(1, nonce, nonce-2), at(1, nonce, nonce^1<<63), at(1, nonce, nonce^1<<32)}
				finds(t, fmt.Sprint("Waits ", nonce), l, Waits(l, nonce), want)
				finds(t, "Waits for an Id", l, Waits(l, 9), wantWaits(l, 9))
			}
		}
	}
}

// A nonce of 0 is one like any other.
func TestWaitsOfNonceZero(t *testing.T) {
	for _, x := range []struct {
		l    []api.Session
		want int
	}{
		{[]api.Session{at(1, 5, 0)}, 0},
		{[]api.Session{at(1, 0, 0), at(1, 0, 0)}, 0},
		{[]api.Session{at(3, 5, 0), at(1, 5, 5), at(1, 5, 0), at(1, 6, 0)}, 2},
		{[]api.Session{{}, at(2, 0, 0), at(1, 0, 1)}, -1},
	} {
		finds(t, "Waits 0", x.l, Waits(x.l, 0), x.want)
	}
}

func TestWaitsIsTheFirst(t *testing.T) {
	for _, x := range []struct {
		l    []api.Session
		want int
	}{
		{[]api.Session{at(1, 1, 5), at(1, 2, 5)}, 0},
		{[]api.Session{at(1, 1, 4), at(1, 2, 5), at(1, 3, 5)}, 1},
		{[]api.Session{at(3, 1, 5), at(2, 2, 5), at(1, 3, 5), at(1, 4, 5)}, 2},
		{[]api.Session{at(3, 1, 5), at(2, 2, 5), at(0, 3, 5)}, -1},
		{[]api.Session{at(1, 5, 4), at(1, 5, 6)}, -1},
	} {
		finds(t, "Waits 5", x.l, Waits(x.l, 5), x.want)
	}
}

// P23.1: Asks

func TestAsksOfWaitingOnesAlone(t *testing.T) {
	for _, state := range states() {
		for _, s := range various(at(state, 5, 9)) {
			want := -1
			if state == 1 {
				want = 1
			}
			l := []api.Session{of(moved(a()), at(1, 5, 9)), s, of(named(a(), "b"), at(1, 5, 9))}
			finds(t, "Asks a", l, Asks(l, a()), want)
			finds(t, "Asks a anew", l, Asks(l, renewed(a())), want)
		}
	}
}

// The same name with another identifier is another node, and so is the same identifier with another name.
func TestAsksOfOtherNodes(t *testing.T) {
	for _, other := range others() {
		l := []api.Session{of(other, at(1, 5, 9)), of(renewed(other), at(1, 6, 9))}
		finds(t, "Asks a", l, Asks(l, a()), -1)
		finds(t, "Asks the other", l, Asks(l, other), 0)
		l = append(l, at(1, 7, 9))
		finds(t, "Asks a", l, Asks(l, a()), 2)
		finds(t, "Asks a anew", l, Asks(l, renewed(a())), 2)
	}
}

func TestAsksIsTheFirst(t *testing.T) {
	for _, x := range []struct {
		l    []api.Session
		want int
	}{
		{[]api.Session{at(1, 1, 1), at(1, 2, 2)}, 0},
		{[]api.Session{at(3, 1, 1), at(1, 2, 2), at(1, 3, 3), at(2, 4, 4)}, 1},
		{[]api.Session{of(moved(a()), at(1, 1, 1)), of(renewed(a()), at(1, 2, 2)), at(1, 3, 3)}, 1},
		{[]api.Session{at(3, 1, 1), at(2, 2, 2), at(0, 3, 3)}, -1},
	} {
		finds(t, "Asks a", x.l, Asks(x.l, a()), x.want)
	}
}

// P23.1: For

func TestForOfOpenOnesAlone(t *testing.T) {
	for _, state := range states() {
		for _, role := range []int{0, 1, 2, 3} {
			for _, s := range various(as(role, at(state, 5, 9))) {
				want := -1
				if state == 3 {
					want = 1
				}
				l := []api.Session{of(moved(a()), at(3, 5, 9)), s, of(named(a(), "b"), at(3, 5, 9)), at(2, 5, 9), at(1, 5, 9)}
				finds(t, "For a", l, For(l, a()), want)
				finds(t, "For a anew", l, For(l, renewed(a())), want)
			}
		}
	}
}

// What is Spent, by its Seq or its Epoch, is spoken by no more; what is one short of it, is.
func TestForOfSpentOnes(t *testing.T) {
	for _, x := range []struct {
		seq, epoch int
		spent      bool
	}{
		{0, 0, false}, {4095, 0, false}, {4096, 0, true}, {4097, 0, true}, {greatest, 0, true}, {-1, 0, false}, {least, 0, false}, {-4096, 0, false}, {1<<32 + 1, 0, true},
		{0, 65534, false}, {0, 65535, true}, {0, 65536, true}, {0, greatest, true}, {0, -1, false}, {0, least, false}, {0, -65535, false}, {0, 1<<32 + 1, true},
		{4095, 65534, false}, {4096, 65534, true}, {4095, 65535, true}, {4096, 65535, true}, {65535, 4096, true}, {least, greatest, true}, {greatest, least, true}, {least, least, false},
	} {
		for _, s := range various(at(3, 5, 9)) {
			s.Seq, s.Epoch = x.seq, x.epoch
			alone, ahead, after := -1, 1, 0
			if !x.spent {
				alone, after = 0, 1
			}
			whole := at(3, 6, 9)
			finds(t, fmt.Sprint(x), []api.Session{s}, For([]api.Session{s}, a()), alone)
			finds(t, fmt.Sprint(x), []api.Session{s, whole}, For([]api.Session{s, whole}, a()), ahead)
			finds(t, fmt.Sprint(x), []api.Session{whole, s}, For([]api.Session{whole, s}, a()), after)
		}
	}
}

func TestForIsTheLast(t *testing.T) {
	spent := with(at(3, 9, 9), func(s *api.Session) { s.Seq = 4096 })
	for _, x := range []struct {
		l    []api.Session
		want int
	}{
		{[]api.Session{at(3, 1, 1), at(3, 2, 2)}, 1},
		{[]api.Session{at(3, 2, 2), used(least, at(3, 1, 1)), used(greatest, at(3, 0, 0))}, 2},
		{[]api.Session{at(3, 1, 1), at(3, 2, 2), at(2, 3, 3)}, 1},
		{[]api.Session{at(3, 1, 1), at(3, 2, 2), at(1, 3, 3), at(0, 3, 3), spent}, 1},
		{[]api.Session{at(3, 1, 1), of(moved(a()), at(3, 2, 2)), of(named(a(), "b"), at(3, 3, 3))}, 0},
		{[]api.Session{at(2, 1, 1), at(3, 2, 2), spent, spent}, 1},
		{[]api.Session{at(2, 1, 1), at(1, 2, 2), spent}, -1},
		{[]api.Session{of(moved(a()), at(3, 2, 2))}, -1},
		{[]api.Session{of(renewed(a()), at(3, 2, 2)), spent}, 0},
	} {
		finds(t, "For a", x.l, For(x.l, a()), x.want)
	}
}

// P23.1: all four

func TestPlacesOfNoList(t *testing.T) {
	for _, l := range nothings() {
		for _, n := range ids() {
			finds(t, "ById", l, ById(l, n), -1)
			finds(t, "Waits", l, Waits(l, n), -1)
		}
		for _, peer := range append(others(), a(), named(a(), "n")) {
			finds(t, "Asks", l, Asks(l, peer), -1)
			finds(t, "For", l, For(l, peer), -1)
		}
	}
}

func TestPlacesOfAllShortLists(t *testing.T) {
	peers := append(others()[:4], a(), renewed(a()), named(a(), "b"))
	for _, l := range lists(few(), 3) {
		allPlaces(t, l, []uint64{0, 4, 5, 6}, peers)
	}
	for _, l := range lists(some(), 2) {
		allPlaces(t, l, []uint64{0, 5}, []api.Entry{a(), moved(a())})
	}
}

func TestPlacesOfLongLists(t *testing.T) {
	for seed := range uint64(300) {
		draw := rows(seed)
		allPlaces(t, drawn(draw, draw(60)), append(upTo(40), ids()...), append(others(), a(), renewed(a())))
	}
	for _, many := range []int{23, 24, 25, 1000} {
		l := opens(many)
		for i := range many {
			finds(t, "ById", l, ById(l, uint64(i+1)), i)
			finds(t, "Waits", l, Waits(l, uint64(i+1)), -1)
			finds(t, "Waits", l, Waits(waiting(many), uint64(i+1)), i)
		}
		finds(t, "For", l, For(l, named(a(), "n")), many-1)
		finds(t, "Asks", l, Asks(waiting(many), named(a(), "n")), 0)
	}
}

// P23.2: ErrAgain

// One that waits is there already, if one that waits has its nonce: of any peer, Id and role.
func TestAddOfAWaitingOneThatIsThere(t *testing.T) {
	for _, nonce := range ids() {
		s := at(1, 7, nonce)
		for _, there := range []api.Session{s, at(1, 8, nonce), of(named(a(), "b"), at(1, 8, nonce)), as(2, at(1, 0, nonce)), {State: 1, Nonce: nonce}} {
			refuses(t, []api.Session{there}, nil, s, 26)
			refuses(t, []api.Session{at(3, 9, 1<<40), there, at(1, 10, 1<<41)}, nil, s, 26)
		}
		for _, state := range states() {
			if state != 1 {
				follows(t, []api.Session{at(state, 7, nonce)}, nil, s)
				follows(t, []api.Session{as(2, at(state, 7, nonce)), {State: state, Nonce: nonce}}, nil, s)
			}
		}
		for _, other := range []uint64{nonce + 1, nonce ^ 1<<32, nonce ^ 1<<63} {
			follows(t, []api.Session{at(1, 7, other)}, nil, s)
		}
	}
	follows(t, []api.Session{as(2, at(1, 5, 6)), as(2, at(3, 5, 5))}, nil, as(2, at(1, 5, 5)))
}

// One that does not wait is there already, if one that does not wait has its Id, which is not 0.
func TestAddOfAnIdThatIsThere(t *testing.T) {
	for _, state := range states() {
		if state == 1 {
			continue
		}
		s := at(state, 5, 7)
		for _, other := range states() {
			there := of(named(a(), "b"), at(other, 5, 8))
			if other == 1 {
				follows(t, []api.Session{there}, nil, s)
				follows(t, []api.Session{of(a(), there), at(1, 5, 7)}, nil, s)
				continue
			}
			refuses(t, []api.Session{there}, nil, s, 26)
			refuses(t, []api.Session{at(1, 5, 7), at(3, 6, 7), there, at(2, 9, 9)}, nil, s, 26)
			refuses(t, []api.Session{s}, nil, s, 26)
			follows(t, []api.Session{at(other, 4, 8), at(other, 6, 8), at(other, 1<<32+5, 8), at(other, 1<<63+5, 8)}, nil, s)
		}
	}
}

// An Id of 0 is nowhere.
func TestAddOfIdZero(t *testing.T) {
	for _, state := range states() {
		for _, other := range states() {
			if state != 1 {
				follows(t, []api.Session{at(other, 0, 8)}, nil, at(state, 0, 7))
				follows(t, []api.Session{{State: other}, {State: other}}, nil, at(state, 0, 7))
			}
		}
	}
	follows(t, []api.Session{{}}, nil, api.Session{})
	follows(t, []api.Session{at(3, 0, 7)}, nil, at(3, 0, 7))
}

// One that is half open is there already, if one of RoleSecond has its nonce and its peer, whatever has become of that.
func TestAddOfAHalfOneThatIsThere(t *testing.T) {
	for _, nonce := range ids() {
		s := as(2, at(2, 77, nonce))
		for _, state := range states() {
			there := as(2, at(state, 78, nonce))
			for _, x := range append(various(there), with(there, func(s *api.Session) { s.Id = 0 })) {
				refuses(t, []api.Session{x}, nil, s, 26)
				refuses(t, []api.Session{as(1, at(3, 8, nonce)), x, of(moved(a()), as(2, at(3, 9, nonce)))}, nil, s, 26)
				refuses(t, []api.Session{x}, nil, of(renewed(a()), s), 26)
				refuses(t, []api.Session{x}, nil, as(1, s), 26) // whatever role the new one has
			}
			for _, role := range []int{0, 1, 3, -2, 1<<32 + 2, least, least + 2, greatest} {
				follows(t, []api.Session{as(role, there)}, nil, s)
			}
			for _, other := range others() {
				follows(t, []api.Session{of(other, there)}, nil, s)
			}
			for _, other := range []uint64{nonce + 1, nonce ^ 1<<32, nonce ^ 1<<63} {
				follows(t, []api.Session{with(there, func(s *api.Session) { s.Nonce = other })}, nil, s)
			}
			follows(t, []api.Session{as(1, there), of(moved(a()), there), as(2, at(state, 79, nonce+1))}, nil, s) // each of the three, but of no one session
		}
	}
}

// The nonce and the peer play no part, if the new one is not half open.
func TestAddOfOneThatIsNotHalf(t *testing.T) {
	for _, state := range states() {
		if state == 2 {
			continue
		}
		follows(t, []api.Session{as(2, at(3, 6, 7)), as(2, at(2, 8, 7))}, nil, as(2, at(state, 5, 7)))
		follows(t, []api.Session{as(2, at(3, 6, 7)), as(2, at(2, 8, 7))}, nil, as(1, at(state, 5, 7)))
	}
}

// What is there already is told ahead of there being no room, and with a session that could go none goes.
func TestAddTellsErrAgainFirst(t *testing.T) {
	for _, many := range []int{1, 23, 24, 25, 40} {
		for _, busy := range [][]uint64{nil, {2}, upTo(many), append(upTo(many), 5, 6, 7)} {
			for _, place := range []int{0, many / 2, many - 1} {
				for _, base := range [][]api.Session{opens(many), waiting(many)} {
					refuses(t, but(base, place, at(1, 100, 5000)), busy, at(1, 101, 5000), 26)
					refuses(t, but(base, place, at(3, 5000, 100)), busy, at(3, 5000, 101), 26)
					refuses(t, but(base, place, at(3, 5000, 100)), busy, at(2, 5000, 101), 26)
					refuses(t, but(base, place, as(2, at(3, 100, 5000))), busy, as(2, at(2, 101, 5000)), 26)
				}
			}
		}
	}
}

// P23.2: as long as there is room

func TestAddOfFewerThan24(t *testing.T) {
	for many := range 24 {
		for _, busy := range [][]uint64{nil, {}, {1, 2}, upTo(30)} {
			for _, s := range []api.Session{stranger(), at(1, 0, 1000), as(2, at(2, 1000, 1000)), with(filled(), func(s *api.Session) { s.Id = 1000 }), {}} {
				follows(t, opens(many), busy, s)
				follows(t, waiting(many), busy, s)
			}
		}
	}
	for _, l := range nothings() {
		adds(t, l, nil, stranger(), []api.Session{stranger()}, api.OK)
		adds(t, l, upTo(30), at(1, 0, 1), []api.Session{at(1, 0, 1)}, api.OK)
	}
}

// P23.2: at 24 and above

// lengths answers those at which one has to go.
func lengths() []int { return []int{24, 25, 26, 48, 100} }

// Example 1: of 24 sessions, of which one is neither Waiting nor busy, that goes for a new one.
func TestAddWhereOneMayGo(t *testing.T) {
	for _, many := range lengths() {
		for place := range many {
			for _, now := range edges() {
				l := but(waiting(many), place, used(now, opens(many)[place]))
				replaces(t, l, nil, stranger(), place)
				replaces(t, changed(l, func(s *api.Session) { s.Used -= 5 }), []uint64{2000}, at(1, 0, 1000), place)
				busy := slices.Delete(upTo(many), place, place+1)
				replaces(t, but(opens(many), place, l[place]), busy, stranger(), place)
			}
		}
	}
}

// Any state but Waiting may go, and any role, Spent or not.
func TestAddWhateverMayGo(t *testing.T) {
	for _, state := range states() {
		for _, role := range []int{0, 1, 2, 3} {
			for _, seq := range []int{0, 4096} {
				l := but(waiting(24), 5, with(at(state, 500, 501), func(s *api.Session) { s.Role, s.Seq = role, seq }))
				if state == 1 {
					refuses(t, l, nil, stranger(), 27)
					continue
				}
				replaces(t, l, nil, stranger(), 5)
				replaces(t, l, nil, at(1, 0, 1000), 5)
				refuses(t, l, []uint64{500}, stranger(), 27)
			}
		}
	}
}

// Who was used least goes, of two the first, whatever lies between their times.
func TestAddWithoutTheOneUsedLeast(t *testing.T) {
	for _, x := range edges() {
		for _, y := range edges() {
			for _, places := range [][2]int{{0, 1}, {0, 23}, {5, 9}, {22, 23}} {
				goes := places[0]
				if y < x {
					goes = places[1]
				}
				l := opens(24)
				l[places[0]].Used, l[places[1]].Used = x, y
				busy := slices.DeleteFunc(upTo(24), func(id uint64) bool { return id == uint64(places[0]+1) || id == uint64(places[1]+1) })
				replaces(t, l, busy, stranger(), goes)
				w := waiting(24)
				w[places[0]], w[places[1]] = l[places[0]], l[places[1]]
				replaces(t, w, nil, stranger(), goes)
			}
		}
	}
}

func TestAddOfSeveralUsedLeastTheFirst(t *testing.T) {
	for _, many := range lengths() {
		for _, now := range edges() {
			l := changed(opens(many), func(s *api.Session) { s.Used = now })
			for from := range many {
				replaces(t, l, upTo(from), stranger(), from)
				replaces(t, but(l, 0, waiting(many)[:from]...), nil, stranger(), from)
			}
		}
		l := opens(many)
		l[3].Used, l[7].Used, l[many-1].Used = -9, -9, -9
		replaces(t, l, nil, stranger(), 3)
		replaces(t, l, []uint64{4}, stranger(), 7)
		replaces(t, l, []uint64{8, 4}, stranger(), many-1)
		replaces(t, l, []uint64{8, uint64(many), 4}, stranger(), 0)
		l[7].State = 1
		replaces(t, l, []uint64{4}, stranger(), many-1)
	}
}

// Each of the edges is used least once, wherever it stands, and those above it stay.
func TestAddOfTimesInAnyOrder(t *testing.T) {
	times := edges()
	for turn := range len(times) {
		l := waiting(24)
		for i := range times {
			l[3+i] = used(times[(i+turn)%len(times)], opens(24)[3+i])
		}
		want := 3 + (len(times)-turn)%len(times)
		replaces(t, l, nil, stranger(), want)
		slices.Reverse(l)
		replaces(t, l, nil, stranger(), 23-want)
	}
}

// What waits stays, however long ago it was used, and whatever its Id.
func TestAddKeepsWhatWaits(t *testing.T) {
	for _, many := range lengths() {
		for place := range many {
			l := opens(many)
			l[place].State, l[place].Used = 1, least
			goes := 0
			if place == 0 {
				goes = 1
			}
			replaces(t, l, nil, stranger(), goes)
			l[place].Id = 0
			replaces(t, l, []uint64{1000000}, stranger(), goes)
		}
	}
}

func TestAddKeepsWhatIsBusy(t *testing.T) {
	for _, many := range lengths() {
		for place := range many {
			l := opens(many)
			l[place].Used = least
			replaces(t, l, nil, stranger(), place)
			goes := 0
			if place == 0 {
				goes = 1
			}
			id := uint64(place + 1)
			for _, busy := range [][]uint64{{id}, {id, id}, {5000, id}, {id, 5000}, {0, id, 1 << 63}} {
				replaces(t, l, busy, stranger(), goes)
			}
			for _, busy := range [][]uint64{{}, make([]uint64, 0, 9), upTo(many)[:0], {0}, {5000}, {id ^ 1<<32}, {id ^ 1<<63}, {5000, 0, math.MaxUint64}, upTo(many)[place:place]} {
				replaces(t, l, busy, stranger(), place)
			}
		}
	}
}

// An Id of 0 in busy is one like any other, and so is one that several have.
func TestAddWhereIdsAreBusy(t *testing.T) {
	l := opens(24)
	l[4].Id, l[4].Used = 0, 3
	l[6].Used = 4
	replaces(t, l, nil, stranger(), 4)
	replaces(t, l, []uint64{5}, stranger(), 4)
	replaces(t, l, []uint64{0}, stranger(), 6)
	replaces(t, l, []uint64{9, 0, 7}, stranger(), 0)
	same := changed(opens(24), func(s *api.Session) { s.Id = 70 })
	refuses(t, same, []uint64{70}, stranger(), 27)
	same[20].Id = 71
	replaces(t, same, []uint64{70}, stranger(), 20)
	replaces(t, same, []uint64{71}, stranger(), 0)
	zeros := changed(opens(24), func(s *api.Session) { s.Id = 0 })
	refuses(t, zeros, []uint64{0}, at(3, 0, 0), 27)
	replaces(t, zeros, []uint64{1}, at(3, 0, 0), 0)
	nonces := changed(opens(24), func(s *api.Session) { s.Nonce += 500 })
	replaces(t, nonces, []uint64{501, 502, 503}, stranger(), 0) // a nonce is no Id
}

// What the new one is plays no part in who goes: it never does itself.
func TestAddOfANewOneThatIsOldOrBusy(t *testing.T) {
	for _, many := range lengths() {
		for _, now := range edges() {
			replaces(t, opens(many), []uint64{1000}, used(now, stranger()), 0)
			refuses(t, opens(many), upTo(many), used(now, stranger()), 27)
		}
		replaces(t, opens(many), nil, at(1, 0, 1000), 0)
		refuses(t, opens(many), upTo(many), at(1, 0, 1000), 27)
		refuses(t, waiting(many), nil, at(1, 0, 1000), 27)
	}
}

// None may go: ErrFull, and the list as it is.
func TestAddWhereNoneMayGo(t *testing.T) {
	for _, many := range lengths() {
		mixed := opens(many)
		var busy []uint64
		for i := range mixed {
			mixed[i].Used = -i
			if i%3 == 0 {
				mixed[i].State = 1
			} else {
				busy = append(busy, mixed[i].Id)
			}
		}
		for _, s := range []api.Session{stranger(), at(1, 0, 1000), as(2, at(2, 1000, 1000)), {}} {
			refuses(t, waiting(many), nil, s, 27)
			refuses(t, waiting(many), []uint64{}, s, 27)
			refuses(t, waiting(many), upTo(many), s, 27)
			refuses(t, opens(many), upTo(many), s, 27)
			refuses(t, opens(many), append([]uint64{0, 5000}, upTo(many)...), s, 27)
			refuses(t, mixed, busy, s, 27)
			slices.Reverse(busy)
			refuses(t, mixed, busy, s, 27)
			replaces(t, mixed, busy[1:], s, int(busy[0])-1)
		}
	}
}

// P23.2: all of it

func TestAddToAllShortLists(t *testing.T) {
	met := map[api.Errno]int{}
	for _, l := range lists(few(), 2) {
		for _, s := range append(some(), few()...) {
			want, e := wantAdd(l, nil, s)
			adds(t, l, nil, s, want, e)
			met[e]++
		}
	}
	if met[api.OK] < 5000 || met[api.ErrAgain] < 3000 || len(met) != 2 {
		t.Errorf("%v", met)
	}
}

func TestAddToLongLists(t *testing.T) {
	met := map[api.Errno]int{}
	for seed := range uint64(20000) {
		draw := rows(seed)
		l := drawn(draw, 18+draw(12))
		var busy []uint64
		for range draw(200) {
			busy = append(busy, uint64(draw(45)))
		}
		s := drawnOne(draw)
		s.Id, s.Nonce = uint64(draw(200)), uint64(draw(200))
		want, e := wantAdd(l, busy, s)
		adds(t, l, busy, s, want, e)
		met[e]++
	}
	if met[api.OK] < 5000 || met[api.ErrAgain] < 1000 || met[api.ErrFull] < 1000 || len(met) != 3 {
		t.Errorf("%v", met)
	}
}

// P23.3

// noPlaces answers numbers that are places of no list of so many.
func noPlaces(many int) []int {
	return []int{-1, -2, -many, -many - 1, many, many + 1, 2 * many, 1<<32 + many, 1 << 32, -1 << 32, 1<<32 - 1, least, least + 1, greatest - 1, greatest}
}

func TestPutAndDropAtAPlace(t *testing.T) {
	p, q, r := at(3, 1, 1), at(1, 2, 2), at(2, 3, 3)
	for _, s := range append(various(filled()), stranger(), p, api.Session{}) {
		for i, want := range [][]api.Session{{s, q, r}, {p, s, r}, {p, q, s}} {
			is(t, fmt.Sprint("Put at ", i), Put([]api.Session{p, q, r}, i, s), want)
		}
		is(t, "Put at 0", Put([]api.Session{p}, 0, s), []api.Session{s})
	}
	for i, want := range [][]api.Session{{q, r}, {p, r}, {p, q}} {
		is(t, fmt.Sprint("Drop at ", i), Drop([]api.Session{p, q, r}, i), want)
	}
	is(t, "Drop at 0", Drop([]api.Session{p}, 0), nil)
}

func TestPutAndDropAtNoPlace(t *testing.T) {
	for _, many := range []int{1, 2, 3, 23, 24, 25, 100} {
		for _, l := range [][]api.Session{opens(many), waiting(many), drawn(rows(9), many)} {
			for _, i := range noPlaces(many) {
				if i >= 0 && i < many {
					t.Fatalf("the test is at odds with itself: %d of %d", i, many)
				}
				is(t, fmt.Sprint("Put at ", i), Put(l, i, stranger()), l)
				is(t, fmt.Sprint("Drop at ", i), Drop(l, i), l)
			}
		}
	}
}

func TestPutDropAndCloseOfNoList(t *testing.T) {
	for _, l := range nothings() {
		for _, i := range append(noPlaces(1), 0) {
			is(t, "Put", Put(l, i, stranger()), nil)
			is(t, "Drop", Drop(l, i), nil)
		}
		for _, name := range []string{"", "n", "a", "new"} {
			is(t, "Close", Close(l, name), nil)
		}
	}
}

func TestPutAndDropAtAllPlaces(t *testing.T) {
	for _, many := range []int{1, 2, 3, 23, 24, 25, 100} {
		for _, l := range [][]api.Session{opens(many), waiting(many), drawn(rows(9), many)} {
			for i := range many {
				put := Put(l, i, stranger())
				is(t, fmt.Sprint("Put at ", i), put, wantPut(l, i, stranger()))
				is(t, fmt.Sprint("Put back at ", i), Put(put, i, l[i]), l)
				is(t, fmt.Sprint("Drop at ", i), Drop(l, i), wantDrop(l, i))
			}
		}
	}
}

// Put and Drop ask nothing of a session: one may be twice in a list, and none is busy.
func TestPutOfOneThatIsThere(t *testing.T) {
	for i := range 3 {
		is(t, "Put", Put(opens(3), i, opens(3)[0]), but(opens(3), i, opens(3)[0]))
		is(t, "Put", Put(waiting(3), i, waiting(3)[2]), but(waiting(3), i, waiting(3)[2]))
	}
}

func TestCloseOfNames(t *testing.T) {
	b := named(a(), "b")
	mixed := []api.Session{at(3, 1, 1), of(b, at(3, 2, 2)), at(1, 3, 3), of(moved(a()), at(2, 4, 4)), of(renewed(b), at(1, 5, 5)), of(renewed(a()), at(0, 6, 6)), {}}
	for _, x := range []struct {
		name string
		want []int
	}{
		{"a", []int{1, 4, 6}}, {"b", []int{0, 2, 3, 5, 6}}, {"", []int{0, 1, 2, 3, 4, 5}}, {"c", []int{0, 1, 2, 3, 4, 5, 6}},
		{"A", []int{0, 1, 2, 3, 4, 5, 6}}, {"ab", []int{0, 1, 2, 3, 4, 5, 6}}, {"a\x00", []int{0, 1, 2, 3, 4, 5, 6}}, {" a", []int{0, 1, 2, 3, 4, 5, 6}},
	} {
		var want []api.Session
		for _, i := range x.want {
			want = append(want, mixed[i])
		}
		is(t, fmt.Sprintf("Close of %q", x.name), Close(mixed, x.name), want)
	}
}

// All of one name go, in whatever state, role and of whatever identifier; what has another name stays, of the same identifier too.
func TestCloseOfAllOfANameAndOfNone(t *testing.T) {
	for _, name := range []string{"", "a", "node-1", "abcdefghijklmnop", "No name!", strings.Repeat("x", 1000)} {
		for _, state := range states() {
			for _, role := range []int{0, 1, 2, 3} {
				s := as(role, of(named(a(), name), at(state, 5, 6)))
				for _, x := range append(various(s), of(moved(s.Peer), s), with(s, func(s *api.Session) { s.Seq = 4096 })) {
					is(t, "Close", Close([]api.Session{x}, name), nil)
					is(t, "Close", Close([]api.Session{x, x, x}, name), nil)
					is(t, "Close", Close([]api.Session{x}, name+"x"), []api.Session{x})
					is(t, "Close", Close([]api.Session{x, x}, "x"+name), []api.Session{x, x})
				}
			}
		}
	}
	for _, many := range []int{1, 23, 24, 25, 100} {
		is(t, "Close", Close(opens(many), "n"), nil)
		is(t, "Close", Close(waiting(many), "n"), nil)
		is(t, "Close", Close(opens(many), "new"), opens(many))
		for i := range many {
			is(t, "Close", Close(but(opens(many), i, stranger()), "new"), wantDrop(opens(many), i))
			is(t, "Close", Close(but(opens(many), i, stranger()), "n"), []api.Session{stranger()})
		}
	}
}

func TestCloseOfAllShortAndSomeLongLists(t *testing.T) {
	all := lists(few(), 3)
	for seed := range uint64(1000) {
		draw := rows(seed)
		all = append(all, drawn(draw, draw(50)))
	}
	for _, l := range all {
		for _, name := range []string{"", "a", "b", "c"} {
			is(t, "Close of "+name, Close(l, name), wantClose(l, name))
		}
	}
}

// P23.4

// stays asks what follows, of one Add: never more than there were, and 24; what waits or is busy is there, and what is there stands in its order, with s behind.
func stays(t *testing.T, l []api.Session, busy []uint64, s api.Session) []api.Session {
	t.Helper()
	k, e := Add(l, busy, s)
	if len(k) > max(24, len(l)) {
		t.Fatalf("%d sessions of %d", len(k), len(l))
	}
	held := func(x api.Session) bool { return x.State == 1 || slices.Contains(busy, x.Id) }
	was := slices.Clone(k)
	if e == api.OK {
		if was[len(was)-1] != s {
			t.Fatalf("the last one of %s is another", show(k))
		}
		was = was[:len(was)-1]
	}
	gone := 0
	for _, x := range l {
		if len(was) > 0 && was[0] == x {
			was = was[1:]
			continue
		}
		if gone++; held(x) || gone > 1 || e != api.OK || len(l) < 24 {
			t.Fatalf("behind %d, of %s\ngone is %s", e, show(l), show([]api.Session{x}))
		}
	}
	if len(was) != 0 {
		t.Fatalf("of %s\nthere came %s", show(l), show(was))
	}
	return k
}

func TestManyAddsInARow(t *testing.T) {
	for seed := range uint64(60) {
		draw := rows(seed)
		var l []api.Session
		full := 0
		for step := range 400 {
			var busy []uint64
			for range draw(12) {
				if len(l) > 0 {
					busy = append(busy, l[draw(len(l))].Id)
				}
			}
			s := drawnOne(draw)
			s.Id, s.Nonce = uint64(1000+step), uint64(1000+step)
			if s.State == 1 && draw(3) > 0 {
				s.State = 3
			}
			l = stays(t, l, busy, s)
			switch draw(20) {
			case 0:
				l = Drop(l, draw(len(l)+1))
			case 1:
				l = Put(l, draw(len(l)+1), drawnOne(draw))
			case 2:
				l = Close(l, []string{"b", "", "c"}[draw(3)])
			}
			if len(l) > 24 {
				t.Fatalf("%d sessions", len(l))
			}
			if len(l) == 24 {
				full++
			}
		}
		if full < 50 {
			t.Errorf("row %d comes to 24 only %d times", seed, full)
		}
	}
}

func TestWhatFollowsOfAnyList(t *testing.T) {
	for seed := range uint64(5000) {
		draw := rows(seed)
		l := drawn(draw, draw(50))
		var busy []uint64
		for range draw(60) {
			busy = append(busy, uint64(draw(45)))
		}
		s := drawnOne(draw)
		s.Id, s.Nonce = uint64(draw(500)), uint64(draw(500))
		k := stays(t, l, busy, s)
		stays(t, k, busy, s)
		for _, shorter := range [][]api.Session{Drop(l, draw(60)), Close(l, "a"), Put(l, draw(60), s)} {
			if len(shorter) > len(l) {
				t.Fatalf("%d sessions of %d", len(shorter), len(l))
			}
		}
	}
}

// One that was added is found from then on, and not added again.
func TestWhatWasAddedIsThere(t *testing.T) {
	for _, base := range [][]api.Session{nil, opens(3), opens(23), opens(24), waiting(23)} {
		k, e := Add(base, nil, at(1, 0, 1000))
		if e != api.OK || Waits(k, 1000) != len(k)-1 || Asks(k, a()) != len(k)-1 || For(k, a()) != -1 {
			t.Errorf("%d: one that waits: %s", e, show(k))
		}
		refuses(t, k, nil, at(1, 0, 1000), 26)
		k, e = Add(base, nil, as(2, at(2, 1000, 1001)))
		if e != api.OK || ById(k, 1000) != len(k)-1 || Asks(k, a()) != -1 || For(k, a()) != -1 {
			t.Errorf("%d: one that is half open: %s", e, show(k))
		}
		refuses(t, k, nil, as(2, at(2, 1002, 1001)), 26)
		k = Put(k, len(k)-1, as(2, at(3, 1000, 1001)))
		if For(k, a()) != len(k)-1 {
			t.Errorf("one that is open: %s", show(k))
		}
		refuses(t, k, nil, as(2, at(2, 1002, 1001)), 26)
		refuses(t, k, nil, at(3, 1000, 1003), 26)
		k = Close(k, "a")
		if ById(k, 1000) != -1 || For(k, a()) != -1 {
			t.Errorf("one that was closed: %s", show(k))
		}
	}
}

// What is handed in, and out

// lures answers sessions that a list has behind its end: all that a call could look for, each of them with a mark.
func lures() []api.Session {
	list := append(opens(30), waiting(30)...)
	for _, s := range few() {
		list = append(list, used(least, s), as(2, s))
	}
	return changed(list, func(s *api.Session) { s.Peer.Tag = "lure" })
}

// A bed is a list within memory that has other things around it, and how that memory was.
type bed[T comparable] struct{ list, memory, was []T }

// laid answers a list between others.
func laid[T comparable](list, ahead, behind []T) bed[T] {
	memory := slices.Concat(ahead, list, behind)
	memory = memory[:len(memory):len(memory)]
	return bed[T]{memory[len(ahead) : len(ahead)+len(list)], memory, slices.Clone(memory)}
}

// same asks that nothing of the memory was changed.
func (b bed[T]) same(t *testing.T, what string) {
	t.Helper()
	if !slices.Equal(b.memory, b.was) {
		t.Fatalf("%s changed what was handed in, or what lies around it", what)
	}
}

// spoil writes other sessions all over a list and its spare room.
func spoil(l []api.Session) {
	l = l[:cap(l)]
	for i := range l {
		l[i] = api.Session{Id: 77, Nonce: 78, State: 79, Send: "spoilt"}
	}
}

// alone asks that what a call answers is new memory, with its spare room, in which nothing of what lay behind the list is.
func alone(t *testing.T, what string, l []api.Session, busy []uint64, call func(l []api.Session, busy []uint64) []api.Session) {
	t.Helper()
	sessions := laid(l, lures(), lures())
	ids := laid(busy, upTo(60), upTo(60))
	want := call(slices.Clone(l), slices.Clone(busy))
	one, two := call(sessions.list, ids.list), call(sessions.list, ids.list)
	is(t, what+", of a list with others behind it", one, want)
	for _, s := range one[:cap(one)] {
		if s.Peer.Tag == "lure" {
			t.Fatalf("%s hands out what lies behind the list", what)
		}
	}
	sessions.same(t, what)
	ids.same(t, what)
	spoil(one)
	sessions.same(t, what+", and then its answer,")
	is(t, what+", once more", two, want)
	spoil(sessions.memory)
	is(t, what+", once the list is spoilt", two, want)
	clear(ids.memory)
	is(t, what+", once busy is spoilt", two, want)
}

func TestMemory(t *testing.T) {
	all := append(nothings(), lists(few()[3:9], 2)...)
	for _, many := range []int{5, 22, 23, 24, 25, 30} {
		all = append(all, opens(many), waiting(many), drawn(rows(uint64(many)), many))
	}
	for _, l := range all {
		for _, busy := range [][]uint64{nil, {}, {1}, upTo(30), {7, 0}} {
			for _, s := range []api.Session{stranger(), at(1, 0, 1000), as(2, at(2, 6, 5)), at(3, 1, 1)} {
				alone(t, "Add", l, busy, func(l []api.Session, busy []uint64) []api.Session {
					k, _ := Add(l, busy, s)
					return k
				})
			}
		}
		for _, i := range append(noPlaces(len(l)), 0, len(l)/2, len(l)-1) {
			alone(t, "Put", l, nil, func(l []api.Session, _ []uint64) []api.Session { return Put(l, i, stranger()) })
			alone(t, "Drop", l, nil, func(l []api.Session, _ []uint64) []api.Session { return Drop(l, i) })
		}
		for _, name := range []string{"", "a", "n", "c"} {
			alone(t, "Close", l, nil, func(l []api.Session, _ []uint64) []api.Session { return Close(l, name) })
		}
	}
}

// What is found lies within the list, and asking changes nothing.
func TestPlacesWithOthersAroundTheList(t *testing.T) {
	for _, l := range append(nothings(), lists(few(), 2)...) {
		b := laid(l, lures(), lures())
		allPlaces(t, b.list, []uint64{0, 1, 5, 6, 30}, []api.Entry{a(), moved(a()), named(a(), "n"), {}})
		b.same(t, "one of the four")
	}
}

// What lies behind the end of busy keeps nobody.
func TestAddLooksAtNothingBehindBusy(t *testing.T) {
	replaces(t, opens(24), upTo(24)[:0], stranger(), 0)
	replaces(t, opens(24), upTo(24)[:5], stranger(), 5)
	replaces(t, opens(24), upTo(24)[5:9], stranger(), 0)
}

// What a call answers hangs on what it is handed alone.
func TestNothingIsKept(t *testing.T) {
	for range 3 {
		follows(t, nil, nil, stranger())
		replaces(t, opens(24), []uint64{1}, stranger(), 1)
		replaces(t, opens(24), nil, stranger(), 0)
		refuses(t, opens(24), upTo(24), stranger(), 27)
		refuses(t, []api.Session{stranger()}, nil, stranger(), 26)
		finds(t, "ById", opens(3), ById(opens(3), 2), 1)
		finds(t, "ById", nil, ById(nil, 2), -1)
	}
}

func FuzzAdd(f *testing.F) {
	f.Add(uint64(1), 24, 5, uint64(3), uint64(3), 2, 2, 0)
	f.Add(uint64(2), 23, 0, uint64(0), uint64(0), 1, 1, least)
	f.Add(uint64(3), 25, 60, uint64(1000), uint64(1000), 3, 1, greatest)
	f.Add(uint64(4), 0, 0, uint64(0), uint64(0), 0, 0, -1)
	f.Fuzz(func(t *testing.T, seed uint64, many, much int, id, nonce uint64, state, role, now int) {
		draw := rows(seed)
		l := drawn(draw, many&63)
		if len(l) > 0 {
			l[draw(len(l))].Used = now
		}
		var busy []uint64
		for range much & 127 {
			busy = append(busy, uint64(draw(45)))
		}
		s := with(drawnOne(draw), func(s *api.Session) { s.Id, s.Nonce, s.State, s.Role = id, nonce, state, role })
		want, e := wantAdd(l, busy, s)
		adds(t, l, busy, s, want, e)
		k := stays(t, l, busy, s)
		allPlaces(t, k, []uint64{0, id, nonce}, []api.Entry{s.Peer, a(), renewed(a())})
		for _, i := range []int{many, now, draw(70)} {
			is(t, "Put", Put(k, i, s), wantPut(k, i, s))
			is(t, "Drop", Drop(k, i), wantDrop(k, i))
		}
		is(t, "Close", Close(k, s.Peer.Name), wantClose(k, s.Peer.Name))
	})
}
