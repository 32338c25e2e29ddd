package window

import (
	"math"
	"slices"
	"testing"

	"carcanet/api"
)

// fresh asks that Fresh tells this.
func fresh(t *testing.T, w api.Window, n int, want api.Errno) {
	t.Helper()
	if got := Fresh(w, n); got != want {
		t.Errorf("Fresh of %+v, %d: %d, wanted %d", w, n, got, want)
	}
}

// marked asks that Mark answers this, and what is handed in stays as it was.
func marked(t *testing.T, w api.Window, n int, want api.Window) {
	t.Helper()
	kept := w
	if got := Mark(w, n); got != want || w != kept {
		t.Errorf("Mark of %+v, %d: %+v, wanted %+v", kept, n, got, want)
	}
}

// seen asks that Seen tells this.
func seen(t *testing.T, w api.Window, n int, want bool) {
	t.Helper()
	if got := Seen(w, n); got != want {
		t.Errorf("Seen of %+v, %d: %t", w, n, got)
	}
}

// refused asks that a number is not Fresh with this error, and leaves the window as it is.
func refused(t *testing.T, w api.Window, n int, want api.Errno) {
	t.Helper()
	fresh(t, w, n, want)
	marked(t, w, n, w)
	seen(t, w, n, want == api.ErrReplay)
}

func TestWidth(t *testing.T) {
	if Width != 128 {
		t.Errorf("%d", Width)
	}
}

// P20.1

// known answers what Fresh tells, by hand: the places beside those that a window has and beside where its halves meet, each with its bit set and not set.
func known() []struct {
	w    api.Window
	n    int
	want api.Errno
} {
	return []struct {
		w    api.Window
		n    int
		want api.Errno
	}{
		{of(0, 0, 0), 1, api.OK}, {of(0, all, all), 1, api.OK}, {of(0, 0, 0), most, api.OK}, {of(0, all, all), most, api.OK},
		{of(0, 0, 0), 0, api.ErrArg}, {of(0, 1, 0), 0, api.ErrArg}, {of(0, 0, 0), -1, api.ErrArg}, {of(0, 0, 0), most + 1, api.ErrArg},
		{of(5, 0, 0), math.MinInt, api.ErrArg}, {of(5, 0, 0), math.MaxInt, api.ErrArg}, {of(5, all, all), 0, api.ErrArg}, {of(5, all, all), -1, api.ErrArg},
		{of(-1, 0, 0), 1, api.ErrArg}, {of(most+1, 0, 0), 1, api.ErrArg}, {of(math.MinInt, 0, 0), 1, api.ErrArg}, {of(math.MaxInt, 0, 0), 1, api.ErrArg},
		{of(3, 5, 0), 1, api.ErrReplay}, {of(3, 5, 0), 2, api.OK}, {of(3, 5, 0), 3, api.ErrReplay}, {of(3, 5, 0), 4, api.OK}, {of(3, 5, 0), most, api.OK},
		{of(1, 1, 0), 1, api.ErrReplay}, {of(1, 0, 0), 1, api.OK}, {of(1, all-1, all), 1, api.OK},
		{of(200, all, all), 201, api.OK}, {of(200, 0, 0), 201, api.OK}, {of(200, all, all), 328, api.OK}, {of(200, all, all), 329, api.OK},
		{of(200, 1, 0), 200, api.ErrReplay}, {of(200, all-1, all), 200, api.OK},
		{of(200, 2, 0), 199, api.ErrReplay}, {of(200, all-2, all), 199, api.OK},
		{of(200, 1<<63, 0), 137, api.ErrReplay}, {of(200, all>>1, all), 137, api.OK},
		{of(200, 0, 1), 136, api.ErrReplay}, {of(200, all, all-1), 136, api.OK},
		{of(200, 0, 1<<63), 73, api.ErrReplay}, {of(200, all, all>>1), 73, api.OK},
		{of(200, 0, 0), 72, api.ErrOld}, {of(200, all, all), 72, api.ErrOld}, {of(200, 1, 0), 72, api.ErrOld}, {of(200, 0, 1<<63), 72, api.ErrOld},
		{of(200, 0, 0), 71, api.ErrOld}, {of(200, all, all), 71, api.ErrOld}, {of(200, 2, 0), 71, api.ErrOld}, {of(200, 0, 0), 1, api.ErrOld},
		{of(128, 0, 1<<63), 1, api.ErrReplay}, {of(128, 0, 0), 1, api.OK}, {of(129, 0, 1<<63), 1, api.ErrOld}, {of(129, 0, 0), 1, api.ErrOld},
		{of(most, 1, 0), most, api.ErrReplay}, {of(most, 0, 0), most, api.OK}, {of(most, 0, 0), most + 1, api.ErrArg}, {of(most, all, all), most - 128, api.ErrOld}, {of(most, 0, 0), 1, api.ErrOld},
		{of(most-1, all, all), most, api.OK}, {of(most-1, all, all), most + 1, api.ErrArg},
	}
}

func TestFreshOfKnownWindows(t *testing.T) {
	for _, x := range known() {
		fresh(t, x.w, x.n, x.want)
		if got := wantFresh(x.w, x.n); got != x.want {
			t.Errorf("the test is at odds with itself: %+v, %d: %d, wanted %d", x.w, x.n, got, x.want)
		}
	}
}

func TestFreshOfAllEdges(t *testing.T) {
	met := map[api.Errno]int{}
	for _, w := range windows() {
		for _, n := range numbers(w.Top) {
			want := wantFresh(w, n)
			fresh(t, w, n, want)
			met[want]++
		}
	}
	if met[api.OK] < 10000 || met[api.ErrOld] < 10000 || met[api.ErrReplay] < 10000 || met[api.ErrArg] != 0 {
		t.Errorf("%v", met)
	}
}

// Each place is told by its own bit, and by no other one.
func TestFreshOfEachPlace(t *testing.T) {
	for _, top := range []int{128, 129, 200, 1000, most - 1, most} {
		for k := range 128 {
			for other := range 128 {
				one, none := api.OK, api.ErrReplay
				if other == k {
					one, none = api.ErrReplay, api.OK
				}
				fresh(t, at(top, k), top-other, one)
				fresh(t, allBut(top, k), top-other, none)
			}
		}
		for below := 128; below < 1000 && below < top; below++ {
			for _, w := range []api.Window{of(top, 0, 0), of(top, all, all), at(top, below%128), allBut(top, below%128)} {
				fresh(t, w, top-below, api.ErrOld)
			}
		}
		for up := 1; up < 1000 && top+up <= most; up++ {
			for _, w := range []api.Window{of(top, 0, 0), of(top, all, all), at(top, up%128), allBut(top, up%128)} {
				fresh(t, w, top+up, api.OK)
			}
		}
	}
}

// Of a Top below 128 no number stands where the places below 1 do.
func TestFreshOfLowTops(t *testing.T) {
	for top := range 130 {
		for n := -130; n < 300; n++ {
			for _, w := range []api.Window{of(top, 0, 0), of(top, all, all), of(top, all, 0), of(top, 0, all)} {
				fresh(t, w, n, wantFresh(w, n))
			}
			if n < 1 {
				fresh(t, of(top, all, all), n, api.ErrArg)
			}
		}
	}
}

func TestFreshOfWhatMayNotBe(t *testing.T) {
	for _, n := range wrongNumbers() {
		for _, w := range append(windows(), wrongWindows()...) {
			fresh(t, w, n, api.ErrArg)
		}
	}
	for _, w := range wrongWindows() {
		for _, n := range append(numbers(w.Top), numbers(1000)...) {
			fresh(t, w, n, api.ErrArg)
		}
	}
}

// ErrArg is told ahead of all else, of a number above Top, of one that is old, and of one whose bit is set; ErrOld ahead of ErrReplay, wherever a number's bit would be that is 128 or more below Top.
func TestWhichErrorOfFreshComesFirst(t *testing.T) {
	for _, bits := range patterns() {
		low, high := bits[0], bits[1]
		fresh(t, of(most, low, high), most+1, api.ErrArg)
		fresh(t, of(most+1, low, high), most+1, api.ErrArg)
		fresh(t, of(most+1, low, high), most, api.ErrArg)
		fresh(t, of(most+1, low, high), 1, api.ErrArg)
		fresh(t, of(most+2, low, high), most+1, api.ErrArg)
		fresh(t, of(most+2, low, high), most+3, api.ErrArg)
		fresh(t, of(-1, low, high), 1, api.ErrArg)
		fresh(t, of(-1, low, high), -1, api.ErrArg)
		fresh(t, of(-1, low, high), -2, api.ErrArg)
		fresh(t, of(-1, low, high), 0, api.ErrArg)
		fresh(t, of(0, low, high), 0, api.ErrArg)
		fresh(t, of(127, low, high), 0, api.ErrArg)
		fresh(t, of(128, low, high), 0, api.ErrArg)
		fresh(t, of(1000, low, high), 0, api.ErrArg)
		fresh(t, of(math.MaxInt, low, high), math.MinInt, api.ErrArg)
		fresh(t, of(math.MinInt, low, high), math.MaxInt, api.ErrArg)
		fresh(t, of(math.MinInt, low, high), math.MinInt, api.ErrArg)
		fresh(t, of(math.MaxInt, low, high), math.MaxInt, api.ErrArg)
		fresh(t, of(math.MaxInt, low, high), 1, api.ErrArg)
		fresh(t, of(math.MinInt, low, high), 1, api.ErrArg)
		for _, below := range []int{128, 129, 191, 192, 255, 256, 257, 384, 512, 999} {
			fresh(t, of(1000, low, high), 1000-below, api.ErrOld)
			fresh(t, of(most, low, high), most-below, api.ErrOld)
		}
	}
}

// P20.2

// The windows here are written by hand. Behind 1 and 3 stands the chapter's example.
func TestMarkOfKnownWindows(t *testing.T) {
	behind := Mark(Mark(api.Window{}, 1), 3)
	if behind != of(3, 5, 0) {
		t.Errorf("behind 1 and 3: %+v", behind)
	}
	for _, x := range []struct {
		w    api.Window
		n    int
		want api.Window
	}{
		{of(0, 0, 0), 1, of(1, 1, 0)}, {of(1, 1, 0), 3, of(3, 5, 0)}, {of(3, 5, 0), 2, of(3, 7, 0)}, {of(3, 5, 0), 4, of(4, 11, 0)},
		{of(0, 1, 0), 1, of(1, 3, 0)}, {of(0, 0, 0), 200, of(200, 1, 0)}, {of(0, 0, 0), most, of(most, 1, 0)}, {of(0, all, all), most, of(most, 1, 0)},
		{of(0, all, all), 1, of(1, all, all)}, {of(1, 0, 0), 1, of(1, 1, 0)}, {of(5, 0, 0), 1, of(5, 16, 0)},
		// above Top, by places beside each half's end
		{of(100, ends, ends), 101, of(101, 3, 3)},
		{of(100, ends, ends), 163, of(163, 1<<63|1, 3<<62)},
		{of(100, ends, ends), 164, of(164, 1, ends)},
		{of(100, ends, ends), 165, of(165, 1, 2)},
		{of(100, ends, ends), 227, of(227, 1, 1<<63)},
		{of(100, ends, ends), 228, of(228, 1, 0)},
		{of(100, ends, ends), 229, of(229, 1, 0)},
		{of(100, ends, ends), most, of(most, 1, 0)},
		{of(100, all, all), 101, of(101, all, all)},
		{of(100, all, all), 163, of(163, ends, all)},
		{of(100, all, all), 164, of(164, 1, all)},
		{of(100, all, all), 165, of(165, 1, all-1)},
		{of(100, all, all), 227, of(227, 1, 1<<63)},
		{of(100, all, all), 228, of(228, 1, 0)},
		{of(100, all, all), 229, of(229, 1, 0)},
		{of(100, 1<<63, 0), 101, of(101, 1, 1)}, {of(100, 0, 1<<63), 101, of(101, 1, 0)}, {of(100, 1<<63, 0), 164, of(164, 1, 1<<63)}, {of(100, 0, 1), 163, of(163, 1, 1<<63)}, {of(100, 0, 1), 164, of(164, 1, 0)}, {of(100, 0, all), 164, of(164, 1, 0)},
		{of(100, 0xf0, 0xf), 132, of(132, 0xf000000001, 0xf00000000)},
		{of(most-1, 1, 1), most, of(most, 3, 2)}, {of(most-128, ends, ends), most, of(most, 1, 0)}, {of(most-127, ends, ends), most, of(most, 1, 1<<63)},
		// below Top, and at it
		{of(200, 0, 0), 200, of(200, 1, 0)}, {of(200, 0, 0), 199, of(200, 2, 0)}, {of(200, 0, 0), 137, of(200, 1<<63, 0)}, {of(200, 0, 0), 136, of(200, 0, 1)}, {of(200, 0, 0), 73, of(200, 0, 1<<63)},
		{of(200, 1, 1), 199, of(200, 3, 1)}, {of(200, all>>1, all), 137, of(200, all, all)}, {of(200, all, all-1), 136, of(200, all, all)}, {of(200, all, all>>1), 73, of(200, all, all)},
		{of(most, 0, 0), most, of(most, 1, 0)}, {of(most, 0, 0), most - 127, of(most, 0, 1<<63)},
	} {
		marked(t, x.w, x.n, x.want)
		if got := wantMark(x.w, x.n); got != x.want {
			t.Errorf("the test is at odds with itself: %+v, %d: %+v, wanted %+v", x.w, x.n, got, x.want)
		}
	}
}

func TestMarkOfKnownNumbersThatAreNotFresh(t *testing.T) {
	for _, x := range known() {
		if x.want != api.OK {
			refused(t, x.w, x.n, x.want)
		} else if Mark(x.w, x.n) == x.w {
			t.Errorf("Mark of %+v, %d changes nothing", x.w, x.n)
		}
	}
}

func TestMarkOfAllEdges(t *testing.T) {
	for _, w := range windows() {
		for _, n := range numbers(w.Top) {
			marked(t, w, n, wantMark(w, n))
		}
	}
}

func TestMarkOfWhatIsNotFresh(t *testing.T) {
	met := map[api.Errno]int{}
	for _, w := range windows() {
		for _, n := range numbers(w.Top) {
			if e := wantFresh(w, n); e != api.OK {
				marked(t, w, n, w)
				met[e]++
			}
		}
		for _, n := range wrongNumbers() {
			marked(t, w, n, w)
		}
	}
	if met[api.ErrOld] < 10000 || met[api.ErrReplay] < 10000 {
		t.Errorf("%v", met)
	}
	for _, w := range wrongWindows() {
		for _, n := range slices.Concat(wrongNumbers(), numbers(w.Top), numbers(1000)) {
			marked(t, w, n, w)
		}
	}
}

// Each bit moves by as many places as the number lies above Top, each of those that come to 128 or above goes, and the bit 0 alone is set beside.
func TestMarkMovesEachBit(t *testing.T) {
	for _, top := range []int{0, 1, 63, 64, 127, 128, 1000, most - 300} {
		for up := 1; up <= 300; up++ {
			marked(t, of(top, 0, 0), top+up, at(top+up, 0))
			for k := range 128 {
				marked(t, at(top, k), top+up, at(top+up, 0, k+up))
			}
		}
	}
}

// The bits at the ends of both halves, each set and not set, by each number of places and by as much as can be.
func TestMarkMovesTheEndsOfBothHalves(t *testing.T) {
	for which := range 16 {
		var set []int
		for i, k := range []int{0, 63, 64, 127} {
			if which>>i&1 == 1 {
				set = append(set, k)
			}
		}
		for _, top := range []int{0, 1, 100, 128, 5000} {
			for _, up := range []int{1, 2, 62, 63, 64, 65, 66, 126, 127, 128, 129, 130, 191, 192, 193, 255, 256, 257, 65536, most - top - 1, most - top} {
				to := []int{0}
				for _, k := range set {
					to = append(to, k+up)
				}
				marked(t, at(top, set...), top+up, at(top+up, to...))
			}
		}
	}
}

// Below Top, and at it, one bit is set, and no other one changes.
func TestMarkSetsEachPlace(t *testing.T) {
	for _, top := range []int{128, 129, 200, 1000, most - 1, most} {
		for k := range 128 {
			marked(t, of(top, 0, 0), top-k, at(top, k))
			marked(t, allBut(top, k), top-k, of(top, all, all))
			marked(t, of(top, all, all), top-k, of(top, all, all))
			for other := range 128 {
				if other != k {
					marked(t, at(top, other), top-k, at(top, other, k))
					marked(t, allBut(top, other, k), top-k, allBut(top, other))
					marked(t, allBut(top, other), top-k, allBut(top, other))
				}
			}
		}
		for _, below := range []int{128, 129, 191, 192, 255, 256} {
			if below < top {
				marked(t, of(top, 0, 0), top-below, of(top, 0, 0))
			}
		}
	}
	for top := range 128 {
		for n := 1; n <= top; n++ {
			marked(t, of(top, 0, 0), n, at(top, top-n))
		}
	}
}

// P20.3

func TestSeenOfKnownWindows(t *testing.T) {
	for _, x := range known() {
		seen(t, x.w, x.n, x.want == api.ErrReplay)
		if got := wantSeen(x.w, x.n); got != (x.want == api.ErrReplay) {
			t.Errorf("the test is at odds with itself: %+v, %d: %t", x.w, x.n, got)
		}
	}
}

func TestSeenOfAllEdges(t *testing.T) {
	met := map[bool]int{}
	for _, w := range windows() {
		for _, n := range numbers(w.Top) {
			want := wantSeen(w, n)
			seen(t, w, n, want)
			met[want]++
		}
	}
	if met[true] < 10000 || met[false] < 10000 {
		t.Errorf("%v", met)
	}
}

func TestSeenOfEachPlace(t *testing.T) {
	for _, top := range []int{128, 129, 200, 1000, most - 1, most} {
		for k := range 128 {
			for other := range 128 {
				seen(t, at(top, k), top-other, other == k)
				seen(t, allBut(top, k), top-other, other != k)
			}
		}
		for _, beyond := range []int{-1000, -192, -129, -128, -127, -64, -1, 128, 129, 191, 192, 255, 256, 1000} {
			seen(t, of(top, all, all), top-beyond, false)
		}
	}
}

// A window may say more than could have been seen: below 1 there is nothing, and what lies above Top was not seen.
func TestSeenOfLowTops(t *testing.T) {
	for top := range 130 {
		for n := -130; n < 300; n++ {
			seen(t, of(top, all, all), n, n >= 1 && n <= top && top-n < 128)
			seen(t, of(top, 0, 0), n, false)
		}
	}
}

func TestSeenOfWhatMayNotBe(t *testing.T) {
	for _, n := range wrongNumbers() {
		for _, w := range append(windows(), wrongWindows()...) {
			seen(t, w, n, false)
		}
	}
	for _, w := range wrongWindows() {
		for _, n := range append(numbers(w.Top), numbers(1000)...) {
			seen(t, w, n, false)
		}
	}
	seen(t, of(most+1, all, all), most, false)
	seen(t, of(most+1, all, all), most+1, false)
	seen(t, of(-1, all, all), -1, false)
	seen(t, of(0, all, all), 0, false)
}

// P20.4

// follows asks what follows of a number that is marked: it is Seen and Fresh no more, and what was Seen ahead stays, where it lies near enough.
func follows(t *testing.T, w api.Window, n int) {
	t.Helper()
	v := Mark(w, n)
	if Fresh(w, n) == api.OK {
		refused(t, v, n, api.ErrReplay)
	}
	for below := range 130 {
		if m := w.Top - below; Seen(w, m) && v.Top-m < 128 {
			refused(t, v, m, api.ErrReplay)
		}
		if m := w.Top - below; m != n && !Seen(w, m) && Seen(v, m) {
			t.Errorf("%+v, %d: %d comes to be Seen", w, n, m)
		}
	}
}

func TestWhatFollows(t *testing.T) {
	for i, w := range windows() {
		for j, n := range numbers(w.Top) {
			if (i+j)%7 == 0 { // each window and each number, but not each pair
				follows(t, w, n)
			}
		}
	}
	for _, w := range wrongWindows() {
		follows(t, w, 1)
		follows(t, w, w.Top)
	}
}

// What was marked is Seen till a number 128 above it is marked, by one leap or number by number, and old from then on.
func TestSeenTillANumber128Above(t *testing.T) {
	for _, w := range []api.Window{{}, of(0, all, all), of(100, 0, 0), of(1000, ends, ends), of(1000, all-1, all), of(most-1000, made(1, 2)[0], 0)} {
		n := w.Top + 1
		first := Mark(w, n)
		refused(t, first, n, api.ErrReplay)
		steps := first
		for up := 1; up < 400; up++ {
			want := api.ErrReplay
			if up >= 128 {
				want = api.ErrOld
			}
			steps = Mark(steps, n+up)
			refused(t, steps, n, want)
			refused(t, Mark(first, n+up), n, want)
			if steps.Top != n+up {
				t.Errorf("%+v: the Top is not %d", steps, n+up)
			}
		}
	}
}

// A number that is marked below Top is Seen till one comes that lies 128 above it, not above Top.
func TestMarkedBelowTopIsSeenTillANumber128Above(t *testing.T) {
	for below := range 128 {
		n := 1000 - below
		w := Mark(of(1000, 0, 0), n)
		refused(t, w, n, api.ErrReplay)
		for up := 1; up <= 130; up++ {
			want := api.ErrReplay
			if below+up >= 128 {
				want = api.ErrOld
			}
			refused(t, Mark(w, 1000+up), n, want)
		}
	}
}

// history is what came, one by one, without a window.
type history struct {
	top   int
	heard map[int]bool
}

// want answers what a number tells, by what came.
func (h *history) want(n int) api.Errno {
	switch {
	case n > h.top:
		return api.OK
	case h.top-n >= 128:
		return api.ErrOld
	case h.heard[n]:
		return api.ErrReplay
	}
	return api.OK
}

// comes marks numbers in this order, each of them so often, and asks at each step what Fresh and Seen tell of all of them.
func comes(t *testing.T, order []int, often int) {
	t.Helper()
	h := &history{heard: map[int]bool{}}
	w := api.Window{}
	for _, n := range order {
		for range often {
			e := h.want(n)
			fresh(t, w, n, e)
			v := Mark(w, n)
			if e == api.OK {
				h.heard[n], h.top = true, max(h.top, n)
			} else if v != w {
				t.Errorf("%v: behind %+v, %d is not Fresh, and changes it", order, w, n)
			}
			w = v
			for _, m := range order {
				e := h.want(m)
				if Fresh(w, m) != e || Seen(w, m) != (e == api.ErrReplay) {
					t.Fatalf("%v: behind %d, %+v: Fresh of %d: %d, wanted %d", order, n, w, m, Fresh(w, m), e)
				}
			}
			if w.Top != h.top {
				t.Fatalf("%v: behind %d: %+v", order, n, w)
			}
		}
	}
}

// orders hands each order of these numbers to do.
func orders(list []int, do func([]int)) {
	var from func(int)
	from = func(k int) {
		if k == len(list) {
			do(list)
		}
		for i := k; i < len(list); i++ {
			list[k], list[i] = list[i], list[k]
			from(k + 1)
			list[k], list[i] = list[i], list[k]
		}
	}
	from(0)
}

func TestNumbersInAnyOrder(t *testing.T) {
	for _, list := range [][]int{{1, 2, 3, 4, 5, 6}, {1, 2, 64, 65, 66, 129}, {1, 63, 64, 128, 129, 130}, {5, 100, 132, 133, 134, 261}, {most, most - 1, most - 63, most - 64, most - 127, most - 128}} {
		orders(list, func(order []int) {
			comes(t, order, 1)
			comes(t, order, 2)
		})
	}
}

// Numbers up and down, in leaps, and each of them again when all have come.
func TestManyNumbers(t *testing.T) {
	var up, down, woven []int
	for n := 1; n <= 300; n++ {
		up, down, woven = append(up, n), append(down, 301-n), append(woven, n*7%307) // no number twice, and none is 0
	}
	lists := [][]int{up, down, woven}
	for seed, wide := range []uint64{3, 40, 64, 100, 128, 140, 300, 2000} {
		var list []int
		for i, x := range made(300, uint64(seed)) {
			list = append(list, 1+i*int(wide)/80+int(x%wide))
		}
		lists = append(lists, list)
	}
	for _, list := range lists {
		comes(t, list, 1)
		comes(t, list, 2)
		comes(t, slices.Concat(list, list), 1)
	}
}

// What a call answers hangs on what it is handed alone.
func TestNothingIsKept(t *testing.T) {
	for i, w := range windows() {
		Mark(w, w.Top+1)
		Fresh(w, i)
		Seen(w, w.Top)
		if Mark(of(3, 5, 0), 4) != of(4, 11, 0) || Fresh(of(3, 5, 0), 2) != api.OK || !Seen(of(3, 5, 0), 1) || Seen(api.Window{}, 1) {
			t.Fatalf("behind %+v: other answers", w)
		}
	}
}

func FuzzWhatFollows(f *testing.F) {
	for _, x := range known() {
		f.Add(x.w.Top, x.w.Low, x.w.High, x.n)
	}
	f.Fuzz(func(t *testing.T, top int, low, high uint64, n int) {
		w := of(top, low, high)
		fresh(t, w, n, wantFresh(w, n))
		marked(t, w, n, wantMark(w, n))
		seen(t, w, n, wantSeen(w, n))
		if top >= 0 && top <= most {
			follows(t, w, n)
			near := top - 140 + int(uint(n)%300)
			fresh(t, w, near, wantFresh(w, near))
			marked(t, w, near, wantMark(w, near))
			follows(t, w, near)
		}
	})
}
