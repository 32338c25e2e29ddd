package window

import (
	"encoding/binary"
	"math"
	"math/big"

	"carcanet/api"
)

const (
	most = 1 << 30        // the greatest number, and the greatest Top
	all  = math.MaxUint64 // a half whose bits are all set
	ends = 1 | 1<<63      // a half whose first and last bits are set
)

// of answers the window of this Top and these halves.
func of(top int, low, high uint64) api.Window {
	return api.Window{Top: top, Low: low, High: high}
}

// at answers the window of this Top with these bits set, of those from 0 to 127. Other ones go.
func at(top int, places ...int) api.Window {
	w := api.Window{Top: top}
	for _, k := range places {
		switch {
		case k >= 0 && k < 64:
			w.Low += 1 << k
		case k >= 64 && k < 128:
			w.High += 1 << (k - 64)
		}
	}
	return w
}

// allBut answers the window of this Top with all bits set but these.
func allBut(top int, places ...int) api.Window {
	w := at(top, places...)
	return of(top, all-w.Low, all-w.High)
}

// made answers so many halves without a plain order, the same ones for the same seed.
func made(many int, seed uint64) []uint64 {
	list := make([]uint64, many)
	state := seed*0x9e3779b97f4a7c15 + 1
	for i := range list {
		state = state*6364136223846793005 + 1442695040888963407
		list[i] = state ^ state>>29
	}
	return list
}

// tops answers those that may be, at the edges of what a window has and of what they tell.
func tops() []int {
	list := []int{0, 1, 2, 3, 62, 63, 64, 65, 66, 126, 127, 128, 129, 130, 191, 192, 193, 255, 256, 257, 1000, 65535, 65536}
	return append(list, most/2, most-129, most-128, most-127, most-65, most-64, most-63, most-2, most-1, most)
}

// wrongTops answers those that may not be: beside those that may, the least and the greatest int, and such as come among the others if they lose their highest bits, or their sign.
func wrongTops() []int {
	list := []int{-1, -2, -64, -100, -127, -128, -129, -most, -most - 1, most + 1, most + 2, most + 64, most + 127, most + 128, most + 129, 2 * most, 4 * most, 4*most + 5, 4*most + 200}
	return append(list, math.MinInt, math.MinInt+1, math.MinInt+5, math.MinInt+200, math.MaxInt, math.MaxInt-1, math.MaxInt-127, math.MinInt32, math.MaxInt32)
}

// wrongNumbers answers numbers that may not be, likewise.
func wrongNumbers() []int { return append(wrongTops(), 0) }

// patterns answers bits of the one half and of the other one, alone and together.
func patterns() [][2]uint64 {
	halves := []uint64{0, 1, 2, 3, 1 << 62, 1 << 63, ends, 1<<32 - 1, 1 << 32, 0x5555555555555555, 0xaaaaaaaaaaaaaaaa, all - 1, all >> 1, all}
	halves = append(halves, made(2, 1)...)
	var list [][2]uint64
	for _, low := range halves {
		for _, high := range halves {
			list = append(list, [2]uint64{low, high})
		}
	}
	return list
}

// windowsOf answers those of each of these Tops and each pattern.
func windowsOf(tops []int) []api.Window {
	var list []api.Window
	for _, top := range tops {
		for _, x := range patterns() {
			list = append(list, of(top, x[0], x[1]))
		}
	}
	return list
}

// windows answers those whose Top may be, also such as say more than could have been seen.
func windows() []api.Window { return windowsOf(tops()) }

// wrongWindows answers those whose Top may not be.
func wrongWindows() []api.Window { return windowsOf(wrongTops()) }

// numbers answers those that may be, around a Top and at the ends of what a number may be.
func numbers(top int) []int {
	near := []int{1, 2, 3, 63, 64, 65, 127, 128, 129, 1000, 65536, most - 128, most - 127, most - 1, most}
	for _, up := range []int{-65536, -1000, -257, -256, -255, -193, -192, -191, -130, -129, -128, -127, -126, -66, -65, -64, -63, -62, -2, -1, 0, 1, 2, 62, 63, 64, 65, 66, 126, 127, 128, 129, 130, 191, 192, 193, 255, 256, 257, 1000, 65536} {
		near = append(near, top+up)
	}
	var list []int
	for _, n := range near {
		if n >= 1 && n <= most {
			list = append(list, n)
		}
	}
	return list
}

// whole answers a window's bits as one number.
func whole(w api.Window) *big.Int {
	var b [16]byte
	binary.BigEndian.PutUint64(b[:8], w.High)
	binary.BigEndian.PutUint64(b[8:], w.Low)
	return new(big.Int).SetBytes(b[:])
}

// cut answers the window of this Top and these bits.
func cut(top int, bits *big.Int) api.Window {
	var b [16]byte
	bits.FillBytes(b[:])
	return of(top, binary.BigEndian.Uint64(b[8:]), binary.BigEndian.Uint64(b[:8]))
}

// wantFresh answers Fresh by the chapter's words.
func wantFresh(w api.Window, n int) api.Errno {
	if n < 1 || n > most || w.Top < 0 || w.Top > most {
		return api.ErrArg
	}
	if n > w.Top {
		return api.OK
	}
	if w.Top-n >= 128 {
		return api.ErrOld
	}
	if whole(w).Bit(w.Top-n) == 1 {
		return api.ErrReplay
	}
	return api.OK
}

// wantMark answers Mark by the chapter's words, bit by bit.
func wantMark(w api.Window, n int) api.Window {
	if wantFresh(w, n) != api.OK {
		return w
	}
	old := whole(w)
	if n <= w.Top {
		return cut(w.Top, old.SetBit(old, w.Top-n, 1))
	}
	bits := new(big.Int)
	for k := range 128 {
		if to := k + n - w.Top; to < 128 && old.Bit(k) == 1 {
			bits.SetBit(bits, to, 1)
		}
	}
	return cut(n, bits.SetBit(bits, 0, 1))
}

// wantSeen answers Seen by the chapter's words.
func wantSeen(w api.Window, n int) bool {
	if n < 1 || n > most || w.Top < 0 || w.Top > most {
		return false
	}
	return n <= w.Top && w.Top-n < 128 && whole(w).Bit(w.Top-n) == 1
}
