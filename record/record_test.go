package record

import (
	"bytes"
	"crypto/sha256"
	"encoding/hex"
	"fmt"
	"math"
	"slices"
	"strings"
	"testing"
	"unsafe"

	"carcanet/api"
)

// P19.1

func TestHeadSize(t *testing.T) {
	if HeadSize != 16 || len(Put(Head{})) != HeadSize || len(Put(greatHead())) != HeadSize {
		t.Errorf("%d, %d, %d", HeadSize, len(Put(Head{})), len(Put(greatHead())))
	}
}

// Each field alone decides, whatever the others are of what may be.
func TestRightAtEachEdge(t *testing.T) {
	ask := func(h Head, want bool) {
		t.Helper()
		if got := Right(h); got != want {
			t.Errorf("%+v: %t", h, got)
		}
	}
	for _, base := range bases() {
		ask(base, true)
		for _, id := range ids() {
			ask(but(base, func(h *Head) { h.Id = id }), id != 0)
		}
		for bit := range 64 {
			ask(but(base, func(h *Head) { h.Id = 1 << bit }), true)
		}
		for _, x := range roles() {
			ask(but(base, func(h *Head) { h.Role = x.n }), x.right)
		}
		for _, x := range epochs() {
			ask(but(base, func(h *Head) { h.Epoch = x.n }), x.right)
		}
		for _, x := range seqs() {
			ask(but(base, func(h *Head) { h.Seq = x.n }), x.right)
		}
		for n := -70000; n <= 70000; n++ {
			ask(but(base, func(h *Head) { h.Role = n }), n == 1 || n == 2)
			ask(but(base, func(h *Head) { h.Epoch = n }), n >= 0 && n <= 65535)
			ask(but(base, func(h *Head) { h.Seq = n }), n >= 1 && n <= 4096)
		}
	}
	ask(Head{}, false)
}

func TestRightOfAllEdges(t *testing.T) {
	for _, x := range heads() {
		if got := Right(x.Head); got != x.right {
			t.Errorf("%+v: %t", x.Head, got)
		}
	}
	for _, h := range wrongHeads() {
		if Right(h) {
			t.Errorf("%+v is right", h)
		}
	}
}

// The bytes here are written by hand; of numbers that leave their room the lowest bytes are put.
func TestPutOfKnownHeads(t *testing.T) {
	for i, x := range []struct {
		h    Head
		want string
	}{
		{Head{1, 2, 3, 4}, "\x03\x00\x00\x00\x00\x00\x00\x00\x01\x02\x00\x03\x00\x00\x00\x04"}, // the chapter's example
		{leastHead(), "\x03\x00\x00\x00\x00\x00\x00\x00\x01\x01\x00\x00\x00\x00\x00\x01"},
		{greatHead(), "\x03\xff\xff\xff\xff\xff\xff\xff\xff\x02\xff\xff\x00\x00\x10\x00"},
		{plainHead(), "\x03\x01\x02\x03\x04\x05\x06\x07\x08\x02\x03\x04\x00\x00\x05\x06"},
		{Head{0xf1e2d3c4b5a69788, 1, 258, 4095}, "\x03\xf1\xe2\xd3\xc4\xb5\xa6\x97\x88\x01\x01\x02\x00\x00\x0f\xff"},
		{Head{}, "\x03\x00\x00\x00\x00\x00\x00\x00\x00\x00\x00\x00\x00\x00\x00\x00"},
		{Head{0, 3, 65536, 4097}, "\x03\x00\x00\x00\x00\x00\x00\x00\x00\x03\x00\x00\x00\x00\x10\x01"},
		{Head{1, 257, 65537, 1<<32 + 1}, "\x03\x00\x00\x00\x00\x00\x00\x00\x01\x01\x00\x01\x00\x00\x00\x01"},
		{Head{2, 258, 0x12345, 0x123456789a}, "\x03\x00\x00\x00\x00\x00\x00\x00\x02\x02\x23\x45\x34\x56\x78\x9a"},
		{Head{0, -1, -1, -1}, "\x03\x00\x00\x00\x00\x00\x00\x00\x00\xff\xff\xff\xff\xff\xff\xff"},
		{Head{1 << 63, -2, -256, -65536}, "\x03\x80\x00\x00\x00\x00\x00\x00\x00\xfe\xff\x00\xff\xff\x00\x00"},
		{Head{0, math.MinInt, math.MinInt, math.MinInt}, "\x03\x00\x00\x00\x00\x00\x00\x00\x00\x00\x00\x00\x00\x00\x00\x00"},
		{Head{math.MaxUint64, math.MaxInt, math.MaxInt, math.MaxInt}, "\x03\xff\xff\xff\xff\xff\xff\xff\xff\xff\xff\xff\xff\xff\xff\xff"},
		{Head{1, 0, 0, 1 << 31}, "\x03\x00\x00\x00\x00\x00\x00\x00\x01\x00\x00\x00\x80\x00\x00\x00"},
	} {
		if got := Put(x.h); string(got) != x.want {
			t.Errorf("%d: %q", i, got)
		}
		if got := wantPut(x.h); string(got) != x.want {
			t.Errorf("the test is at odds with itself: %d: %q", i, got)
		}
	}
}

func TestPutOfAllEdges(t *testing.T) {
	for _, x := range heads() {
		if got := Put(x.Head); !bytes.Equal(got, wantPut(x.Head)) {
			t.Errorf("%+v: %q", x.Head, got)
		}
	}
	for bit := range 64 {
		for _, h := range []Head{{Id: 1 << bit}, {Role: 1 << bit}, {Epoch: 1 << bit}, {Seq: 1 << bit}, {^uint64(1 << bit), ^(1 << bit), ^(1 << bit), ^(1 << bit)}} {
			if got := Put(h); !bytes.Equal(got, wantPut(h)) {
				t.Errorf("%+v: %q", h, got)
			}
		}
	}
}

// Unlike heads that may be are put as unlike bytes.
func TestUnlikeHeadsHaveUnlikeBytes(t *testing.T) {
	of := map[string]Head{}
	for _, x := range heads() {
		if !x.right {
			continue
		}
		if other, met := of[string(Put(x.Head))]; met {
			t.Errorf("%+v and %+v have the same bytes", x.Head, other)
		}
		of[string(Put(x.Head))] = x.Head
	}
	if len(of) < 1000 {
		t.Errorf("%d alone", len(of))
	}
}

// P19.2

// rightTake asks whether what is taken is what it should be, and answers the error.
func rightTake(t *testing.T, b []byte) api.Errno {
	t.Helper()
	want, wantErr := wantTake(b)
	got, e := Take(b)
	if got != want || e != wantErr {
		t.Errorf("Take of %d bytes %.40q: %+v, %d, wanted %+v, %d", len(b), b, got, e, want, wantErr)
	}
	return e
}

// taken asks that these bytes are taken as this head.
func taken(t *testing.T, b []byte, want Head) {
	t.Helper()
	if got, e := Take(b); got != want || e != api.OK {
		t.Errorf("Take of %d bytes %.40q: %+v, %d, wanted %+v", len(b), b, got, e, want)
	}
	rightTake(t, b)
}

// refused asks that these bytes tell this error and nothing else, whoever reads them.
func refused(t *testing.T, b []byte, want api.Errno) {
	t.Helper()
	if got, e := Take(b); got != (Head{}) || e != want {
		t.Errorf("Take of %d bytes %.40q: %+v, %d, wanted %d", len(b), b, got, e, want)
	}
	notOpened(t, "root", b, want)
	rightTake(t, b)
}

// notOpened asks that these bytes are not opened, and tell this error and nothing else.
func notOpened(t *testing.T, root string, b []byte, want api.Errno) {
	t.Helper()
	if h, text, e := Open(root, b); h != (Head{}) || len(text) != 0 || e != want {
		t.Errorf("Open of %d bytes %.40q: %+v, %.40q, %d, wanted %d", len(b), b, h, text, e, want)
	}
}

func TestTakeOfNoBytes(t *testing.T) {
	for _, b := range nothings() {
		refused(t, b, api.ErrKind)
	}
}

// A head that may be, and whatever stands behind it, is read.
func TestTakeOfAllEdges(t *testing.T) {
	for _, x := range heads() {
		b := joined(wantPut(x.Head), made(16, 1))
		if x.right {
			taken(t, b, x.Head)
		} else {
			rightTake(t, b)
		}
	}
	for _, base := range bases() {
		for _, behind := range [][]byte{make([]byte, 16), bytes.Repeat([]byte{255}, 16), made(16, 2), made(17, 3), made(2032, 4), wantPut(base), joined(wantPut(base), wantPut(base))} {
			taken(t, joined(wantPut(base), behind), base)
		}
	}
}

// A first byte that is another one is told ahead of all else.
func TestTakeOfEachFirstByte(t *testing.T) {
	for _, base := range []Head{plainHead(), leastHead(), greatHead(), {}, {0, 3, 0, 5000}} {
		for _, many := range []int{1, 2, 9, 15, 16, 17, 31, 32, 33, 64, 2047, 2048, 2049, 5000} {
			b := joined(wantPut(base), made(5000, 1))[:many]
			for first := range 256 {
				if x := turned(b, 0, byte(first)); first == 3 {
					rightTake(t, x)
				} else {
					refused(t, x, api.ErrKind)
				}
			}
		}
	}
}

func TestTakeOfEachLength(t *testing.T) {
	long := joined(wantPut(plainHead()), made(1<<17, 2))
	for many := 1; many < 32; many++ {
		refused(t, long[:many], api.ErrShort)
	}
	for many := 32; many <= 2048; many++ {
		taken(t, long[:many], plainHead())
	}
	for many := 2049; many < 4200; many++ {
		refused(t, long[:many], api.ErrBig)
	}
	for _, many := range []int{65535, 65536, 65537, 65536 + 16, 65536 + 32, 65536 + 64, 65536 + 2048, 1 << 17} {
		refused(t, long[:many], api.ErrBig)
	}
}

// What is wrong with a head is told last, and how many bytes there are behind the kind.
func TestWhichErrorOfTakeComesFirst(t *testing.T) {
	for _, h := range wrongHeads() {
		head := wantPut(h)
		b := joined(head, make([]byte, 2033))
		for _, many := range []int{1, 2, 15, 16, 17, 30, 31} {
			refused(t, b[:many], api.ErrShort)
			refused(t, turned(b[:many], 0, 4), api.ErrKind)
		}
		for _, many := range []int{32, 33, 2047, 2048} {
			rightTake(t, b[:many])
			refused(t, turned(b[:many], 0, 2), api.ErrKind)
			refused(t, threes(many), api.ErrForm)
		}
		refused(t, b, api.ErrBig)
		refused(t, turned(b, 0, 1), api.ErrKind)
		refused(t, turned(b, 0, 0), api.ErrKind)
	}
	for _, many := range []int{0, 1, 31, 32, 33, 2048, 2049, 3000} {
		refused(t, make([]byte, many), api.ErrKind)
		refused(t, bytes.Repeat([]byte{4}, many), api.ErrKind)
	}
	refused(t, threes(1), api.ErrShort)
	refused(t, threes(31), api.ErrShort)
	refused(t, threes(32), api.ErrForm)
	refused(t, threes(2048), api.ErrForm)
	refused(t, threes(2049), api.ErrBig)
	refused(t, bytes.Repeat([]byte{3}, 31), api.ErrShort)
	refused(t, bytes.Repeat([]byte{3}, 32), api.ErrForm)
	refused(t, bytes.Repeat([]byte{3}, 2049), api.ErrBig)
}

func TestTakeOfEachByteOfAHeadChanged(t *testing.T) {
	seen := map[api.Errno]int{}
	for _, base := range bases() {
		for _, many := range []int{31, 32, 33, 2048, 2049} {
			b := joined(wantPut(base), made(2033, 3))[:many]
			for at := range HeadSize {
				for x := range 256 {
					seen[rightTake(t, turned(b, at, byte(x)))]++
				}
			}
		}
	}
	if len(seen) != 5 || seen[api.OK] < 10000 || seen[api.ErrForm] < 1000 {
		t.Errorf("%v", seen)
	}
}

// The bytes of a head, one by one and all that two of them have, at and beyond the edges of what they tell.
func TestTakeOfEachNumber(t *testing.T) {
	behind := made(16, 5)
	for role := range 256 {
		b := joined([]byte("\x03\x00\x00\x00\x00\x00\x00\x00\x07"), []byte{byte(role)}, []byte("\x00\x05\x00\x00\x00\x06"), behind)
		if role == 1 || role == 2 {
			taken(t, b, Head{7, role, 5, 6})
		} else {
			refused(t, b, api.ErrForm)
		}
	}
	for epoch := range 65536 {
		taken(t, joined([]byte("\x03\x00\x00\x00\x00\x00\x00\x00\x07\x01"), []byte{byte(epoch >> 8), byte(epoch)}, []byte("\x00\x00\x00\x06"), behind), Head{7, 1, epoch, 6})
	}
	for seq := range 65536 {
		b := joined([]byte("\x03\x00\x00\x00\x00\x00\x00\x00\x07\x02\x00\x05\x00\x00"), []byte{byte(seq >> 8), byte(seq)}, behind)
		if seq >= 1 && seq <= 4096 {
			taken(t, b, Head{7, 2, 5, seq})
		} else {
			rightTake(t, b)
		}
	}
	for _, seq := range []string{"\x00\x00\x00\x00", "\x00\x00\x10\x01", "\x00\x00\x20\x00", "\x00\x00\xff\xff", "\x00\x01\x00\x00", "\x00\x01\x00\x01", "\x00\x01\x10\x00", "\x01\x00\x00\x00", "\x01\x00\x00\x01", "\x7f\xff\xff\xff", "\x80\x00\x00\x00", "\x80\x00\x00\x01", "\xff\xff\xff\xff"} {
		refused(t, joined([]byte("\x03\x00\x00\x00\x00\x00\x00\x00\x07\x02\x00\x05"+seq), behind), api.ErrForm)
	}
	for bit := range 64 {
		h := Head{1 << bit, 1, 5, 6}
		taken(t, joined(wantPut(h), behind), h)
	}
	refused(t, joined([]byte("\x03\x00\x00\x00\x00\x00\x00\x00\x00\x01\x00\x05\x00\x00\x00\x06"), behind), api.ErrForm)
}

// What is taken is put as it was.
func TestWhatIsTakenIsPutAgain(t *testing.T) {
	for _, base := range bases() {
		for _, x := range append(otherHeads(base), base) {
			b := joined(wantPut(x), made(20, 1))
			taken(t, b, x)
			if got := Put(x); !bytes.Equal(got, b[:HeadSize]) {
				t.Errorf("%+v: %q", x, got)
			}
		}
	}
}

// P19.3

// rightSeal asks whether a text is sealed as it should be, and answers the record.
func rightSeal(t *testing.T, root string, h Head, text []byte) []byte {
	t.Helper()
	want := wantSeal(root, h, text)
	got, e := Seal(root, h, text)
	if !bytes.Equal(got, want) || e != api.OK {
		t.Errorf("Seal of %+v and %d bytes by a root of %d: %.80x, %d, wanted %.80x", h, len(text), len(root), got, e, want)
	}
	return got
}

// notSealed asks that this is refused, with this error and nothing else.
func notSealed(t *testing.T, root string, h Head, text []byte, want api.Errno) {
	t.Helper()
	if got, e := Seal(root, h, text); len(got) != 0 || e != want {
		t.Errorf("Seal of %+v and %d bytes: %.80x, %d, wanted %d", h, len(text), got, e, want)
	}
}

func TestSealOfKnownRecords(t *testing.T) {
	for i, x := range knowns() {
		if got, e := Seal(x.root, x.head, x.text); hex.EncodeToString(got) != x.record || e != api.OK {
			t.Errorf("%d: %x, %d", i, got, e)
		}
		rightSeal(t, x.root, x.head, x.text)
	}
}

// The sums here are of records that another program made.
func TestSealOfKnownGreatRecords(t *testing.T) {
	some := string(made(32, 8))
	for i, x := range []struct {
		root string
		head Head
		text []byte
		sum  string
	}{
		{"root", Head{258, 1, 1, 1}, made(2015, 7), "300d17b4f2bc142ef04ea84d7576597291f85d00caca95aea1660a22a2ce11bb"},
		{some, greatHead(), made(2015, 9), "3a58a0645ec54bca79738fa0f49c840b95bffd69bf83232d43e8997bf3efc99b"},
		{"root", Head{258, 1, 1, 1}, made(2016, 7), "718ffc94ed137f32c49ba56f6e34a6d13babdaf7c8a3c7d6d8d0badd270c7ed4"},
		{some, greatHead(), made(2016, 9), "d1afa7ac2c3a8c13924a5f6d26093690f2799d867155dac542b608f079424b69"},
	} {
		got, e := Seal(x.root, x.head, x.text)
		if sum := sha256.Sum256(got); hex.EncodeToString(sum[:]) != x.sum || len(got) != len(x.text)+32 || e != api.OK {
			t.Errorf("%d: %x of %d bytes, %d", i, sum, len(got), e)
		}
	}
}

func TestSealOfAllKinds(t *testing.T) {
	for _, root := range roots() {
		for _, h := range bases() {
			for _, text := range texts() {
				rightSeal(t, root, h, text)
			}
		}
	}
	for _, base := range bases() {
		for _, h := range otherHeads(base) {
			rightSeal(t, "root", h, []byte("a text"))
		}
	}
	for i, x := range heads() {
		if x.right {
			rightSeal(t, "root", x.Head, made(i%20, 1))
		}
	}
}

// A record of 2048 bytes is made; what would be longer is refused.
func TestSealOfEachLength(t *testing.T) {
	long := made(1<<17, 6)
	for many := range 2017 {
		if got := rightSeal(t, "root", plainHead(), long[:many]); len(got) != many+32 {
			t.Errorf("%d bytes: %d", many, len(got))
		}
	}
	for many := 2017; many < 4200; many++ {
		notSealed(t, "root", plainHead(), long[:many], api.ErrBig)
	}
	for _, many := range []int{65535, 65536, 65536 + 1, 65536 + 2016, 1 << 17} {
		for _, h := range bases() {
			notSealed(t, "root", h, long[:many], api.ErrBig)
		}
	}
	for _, h := range bases() {
		notSealed(t, "root", h, long[:2017], api.ErrBig)
		notSealed(t, "", h, make([]byte, 2017), api.ErrBig)
	}
}

// A head that may not be is told ahead of a text that is too long.
func TestSealOfHeadsThatMayNotBe(t *testing.T) {
	for _, h := range wrongHeads() {
		for _, text := range nothings() {
			notSealed(t, "root", h, text, api.ErrArg)
		}
		for _, many := range []int{1, 2015, 2016, 2017, 2048, 2049, 70000} {
			notSealed(t, "root", h, make([]byte, many), api.ErrArg)
		}
		notSealed(t, "", h, []byte("a text"), api.ErrArg)
	}
	for _, x := range heads() {
		if !x.right {
			notSealed(t, "root", x.Head, []byte("a text"), api.ErrArg)
		}
	}
}

// Another head, another root and another text seal otherwise: the tag is another one in any case, and by another epoch, seq or root the sealed text too.
func TestWhatIsSealedOtherwise(t *testing.T) {
	text := []byte("a text of some length, so that no two sealed ones are alike by chance")
	for _, base := range bases() {
		tags, bodies := map[string]string{}, map[string]string{}
		add := func(root string, h Head, text []byte) {
			b := rightSeal(t, root, h, text)
			of := fmt.Sprintf("%+v of %q under %q", h, text, root)
			tag, body := string(b[len(b)-16:]), string(b[HeadSize:len(b)-16])
			if other, met := tags[tag]; met {
				t.Errorf("%s has the tag of %s", of, other)
			}
			under := fmt.Sprintf("%d, %d, %q, %q", h.Epoch, h.Seq, text, root)
			if other, met := bodies[body]; met && other != under {
				t.Errorf("%s has the sealed text of %s", of, other)
			}
			tags[tag], bodies[body] = of, under
		}
		add("root", base, text)
		for _, h := range otherHeads(base) {
			add("root", h, text)
		}
		for _, root := range roots() {
			if root != "root" {
				add(root, base, text)
			}
		}
		for at := range text {
			add("root", base, turned(text, at, text[at]^1))
			add("root", base, text[:at])
		}
		add("root", base, joined(text, []byte{0}))
	}
}

// P19.4

// opened asks that a record is opened as this head and this text.
func opened(t *testing.T, root string, b []byte, h Head, text []byte) {
	t.Helper()
	if got, back, e := Open(root, b); got != h || !bytes.Equal(back, text) || e != api.OK {
		t.Errorf("Open of %d bytes %.80x: %+v, %.80q, %d, wanted %+v, %.80q", len(b), b, got, back, e, h, text)
	}
}

func TestOpenOfKnownRecords(t *testing.T) {
	for _, x := range knowns() {
		opened(t, x.root, unhex(t, x.record), x.head, x.text)
	}
}

func TestOpenOfAllKinds(t *testing.T) {
	for _, root := range roots() {
		for _, h := range bases() {
			for _, text := range texts() {
				opened(t, root, wantSeal(root, h, text), h, text)
			}
		}
	}
	for _, base := range bases() {
		for _, h := range otherHeads(base) {
			opened(t, "root", wantSeal("root", h, []byte("a text")), h, []byte("a text"))
		}
	}
}

func TestOpenByAnotherRoot(t *testing.T) {
	for _, root := range roots() {
		for _, h := range bases() {
			for _, many := range []int{0, 1, 100} {
				b := wantSeal(root, h, made(many, 4))
				for _, other := range roots() {
					if other != root {
						notOpened(t, other, b, api.ErrSeal)
					}
				}
				for at := range root {
					notOpened(t, root[:at]+string([]byte{root[at] ^ 1})+root[at+1:], b, api.ErrSeal)
				}
			}
		}
	}
}

// Chapter 4 makes one block of a short key and of that with bytes 0 behind.
func TestRootsGoByBlocks(t *testing.T) {
	b := wantSeal("root", plainHead(), []byte("a text"))
	for many := range 61 {
		opened(t, "root"+strings.Repeat("\x00", many), b, plainHead(), []byte("a text"))
	}
	notOpened(t, "root"+strings.Repeat("\x00", 61), b, api.ErrSeal)
	notOpened(t, "\x00root", b, api.ErrSeal)
}

// With any bit changed, of the head, of the sealed text or of the tag, a record is not opened.
func TestOpenOfWhatIsChanged(t *testing.T) {
	for _, base := range bases() {
		for _, many := range []int{0, 1, 16, 17, 64, 100} {
			b := wantSeal("root", base, made(many, 5))
			seen := map[api.Errno]int{}
			for at := range b {
				for bit := range 8 {
					x := turned(b, at, b[at]^1<<bit)
					want := api.ErrSeal
					if _, e := wantTake(x); e != api.OK {
						want = e
					}
					notOpened(t, "root", x, want)
					seen[want]++
				}
			}
			if seen[api.ErrKind] != 8 || seen[api.ErrForm] < 20 || seen[api.ErrSeal] < 200 {
				t.Errorf("%+v, %d bytes: %v", base, many, seen)
			}
		}
		b := wantSeal("root", base, made(2016, 5))
		for at := HeadSize; at < len(b); at++ {
			notOpened(t, "root", turned(b, at, b[at]^128), api.ErrSeal)
		}
	}
}

// A head that may be is told as false by the seal; one that may not be, ahead of it.
func TestOpenOfOtherHeads(t *testing.T) {
	for _, base := range bases() {
		b := wantSeal("root", base, []byte("a text"))
		for _, h := range otherHeads(base) {
			notOpened(t, "root", joined(wantPut(h), b[HeadSize:]), api.ErrSeal)
		}
		for _, h := range wrongHeads() {
			if _, e := wantTake(joined(wantPut(h), b[HeadSize:])); e == api.ErrForm {
				notOpened(t, "root", joined(wantPut(h), b[HeadSize:]), api.ErrForm)
			}
		}
	}
}

func TestOpenOfBytesCutOffAndPutBehind(t *testing.T) {
	for _, many := range []int{0, 1, 16, 17, 100, 2015, 2016} {
		b := wantSeal("root", plainHead(), made(many, 6))
		for size := range b {
			switch {
			case size == 0:
				notOpened(t, "root", b[:size], api.ErrKind)
			case size < 32:
				notOpened(t, "root", b[:size], api.ErrShort)
			default:
				notOpened(t, "root", b[:size], api.ErrSeal)
			}
		}
		for x := range 256 {
			want := api.ErrSeal
			if len(b) == 2048 {
				want = api.ErrBig
			}
			notOpened(t, "root", joined(b, []byte{byte(x)}), want)
		}
		for _, more := range [][]byte{make([]byte, 16), b, make([]byte, 2048)} {
			want := api.ErrSeal
			if len(b)+len(more) > 2048 {
				want = api.ErrBig
			}
			notOpened(t, "root", joined(b, more), want)
		}
	}
}

// What is cut out of a record, or put into it, is missed wherever it stands.
func TestOpenOfBytesThatAreMoved(t *testing.T) {
	b := wantSeal("root", plainHead(), made(50, 7))
	for at := range b {
		for _, x := range [][]byte{joined(b[:at], b[at+1:]), joined(b[:at], []byte{0}, b[at:]), joined(b[at:], b[:at])} {
			if bytes.Equal(x, b) {
				continue
			}
			want := api.ErrSeal
			if _, e := wantTake(x); e != api.OK {
				want = e
			}
			notOpened(t, "root", x, want)
		}
	}
	for at := HeadSize; at+1 < len(b); at++ {
		x := turned(turned(b, at, b[at+1]), at+1, b[at])
		if !bytes.Equal(x, b) {
			notOpened(t, "root", x, api.ErrSeal)
		}
	}
}

// Parts of two records are none.
func TestOpenOfGraftedRecords(t *testing.T) {
	one := wantSeal("root", plainHead(), made(40, 1))
	for _, h := range append(otherHeads(plainHead()), plainHead()) {
		two := wantSeal("root", h, made(40, 2))
		if h != plainHead() {
			notOpened(t, "root", joined(one[:HeadSize], two[HeadSize:]), api.ErrSeal)
			notOpened(t, "root", joined(two[:HeadSize], one[HeadSize:]), api.ErrSeal)
		}
		notOpened(t, "root", joined(one[:56], two[56:]), api.ErrSeal)
		notOpened(t, "root", joined(two[:56], one[56:]), api.ErrSeal)
	}
}

// What is sealed by layer 8 under another key or nonce, or with other bytes, is no record.
func TestOpenOfWhatIsSealedOtherwise(t *testing.T) {
	text := []byte("a text")
	for _, h := range bases() {
		head, key, nonce := wantPut(h), wantKey("root", h.Epoch), wantNonce(h.Seq)
		opened(t, "root", joined(head, sealedBy(key, nonce, head, text)), h, text)
		rootAsKey := make([]byte, 32)
		copy(rootAsKey, "root")
		for i, sealed := range [][]byte{
			sealedBy(rootAsKey, nonce, head, text),
			sealedBy(wantKey("root", h.Epoch^1), nonce, head, text),
			sealedBy(wantKey("root", h.Seq+70000), nonce, head, text),
			sealedBy(wantKey("toor", h.Epoch), nonce, head, text),
			sealedBy(key, wantNonce(h.Seq^1), head, text),
			sealedBy(key, wantNonce(0), head, text),
			sealedBy(key, wantNonce(h.Epoch+70000), head, text),
			sealedBy(key, joined(nonce[4:], nonce[:4]), head, text),
			sealedBy(key, nonce, nil, text),
			sealedBy(key, nonce, head[1:], text),
			sealedBy(key, nonce, head[:15], text),
			sealedBy(key, nonce, joined(head, []byte{0}), text),
			sealedBy(key, nonce, joined(head, text), text),
			text, make([]byte, 16), made(16, 1), made(100, 1),
		} {
			want := api.ErrSeal
			if len(sealed) < 16 {
				want = api.ErrShort
			}
			if got, back, e := Open("root", joined(head, sealed)); got != (Head{}) || len(back) != 0 || e != want {
				t.Errorf("%+v, %d: %+v, %q, %d", h, i, got, back, e)
			}
		}
	}
}

// Whatever Take tells, Open tells.
func TestOpenTellsTakesErrors(t *testing.T) {
	for _, h := range wrongHeads() {
		for _, many := range []int{1, 16, 31, 32, 33, 2048, 2049} {
			b := joined(wantPut(h), made(2048, 8))[:many]
			want := api.ErrSeal
			if _, e := wantTake(b); e != api.OK {
				want = e
			}
			for _, root := range []string{"", "root", string(made(100, 1))} {
				notOpened(t, root, b, want)
				notOpened(t, root, turned(b, 0, 2), api.ErrKind)
			}
		}
	}
}

// P19.5

// follows asks what follows of a text that is sealed: it is opened, and with any byte of its tag changed it is not.
func follows(t *testing.T, root string, h Head, text []byte, changes []byte) {
	t.Helper()
	b, e := Seal(root, h, text)
	if e != api.OK || len(b) != len(text)+32 {
		t.Fatalf("Seal of %+v and %d bytes: %d bytes, %d", h, len(text), len(b), e)
	}
	opened(t, root, b, h, text)
	taken(t, b, h)
	for at := len(b) - 16; at < len(b); at++ {
		for _, x := range changes {
			notOpened(t, root, turned(b, at, b[at]^x), api.ErrSeal)
		}
	}
}

func TestWhatIsSealedIsOpened(t *testing.T) {
	for _, root := range roots() {
		for _, role := range []int{api.RoleFirst, api.RoleSecond} {
			for _, text := range texts() {
				follows(t, root, Head{258, role, 3, 4}, text, []byte{1, 128})
			}
		}
	}
	for many := range 2017 {
		follows(t, "root", Head{uint64(many + 1), 1 + many%2, many, many + 1}, made(many, 9), []byte{1})
	}
	for _, x := range heads() {
		if x.right {
			follows(t, "root", x.Head, []byte("a text"), nil)
		}
	}
}

func TestNoOtherByteOfATagIsRight(t *testing.T) {
	var all []byte
	for x := 1; x < 256; x++ {
		all = append(all, byte(x))
	}
	for _, h := range bases() {
		for _, many := range []int{0, 1, 16, 100} {
			follows(t, "root", h, made(many, 3), all)
		}
	}
}

// What one seals by a root is opened by that root alone, also of two that two roles send by.
func TestRolesDoNotMeet(t *testing.T) {
	there, back := string(made(32, 1)), string(made(32, 2))
	for _, seq := range []int{1, 2, 4096} {
		one, _ := Seal(there, Head{9, 1, 0, seq}, []byte("a text"))
		two, _ := Seal(back, Head{9, 2, 0, seq}, []byte("a text"))
		opened(t, there, one, Head{9, 1, 0, seq}, []byte("a text"))
		opened(t, back, two, Head{9, 2, 0, seq}, []byte("a text"))
		notOpened(t, back, one, api.ErrSeal)
		notOpened(t, there, two, api.ErrSeal)
	}
}

func FuzzWhatFollows(f *testing.F) {
	for _, x := range knowns() {
		f.Add(x.root, x.head.Id, x.head.Role, x.head.Epoch, x.head.Seq, x.text, unhex(f, x.record), 40)
	}
	f.Add("", uint64(0), 0, -1, 0, []byte{}, []byte{}, 0)
	f.Add("root", uint64(1), 257, 65536, 4097, make([]byte, 2017), threes(2049), -1)
	f.Add("root", uint64(1), math.MinInt, math.MaxInt, math.MinInt, make([]byte, 2016), threes(32), math.MaxInt)
	f.Fuzz(func(t *testing.T, root string, id uint64, role, epoch, seq int, text, b []byte, at int) {
		h := Head{id, role, epoch, seq}
		right := id != 0 && (role == 1 || role == 2) && epoch >= 0 && epoch <= 65535 && seq >= 1 && seq <= 4096
		if Right(h) != right || !bytes.Equal(Put(h), wantPut(h)) {
			t.Errorf("%+v: %t, %q", h, Right(h), Put(h))
		}
		rightTake(t, b)
		if _, _, e := Open(root, b); e != api.OK && e != api.ErrSeal && e != rightTake(t, b) {
			t.Errorf("Open of %q: %d", b, e)
		}
		switch {
		case !right:
			notSealed(t, root, h, text, api.ErrArg)
		case len(text) > 2016:
			notSealed(t, root, h, text, api.ErrBig)
		default:
			sealed := rightSeal(t, root, h, text)
			follows(t, root, h, text, []byte{1})
			if at >= HeadSize && at < len(sealed) {
				notOpened(t, root, turned(sealed, at, sealed[at]^64), api.ErrSeal)
			}
		}
	})
}

// Rules 4, 5 and 8: what is handed in stays as it was, what is handed out is new memory, what lies behind a length does not count, and nothing is kept.

// fill writes over all of this memory, its spare room too.
func fill(b []byte) {
	b = b[:cap(b)]
	for i := range b {
		b[i] ^= 0xa5
	}
}

// lent answers a text that stands in memory which can be looked at, and written over.
func lent(s string) (text string, memory []byte) {
	memory = append([]byte(s), "what lies behind"...)
	return unsafe.String(&memory[0], len(s)), memory
}

func TestWhatSealIsHandedStaysAsItWas(t *testing.T) {
	for _, root := range roots() {
		for _, many := range []int{0, 1, 16, 100, 2016, 2017} {
			for _, more := range []int{0, 1, 40, 3000} {
				memory := made(many+more, 4)
				text := memory[:many]
				kept, keptText := slices.Clone(memory), slices.Clone(text)
				by, rootMemory := lent(root)
				got, e := Seal(by, plainHead(), text)
				if !bytes.Equal(memory, kept) || string(rootMemory) != root+"what lies behind" {
					t.Fatalf("%d and %d bytes: changed", many, more)
				}
				fill(memory)
				fill(rootMemory)
				if many > 2016 {
					if len(got) != 0 || e != api.ErrBig {
						t.Errorf("%d and %d bytes: %d", many, more, e)
					}
				} else if !bytes.Equal(got, wantSeal(root, plainHead(), keptText)) || e != api.OK {
					t.Errorf("%d and %d bytes: what is sealed changes with them", many, more)
				}
			}
		}
	}
}

func TestWhatOpenIsHandedStaysAsItWas(t *testing.T) {
	for _, root := range roots() {
		for _, many := range []int{0, 1, 16, 100, 2016} {
			sealed := wantSeal(root, plainHead(), made(many, 5))
			for _, size := range []int{0, 1, 16, 31, 32, len(sealed) - 1, len(sealed)} {
				for _, more := range [][]byte{sealed[size:], made(90, 7), make([]byte, 3000)} {
					memory := joined(sealed[:size], more)
					kept := slices.Clone(memory)
					by, rootMemory := lent(root)
					want, wantErr := wantTake(memory[:size])
					head, e := Take(memory[:size])
					got, text, f := Open(by, memory[:size])
					if !bytes.Equal(memory, kept) || string(rootMemory) != root+"what lies behind" {
						t.Fatalf("%d of %d bytes: changed", size, len(sealed))
					}
					fill(memory)
					fill(rootMemory)
					if head != want || e != wantErr {
						t.Errorf("%d of %d bytes: what lies behind counts: %+v, %d", size, len(sealed), head, e)
					}
					whole := size == len(sealed)
					if whole && (got != plainHead() || !bytes.Equal(text, made(many, 5)) || f != api.OK) || !whole && (got != (Head{}) || len(text) != 0 || f == api.OK) {
						t.Errorf("%d of %d bytes: %+v, %.40q, %d", size, len(sealed), got, text, f)
					}
				}
			}
		}
	}
}

func TestWhatIsHandedOutIsNewMemory(t *testing.T) {
	for _, h := range append(bases(), wrongHeads()...) {
		one, two := Put(h), Put(h)
		fill(one)
		if !bytes.Equal(two, wantPut(h)) || !bytes.Equal(Put(h), wantPut(h)) {
			t.Errorf("Put of %+v is kept", h)
		}
	}
	for _, h := range bases() {
		for _, many := range []int{0, 1, 100, 2016} {
			text := made(many, 6)
			want := wantSeal("root", h, text)
			one, _ := Seal("root", h, text)
			two, _ := Seal("root", h, text)
			fill(one)
			if !bytes.Equal(two, want) || !bytes.Equal(text, made(many, 6)) {
				t.Errorf("Seal of %+v and %d bytes: its answer is not new memory", h, many)
			}
			rightSeal(t, "root", h, text)
			_, back, _ := Open("root", two)
			_, again, _ := Open("root", two)
			fill(back)
			if !bytes.Equal(two, want) || !bytes.Equal(again, text) {
				t.Errorf("Open of %+v and %d bytes: its answer is not new memory", h, many)
			}
			opened(t, "root", two, h, text)
		}
	}
}

// A call leaves nothing behind: whatever comes ahead of it, it answers what it would have.
func TestNothingIsKept(t *testing.T) {
	h, text := plainHead(), []byte("a text")
	want := wantSeal("root", h, text)
	right := func() bool {
		b, e := Seal("root", h, text)
		k, f := Take(b)
		l, back, g := Open("root", b)
		_, other := Take(nil)
		return bytes.Equal(b, want) && k == h && l == h && bytes.Equal(back, text) && e == api.OK && f == api.OK && g == api.OK && other == api.ErrKind && bytes.Equal(Put(h), want[:HeadSize]) && Right(h) && !Right(Head{})
	}
	for i, x := range append(append(otherHeads(h), wrongHeads()...), bases()...) {
		root := roots()[i%len(roots())]
		b, _ := Seal(root, x, made(i, 1))
		Right(x)
		Put(x)
		Take(b)
		Open(root, b)
		Open("root", b)
		Take(threes(i + 1))
		Open(root, threes(40))
		Seal(root, h, make([]byte, 2017))
		if !right() {
			t.Fatalf("behind %+v: other answers", x)
		}
	}
}
