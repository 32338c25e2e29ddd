package entry

import (
	"bytes"
	"encoding/binary"
	"fmt"
	"math"
	"math/big"
	"regexp"
	"slices"
	"strings"
	"testing"

	"carcanet/api"
)

// made answers so many bytes without a plain order, the same ones for the same seed.
func made(length int, seed byte) []byte {
	b := make([]byte, length)
	state := uint32(seed)*2654435761 + 1
	for i := range b {
		state = state*1664525 + 1013904223
		b[i] = byte(state>>24) ^ seed
	}
	return b
}

// nothings answers the ways in which no bytes may come in.
func nothings() [][]byte {
	return [][]byte{nil, {}, make([]byte, 0, 100), []byte("abc")[:0]}
}

// plain answers an entry that may be.
func plain() api.Entry {
	return api.Entry{Name: "node-1", Id: 0x0102030405060708, From: 5, Until: 1000, Index: 3, Tag: string(made(32, 9))}
}

// but answers that entry, changed.
func but(change func(e *api.Entry)) api.Entry {
	e := plain()
	change(&e)
	return e
}

// names answers texts that are names, and others.
func names() []string {
	list := []string{
		"", "a", "z", "m", "ab", "a-", "a1", "z9-", "node-1", "a--", "abcdefghijklmno", "abcdefghijklmnop", "a---------------", "a999999999999999",
		"abcdefghijklmnopq", "0", "9", "-", "-a", "1a", "A", "Z", "aB", "a b", " a", "a ", "a\n", "a_b", "a.b", "a\x00", "\x00", "\x00a", "é", "aé", "\xff", "a\xff", "a`", "a{", "abcdefghijklmnoP", "abcdefghijklmno\x00",
	}
	for _, many := range []int{17, 18, 24, 32, 64, 255, 256, 257, 65534, 65535, 65536, 65537} {
		list = append(list, strings.Repeat("a", many), string(made(many, byte(many))))
	}
	return list
}

// counts answers numbers at the edges of what an entry may have, of four and two bytes, and of their type.
func counts() []int {
	list := []int{math.MinInt, math.MinInt + 1, math.MaxInt - 1, math.MaxInt}
	for _, edge := range []int{0, 1 << 6, 1 << 7, 1 << 8, 1 << 15, 1 << 16, 1 << 24, 1 << 30, 1 << 31, 1 << 32, 1<<32 + 5, 1 << 33, 1 << 40, 1 << 48, 1 << 62} {
		for near := -2; near <= 2; near++ {
			list = append(list, edge+near, -edge+near)
		}
	}
	return list
}

// ids answers identifiers at the edges of their range, and in between.
func ids() []uint64 {
	return []uint64{0, 1, 2, 255, 256, 258, 1<<32 - 1, 1 << 32, 1<<63 - 1, 1 << 63, 1<<63 + 1, 0x0102030405060708, 0xfedcba9876543210, math.MaxUint64 - 1, math.MaxUint64}
}

// tags answers tags of the right length, and others.
func tags() []string {
	var list []string
	for _, many := range []int{0, 1, 15, 16, 17, 30, 31, 32, 33, 34, 63, 64, 65, 255, 256, 65535, 65536, 100000} {
		list = append(list, strings.Repeat("\x00", many), strings.Repeat("\xff", many), string(made(many, byte(many))))
	}
	return list
}

// varied answers entries of which one field is changed, or two numbers, most of which may not be.
func varied() []api.Entry {
	list := []api.Entry{{}, plain()}
	for _, name := range names() {
		list = append(list, but(func(e *api.Entry) { e.Name = name }), api.Entry{Name: name})
	}
	for _, id := range ids() {
		list = append(list, but(func(e *api.Entry) { e.Id = id }), api.Entry{Id: id})
	}
	for _, tag := range tags() {
		list = append(list, but(func(e *api.Entry) { e.Tag = tag }), api.Entry{Tag: tag})
	}
	for _, n := range counts() {
		list = append(list, but(func(e *api.Entry) { e.Index = n }), but(func(e *api.Entry) { e.From = n }), api.Entry{From: n, Until: n, Index: n})
		for _, k := range counts() {
			list = append(list, but(func(e *api.Entry) { e.From, e.Until = n, k }))
		}
	}
	return list
}

// allowed answers entries that may be: those of that list that may, and others that differ in little.
func allowed() []api.Entry {
	var list []api.Entry
	for _, e := range varied() {
		if mayBe(e) {
			list = append(list, e)
		}
	}
	for many := 1; many <= 16; many++ {
		list = append(list, but(func(e *api.Entry) { e.Name = strings.Repeat("b", many) }), but(func(e *api.Entry) { e.Name = "c" + strings.Repeat("-", many-1) }))
	}
	for bit := range 64 {
		list = append(list, but(func(e *api.Entry) { e.Id ^= 1 << bit }))
	}
	for bit := range 30 {
		list = append(list, but(func(e *api.Entry) { e.From, e.Until = 1<<bit, 1<<30 }), but(func(e *api.Entry) { e.From, e.Until = 0, 1<<bit }))
	}
	for index := range 65 {
		list = append(list, but(func(e *api.Entry) { e.Index = index }))
	}
	for bit := range 8 * 32 {
		list = append(list, but(func(e *api.Entry) { e.Tag = turned(e.Tag, bit/8, e.Tag[bit/8]^1<<(bit%8)) }))
	}
	return list
}

// turned answers the text that has this byte at this place.
func turned(s string, at int, b byte) string { return s[:at] + string([]byte{b}) + s[at+1:] }

// show tells an entry shortly, whatever its texts.
func show(e api.Entry) string {
	return fmt.Sprintf("{%.20q (%d) %x %d %d %d %.8q (%d)}", e.Name, len(e.Name), e.Id, e.From, e.Until, e.Index, e.Tag, len(e.Tag))
}

// P11.1

var nameForm = regexp.MustCompile(`\A[a-z][a-z0-9-]{0,15}\z`)

// mayBe answers what Right has to, by forms of the whole name and by whole numbers.
func mayBe(e api.Entry) bool {
	from, until, index, last := big.NewInt(int64(e.From)), big.NewInt(int64(e.Until)), big.NewInt(int64(e.Index)), big.NewInt(1073741824)
	switch {
	case !nameForm.MatchString(e.Name):
		return false
	case from.Sign() < 0 || from.Cmp(last) > 0:
		return false
	case until.Cmp(from) < 0 || until.Cmp(last) > 0:
		return false
	case index.Sign() < 0 || index.Cmp(big.NewInt(64)) > 0:
		return false
	}
	return len(e.Tag) == 32
}

func rightRight(t *testing.T, e api.Entry) {
	t.Helper()
	if got, want := Right(e), mayBe(e); got != want {
		t.Errorf("Right of %s: %t", show(e), got)
	}
}

func TestRightOfKnownEntries(t *testing.T) {
	if Right(api.Entry{}) {
		t.Error("the zero entry may be")
	}
	if !Right(plain()) {
		t.Error("an entry may not be")
	}
	if !Right(api.Entry{Name: "a", Tag: strings.Repeat("\x00", 32)}) {
		t.Error("an entry of zeros may not be")
	}
	if !Right(api.Entry{Name: "abcdefghijklmnop", Id: math.MaxUint64, From: 1 << 30, Until: 1 << 30, Index: 64, Tag: strings.Repeat("\xff", 32)}) {
		t.Error("the greatest entry may not be")
	}
}

func TestRightOfNames(t *testing.T) {
	for name, want := range map[string]bool{
		"": false, "a": true, "z9-": true, "abcdefghijklmnop": true, "abcdefghijklmnopq": false, "N": false, "node-1": true, "Node-1": false, "-a": false, "1a": false, "a b": false, "a\x00": false, "é": false, "a_": false,
	} {
		if got := Right(but(func(e *api.Entry) { e.Name = name })); got != want {
			t.Errorf("%q: %t", name, got)
		}
	}
	for b := range 256 {
		for at := range 6 {
			rightRight(t, but(func(e *api.Entry) { e.Name = turned(e.Name, at, byte(b)) }))
		}
	}
}

func TestRightOfNumbers(t *testing.T) {
	for _, x := range []struct {
		from, until, index int
		want               bool
	}{
		{0, 0, 0, true}, {-1, 0, 0, false}, {-1, -1, 0, false}, {0, -1, 0, false}, {0, 1, 0, true}, {1, 0, 0, false}, {1, 1, 0, true}, {5, 4, 0, false}, {5, 5, 0, true}, {5, 6, 0, true},
		{0, 1 << 30, 0, true}, {0, 1<<30 - 1, 0, true}, {0, 1<<30 + 1, 0, false}, {1 << 30, 1 << 30, 0, true}, {1 << 30, 1<<30 - 1, 0, false}, {1 << 30, 1<<30 + 1, 0, false}, {1<<30 + 1, 1<<30 + 1, 0, false}, {1<<30 + 1, 1 << 30, 0, false}, {1<<30 - 1, 1 << 30, 0, true},
		{0, 0, -1, false}, {0, 0, 1, true}, {0, 0, 63, true}, {0, 0, 64, true}, {0, 0, 65, false}, {0, 0, 256, false}, {0, 0, 1 << 16, false}, {0, 0, 1<<32 + 1, false},
		{math.MinInt, 0, 0, false}, {math.MaxInt, 0, 0, false}, {0, math.MinInt, 0, false}, {0, math.MaxInt, 0, false}, {0, 0, math.MinInt, false}, {0, 0, math.MaxInt, false},
		{math.MinInt, math.MinInt, 0, false}, {math.MaxInt, math.MaxInt, 0, false}, {math.MinInt, math.MaxInt, 0, false}, {math.MaxInt, math.MinInt, 0, false}, {1 << 32, 1<<32 + 1, 0, false}, {1 << 31, 1 << 31, 0, false},
	} {
		if got := Right(but(func(e *api.Entry) { e.From, e.Until, e.Index = x.from, x.until, x.index })); got != x.want {
			t.Errorf("%d to %d, key %d: %t", x.from, x.until, x.index, got)
		}
	}
	for index := -300; index <= 300; index++ {
		rightRight(t, but(func(e *api.Entry) { e.Index = index }))
	}
	for from := -5; from <= 5; from++ {
		for until := -5; until <= 5; until++ {
			rightRight(t, but(func(e *api.Entry) { e.From, e.Until = from, until }))
			rightRight(t, but(func(e *api.Entry) { e.From, e.Until = 1<<30+from, 1<<30+until }))
		}
	}
}

func TestRightOfTags(t *testing.T) {
	for many := range 300 {
		if got, want := Right(but(func(e *api.Entry) { e.Tag = strings.Repeat("t", many) })), many == 32; got != want {
			t.Errorf("a tag of %d bytes: %t", many, got)
		}
	}
	if Right(but(func(e *api.Entry) { e.Tag = strings.Repeat("é", 32) })) || !Right(but(func(e *api.Entry) { e.Tag = strings.Repeat("é", 16) })) {
		t.Error("a tag's letters are counted, not its bytes")
	}
}

// Whatever the identifier, an entry may be.
func TestRightOfIds(t *testing.T) {
	for _, id := range ids() {
		if !Right(but(func(e *api.Entry) { e.Id = id })) {
			t.Errorf("%x", id)
		}
	}
}

func TestRightOfEntriesOfAllKinds(t *testing.T) {
	for _, e := range varied() {
		rightRight(t, e)
	}
}

// P11.2

// wantBody answers what Body has to, by the library's numbers.
func wantBody(e api.Entry) []byte {
	name := e.Name
	if len(name) > 65535 {
		name = name[:65535]
	}
	b := binary.BigEndian.AppendUint16(nil, uint16(len(name)))
	b = append(b, name...)
	b = binary.BigEndian.AppendUint64(b, e.Id)
	b = binary.BigEndian.AppendUint32(b, uint32(e.From))
	b = binary.BigEndian.AppendUint32(b, uint32(e.Until))
	return binary.BigEndian.AppendUint16(b, uint16(e.Index))
}

func rightBytes(t *testing.T, e api.Entry) {
	t.Helper()
	want := wantBody(e)
	if got := Body(e); !bytes.Equal(got, want) {
		t.Errorf("Body of %s: %.60q", show(e), got)
	}
	if got := Bytes(e); !bytes.Equal(got, append(want, e.Tag...)) {
		t.Errorf("Bytes of %s: %.60q", show(e), got)
	}
}

func TestBodyAndBytesOfKnownEntries(t *testing.T) {
	tag := string(made(32, 1))
	for i, x := range []struct {
		e    api.Entry
		want string
	}{
		{api.Entry{Name: "a", Id: 258, From: 1, Until: 2, Index: 3}, "\x00\x01a\x00\x00\x00\x00\x00\x00\x01\x02\x00\x00\x00\x01\x00\x00\x00\x02\x00\x03"}, // the chapter's example
		{api.Entry{}, strings.Repeat("\x00", 20)},
		{api.Entry{Name: "node-1", Id: 0x0102030405060708, From: 0x0a0b0c0d, Until: 0x3a3b3c3d, Index: 64}, "\x00\x06node-1\x01\x02\x03\x04\x05\x06\x07\x08\x0a\x0b\x0c\x0d\x3a\x3b\x3c\x3d\x00\x40"},
		{api.Entry{Name: "abcdefghijklmnop", Id: math.MaxUint64, From: 1 << 30, Until: 1 << 30, Index: 1}, "\x00\x10abcdefghijklmnop\xff\xff\xff\xff\xff\xff\xff\xff\x40\x00\x00\x00\x40\x00\x00\x00\x00\x01"},
		{api.Entry{From: -1, Until: -2, Index: -3}, strings.Repeat("\x00", 10) + "\xff\xff\xff\xff\xff\xff\xff\xfe\xff\xfd"},
		{api.Entry{From: math.MinInt, Until: math.MaxInt, Index: math.MinInt}, strings.Repeat("\x00", 14) + "\xff\xff\xff\xff\x00\x00"},
		{api.Entry{From: math.MaxInt, Until: math.MinInt, Index: math.MaxInt}, strings.Repeat("\x00", 10) + "\xff\xff\xff\xff\x00\x00\x00\x00\xff\xff"},
		{api.Entry{From: 1<<32 + 5, Until: 1 << 32, Index: 1<<16 + 7}, strings.Repeat("\x00", 10) + "\x00\x00\x00\x05\x00\x00\x00\x00\x00\x07"},
		{api.Entry{From: 1<<32 - 1, Until: 1 << 31, Index: 1<<16 - 1}, strings.Repeat("\x00", 10) + "\xff\xff\xff\xff\x80\x00\x00\x00\xff\xff"},
		{api.Entry{From: -1 << 32, Until: -1<<31 - 1, Index: -1<<15 - 1}, strings.Repeat("\x00", 14) + "\x7f\xff\xff\xff\x7f\xff"},
		{api.Entry{Name: "No name!\x00\xff"}, "\x00\x0aNo name!\x00\xff" + strings.Repeat("\x00", 18)},
		{api.Entry{Name: "é"}, "\x00\x02\xc3\xa9" + strings.Repeat("\x00", 18)},
		{api.Entry{Name: strings.Repeat("n", 258)}, "\x01\x02" + strings.Repeat("n", 258) + strings.Repeat("\x00", 18)},
		{api.Entry{Name: strings.Repeat("n", 65535)}, "\xff\xff" + strings.Repeat("n", 65535) + strings.Repeat("\x00", 18)},
		{api.Entry{Name: strings.Repeat("n", 65535) + "o"}, "\xff\xff" + strings.Repeat("n", 65535) + strings.Repeat("\x00", 18)},
		{api.Entry{Name: strings.Repeat("n", 1<<20)}, "\xff\xff" + strings.Repeat("n", 65535) + strings.Repeat("\x00", 18)},
	} {
		for _, with := range []string{"", "x", tag, tag + "x", strings.Repeat("t", 100000)} {
			e := x.e
			e.Tag = with
			if got := Body(e); string(got) != x.want {
				t.Errorf("%d: Body: %.60q", i, got)
			}
			if got := Bytes(e); string(got) != x.want+with {
				t.Errorf("%d: Bytes with a tag of %d: %.60q", i, len(with), got)
			}
		}
	}
}

func TestBodyAndBytesOfEntriesOfAllKinds(t *testing.T) {
	for _, e := range varied() {
		rightBytes(t, e)
	}
	for _, e := range allowed() {
		rightBytes(t, e)
	}
}

func TestBodyAndBytesOfNamesOfEachLength(t *testing.T) {
	for many := range 600 {
		rightBytes(t, but(func(e *api.Entry) { e.Name = string(made(many, 4)) }))
	}
}

// P11.3

// wantRead answers what Read has to, by where each part lies.
func wantRead(b []byte) (api.Entry, api.Errno) {
	if len(b) < 2 {
		return api.Entry{}, api.ErrShort
	}
	size := int(b[0])*256 + int(b[1])
	switch whole := 2 + size + 8 + 4 + 4 + 2 + 32; {
	case size > 16:
		return api.Entry{}, api.ErrBig
	case len(b) < whole:
		return api.Entry{}, api.ErrShort
	case len(b) > whole:
		return api.Entry{}, api.ErrRest
	}
	rest := b[2+size:]
	e := api.Entry{
		Name:  string(b[2 : 2+size]),
		Id:    binary.BigEndian.Uint64(rest),
		From:  int(binary.BigEndian.Uint32(rest[8:])),
		Until: int(binary.BigEndian.Uint32(rest[12:])),
		Index: int(binary.BigEndian.Uint16(rest[16:])),
		Tag:   string(rest[18:]),
	}
	if !mayBe(e) {
		return api.Entry{}, api.ErrForm
	}
	return e, api.OK
}

func rightRead(t *testing.T, b []byte) {
	t.Helper()
	want, f := wantRead(b)
	if got, e := Read(b); got != want || e != f {
		t.Errorf("Read of %d bytes %.80q: %s, %d; wanted %s, %d", len(b), b, show(got), e, show(want), f)
	}
}

// whole answers the bytes of an entry that may be.
func whole() []byte { return append(wantBody(plain()), plain().Tag...) }

func TestReadOfKnownBytes(t *testing.T) {
	tag := string(made(32, 1))
	for i, x := range []struct {
		b    string
		want api.Entry
	}{
		{"\x00\x01a\x00\x00\x00\x00\x00\x00\x01\x02\x00\x00\x00\x01\x00\x00\x00\x02\x00\x03" + tag, api.Entry{Name: "a", Id: 258, From: 1, Until: 2, Index: 3, Tag: tag}},
		{"\x00\x01a" + strings.Repeat("\x00", 18+32), api.Entry{Name: "a", Tag: strings.Repeat("\x00", 32)}},
		{"\x00\x10abcdefghijklmnop\xff\xff\xff\xff\xff\xff\xff\xff\x40\x00\x00\x00\x40\x00\x00\x00\x00\x40" + strings.Repeat("\xff", 32), api.Entry{Name: "abcdefghijklmnop", Id: math.MaxUint64, From: 1 << 30, Until: 1 << 30, Index: 64, Tag: strings.Repeat("\xff", 32)}},
		{"\x00\x06node-1\x01\x02\x03\x04\x05\x06\x07\x08\x0a\x0b\x0c\x0d\x3a\x3b\x3c\x3d\x00\x40" + tag, api.Entry{Name: "node-1", Id: 0x0102030405060708, From: 0x0a0b0c0d, Until: 0x3a3b3c3d, Index: 64, Tag: tag}},
	} {
		if got, e := Read([]byte(x.b)); got != x.want || e != api.OK {
			t.Errorf("%d: %s, %d", i, show(got), e)
		}
	}
}

// refused asks that Read tells this error, and nothing else.
func refused(t *testing.T, b []byte, want api.Errno) {
	t.Helper()
	if got, e := Read(b); got != (api.Entry{}) || e != want {
		t.Errorf("Read of %d bytes %.80q: %s, %d; wanted %d", len(b), b, show(got), e, want)
	}
}

func TestReadOfNoBytes(t *testing.T) {
	for _, b := range nothings() {
		refused(t, b, api.ErrShort)
	}
}

func TestReadOfWhatIsCutOff(t *testing.T) {
	for at := range whole() {
		refused(t, whole()[:at], api.ErrShort)
		refused(t, slices.Clip(whole()[:at]), api.ErrShort)
	}
	for at := 1; at < len(whole()); at++ {
		rightRead(t, whole()[at:])
	}
}

func TestReadOfMoreBytes(t *testing.T) {
	for _, many := range []int{1, 2, 31, 32, 33, 58, 1000, 1 << 16} {
		refused(t, append(whole(), made(many, 3)...), api.ErrRest)
		refused(t, append(whole(), make([]byte, many)...), api.ErrRest)
	}
	refused(t, append(whole(), whole()...), api.ErrRest)
}

// behind answers what stands behind a name, of an entry that may be.
func behind() string { return strings.Repeat("\x00", 18) + strings.Repeat("t", 32) }

func TestReadOfNamesOfEachLength(t *testing.T) {
	for many := range 300 {
		b := append(binary.BigEndian.AppendUint16(nil, uint16(many)), strings.Repeat("n", many)+behind()...)
		want := api.OK
		switch {
		case many == 0:
			want = api.ErrForm
		case many > 16:
			want = api.ErrBig
		}
		if want != api.OK {
			refused(t, b, want)
			continue
		}
		if got, e := Read(b); e != api.OK || got != (api.Entry{Name: strings.Repeat("n", many), Tag: strings.Repeat("t", 32)}) {
			t.Errorf("a name of %d bytes: %s, %d", many, show(got), e)
		}
	}
	for head := range 1 << 16 {
		rightRead(t, append([]byte{byte(head >> 8), byte(head)}, whole()[2:]...))
	}
}

func TestReadOfWhatMayNotBe(t *testing.T) {
	e := plain()
	for _, name := range []string{"", "N", "0", "-", "a b", "A", "é", "a\x00", "\x00", "-a", "a_b", strings.Repeat("\x00", 16), strings.Repeat("-", 16)} {
		e := e
		e.Name = name
		refused(t, append(wantBody(e), e.Tag...), api.ErrForm)
	}
	for _, x := range []struct{ from, until, index int }{
		{1, 0, 0}, {5, 4, 0}, {1<<30 + 1, 1<<30 + 1, 0}, {1<<30 + 1, 1 << 30, 0}, {0, 1<<30 + 1, 0}, {1 << 30, 1<<30 - 1, 0}, {0, 1 << 31, 0}, {1 << 31, 1 << 31, 0}, {1<<32 - 1, 1<<32 - 1, 0}, {0, 1<<32 - 1, 0}, {1<<32 - 1, 0, 0}, {1<<31 - 1, 1<<31 - 1, 0},
		{0, 0, 65}, {0, 0, 128}, {0, 0, 255}, {0, 0, 256}, {0, 0, 1 << 15}, {0, 0, 1<<16 - 1}, {0, 0, 64 + 256}, {-1, 0, 0}, {-1, -1, 0}, {0, -1, 0}, {0, 0, -1},
	} {
		e := e
		e.From, e.Until, e.Index = x.from, x.until, x.index
		refused(t, append(wantBody(e), e.Tag...), api.ErrForm)
	}
}

// A text that is too long is met ahead of what is cut off, bytes that are too many or too few ahead of what may not be.
func TestWhichErrorOfReadComesFirst(t *testing.T) {
	odd := but(func(e *api.Entry) { e.Name, e.Until, e.Index = "N", 4, 65 })
	b := append(wantBody(odd), odd.Tag...)
	refused(t, b, api.ErrForm)
	for at := range b {
		refused(t, b[:at], api.ErrShort)
	}
	refused(t, append(slices.Clone(b), 0), api.ErrRest)
	for _, head := range []string{"\x00\x11", "\x00\xff", "\x01\x00", "\x01\x06", "\xff\xff", "\x10\x00"} {
		refused(t, []byte(head), api.ErrBig)
		refused(t, []byte(head+"n"), api.ErrBig)
		refused(t, []byte(head+behind()), api.ErrBig)
		refused(t, []byte(head+strings.Repeat("n", 17)+behind()), api.ErrBig)
		refused(t, []byte(head+strings.Repeat("N", 70000)), api.ErrBig)
	}
	refused(t, []byte("\x00"), api.ErrShort)
	refused(t, []byte("\x11"), api.ErrShort)
	refused(t, []byte("\xff"), api.ErrShort)
	refused(t, []byte("\x00\x10"), api.ErrShort)
	refused(t, []byte("\x00\x10"+strings.Repeat("N", 15)), api.ErrShort)
	refused(t, []byte("\x00\x00"+behind()), api.ErrForm)
	refused(t, []byte("\x00\x00"+behind()[1:]), api.ErrShort)
	refused(t, []byte("\x00\x00"+behind()+"x"), api.ErrRest)
}

func TestReadOfEachByteAtEachPlace(t *testing.T) {
	for at := range whole() {
		for x := range 256 {
			b := whole()
			b[at] = byte(x)
			rightRead(t, b)
			rightRead(t, append(b, 0))
			rightRead(t, b[:len(b)-1])
		}
	}
}

func TestReadOfBytesOfAllKinds(t *testing.T) {
	for many := range 200 {
		for seed := range 8 {
			b := made(many, byte(seed))
			rightRead(t, b)
			if many > 2 {
				rightRead(t, append([]byte{0, byte(seed)}, b[2:]...))
				rightRead(t, append([]byte{0, byte(many - 52)}, b[2:]...))
			}
		}
	}
	for _, e := range varied() {
		rightRead(t, append(wantBody(e), e.Tag...))
	}
}

// P11.4

func TestWhoOfKnownEntries(t *testing.T) {
	e := plain()
	for i, x := range []struct {
		change func(e *api.Entry)
		want   bool
	}{
		{func(e *api.Entry) {}, true},
		{func(e *api.Entry) { e.Name = "node-2" }, false},
		{func(e *api.Entry) { e.Name = "node-" }, false},
		{func(e *api.Entry) { e.Name = "node-11" }, false},
		{func(e *api.Entry) { e.Name = "Node-1" }, false},
		{func(e *api.Entry) { e.Name = "node-1\x00" }, false},
		{func(e *api.Entry) { e.Name = "" }, false},
		{func(e *api.Entry) { e.Id++ }, false},
		{func(e *api.Entry) { e.Id = 0 }, false},
		{func(e *api.Entry) { e.Id ^= 1 << 63 }, false},
		{func(e *api.Entry) { e.Name, e.Id = "", 0 }, false},
		{func(e *api.Entry) { e.From++ }, true},
		{func(e *api.Entry) { e.From = -1 }, true},
		{func(e *api.Entry) { e.Until++ }, true},
		{func(e *api.Entry) { e.Until = math.MinInt }, true},
		{func(e *api.Entry) { e.Index++ }, true},
		{func(e *api.Entry) { e.Index = math.MaxInt }, true},
		{func(e *api.Entry) { e.Tag = "" }, true},
		{func(e *api.Entry) { e.Tag = turned(e.Tag, 31, e.Tag[31]^1) }, true},
		{func(e *api.Entry) { *e = api.Entry{Name: e.Name, Id: e.Id} }, true},
		{func(e *api.Entry) { *e = api.Entry{From: e.From, Until: e.Until, Index: e.Index, Tag: e.Tag} }, false},
		{func(e *api.Entry) { *e = api.Entry{} }, false},
	} {
		other := but(x.change)
		if got := Who(e, other); got != x.want {
			t.Errorf("%d: %t", i, got)
		}
		if got := Who(other, e); got != x.want {
			t.Errorf("%d, the other way round: %t", i, got)
		}
	}
	if !Who(api.Entry{}, api.Entry{}) || !Who(api.Entry{From: 1, Tag: "x"}, api.Entry{Index: 2}) {
		t.Error("entries without a name and an identifier have one name and one identifier")
	}
}

func rightWho(t *testing.T, a, b api.Entry) {
	t.Helper()
	if got, want := Who(a, b), strings.Compare(a.Name, b.Name) == 0 && a.Id^b.Id == 0; got != want {
		t.Errorf("Who of %s and %s: %t", show(a), show(b), got)
	}
}

func TestWhoOfEntriesOfAllKinds(t *testing.T) {
	list := varied()
	for i, e := range list {
		rightWho(t, e, e)
		rightWho(t, e, plain())
		rightWho(t, list[(i*7+3)%len(list)], e)
	}
	for bit := range 64 {
		if Who(plain(), but(func(e *api.Entry) { e.Id ^= 1 << bit })) {
			t.Errorf("bit %d of the identifier does not count", bit)
		}
	}
	for at := range plain().Name {
		for bit := range 8 {
			if Who(plain(), but(func(e *api.Entry) { e.Name = turned(e.Name, at, e.Name[at]^1<<bit) })) {
				t.Errorf("bit %d of the name's byte %d does not count", bit, at)
			}
		}
	}
}

// listed answers entries of these names, unlike in all else.
func listed(names ...string) []api.Entry {
	list := make([]api.Entry, 0, len(names))
	for i, name := range names {
		list = append(list, api.Entry{Name: name, Id: uint64(i), From: i, Until: -i, Index: i * i, Tag: strings.Repeat("t", i)})
	}
	return list
}

func TestFindOfKnownLists(t *testing.T) {
	for i, x := range []struct {
		l    []api.Entry
		name string
		want int
	}{
		{nil, "a", -1}, {nil, "", -1}, {[]api.Entry{}, "a", -1}, {[]api.Entry{}, "", -1}, {make([]api.Entry, 0, 5), "", -1}, {listed("a")[:0], "a", -1},
		{listed("a"), "a", 0}, {listed("a"), "b", -1}, {listed("a"), "", -1}, {listed("a"), "A", -1}, {listed("a"), "aa", -1}, {listed("aa"), "a", -1}, {listed("a"), "a\x00", -1}, {listed("a\x00"), "a", -1},
		{listed("a", "b", "c"), "a", 0}, {listed("a", "b", "c"), "b", 1}, {listed("a", "b", "c"), "c", 2}, {listed("a", "b", "c"), "d", -1},
		{listed("a", "b", "a"), "a", 0}, {listed("b", "a", "a"), "a", 1}, {listed("b", "a", "b", "a", "b"), "a", 1}, {listed("b", "b", "b"), "b", 0}, {listed("c", "b", "b"), "b", 1},
		{listed(""), "", 0}, {listed("a", ""), "", 1}, {listed("a", "", ""), "", 1}, {listed("", "a", ""), "", 0}, {listed("", "a"), "a", 1}, {listed("a", "b"), "", -1}, {make([]api.Entry, 3), "", 0}, {make([]api.Entry, 3), "a", -1},
		{listed("No name!", "\xff", "é"), "é", 2}, {listed("No name!", "\xff", "é"), "\xff", 1}, {listed("é"), "e\u0301", -1},
		{listed(strings.Repeat("n", 65535), strings.Repeat("n", 65536)), strings.Repeat("n", 65536), 1}, {listed(strings.Repeat("n", 65535)), strings.Repeat("n", 65536), -1},
		{listed("a", "b", "c", "d")[:2], "c", -1}, {listed("a", "b", "c", "d")[2:], "a", -1}, {listed("a", "b", "c", "d")[2:], "d", 1},
	} {
		if got := Find(x.l, x.name); got != x.want {
			t.Errorf("%d: %d, wanted %d", i, got, x.want)
		}
	}
}

// Each list of up to five of three names is asked for each name.
func TestFindOfEachFewNames(t *testing.T) {
	names := []string{"", "a", "b"}
	lists := [][]string{{}}
	for range 5 {
		var longer [][]string
		for _, l := range lists {
			for _, name := range names {
				longer = append(longer, append(slices.Clone(l), name))
			}
		}
		lists = longer
		for _, l := range lists {
			for _, name := range append(names, "c") {
				if got, want := Find(listed(l...), name), slices.Index(l, name); got != want {
					t.Errorf("%q in %q: %d, wanted %d", name, l, got, want)
				}
			}
		}
	}
}

func TestFindOfManyEntries(t *testing.T) {
	names := make([]string, 1000)
	for i := range names {
		names[i] = fmt.Sprint("n", i%700)
	}
	for i, name := range names {
		if got := Find(listed(names...), name); got != i%700 {
			t.Errorf("%q: %d", name, got)
		}
	}
	if got := Find(listed(names...), "n700"); got != -1 {
		t.Errorf("a name that stands there not at all: %d", got)
	}
}

// P11.5

func TestWhatMayBeIsReadAsItWas(t *testing.T) {
	for _, e := range allowed() {
		if got, f := Read(Bytes(e)); got != e || f != api.OK {
			t.Errorf("%s is read as %s, %d", show(e), show(got), f)
		}
	}
}

// What may not be is not read as it was, even where its bytes are those of another entry that may be.
func TestWhatMayNotBeIsNotReadAsItWas(t *testing.T) {
	for _, e := range varied() {
		if got, f := Read(Bytes(e)); !mayBe(e) && got == e && f == api.OK {
			t.Errorf("%s is read", show(e))
		}
	}
}

func TestUnlikeEntriesHaveUnlikeBytes(t *testing.T) {
	of := map[string]api.Entry{}
	count := 0
	for _, e := range allowed() {
		b := string(Bytes(e))
		if other, ok := of[b]; ok && other != e {
			t.Errorf("%s and %s have the same bytes", show(e), show(other))
		} else if !ok {
			count++
		}
		of[b] = e
	}
	if count < 500 {
		t.Errorf("%d entries alone are unlike", count)
	}
}

// A name that ends where another's identifier begins is told from it by its length.
func TestNamesDoNotRunIntoIdentifiers(t *testing.T) {
	tag := strings.Repeat("t", 32)
	a := api.Entry{Name: "abc", Id: 0x6161616161616161, Tag: tag}
	for name := range strings.SplitSeq("a ab abca abcaa abcaaa abcaaaaaaaa", " ") {
		b := api.Entry{Name: name, Id: 0x6161616161616161, Tag: tag}
		if bytes.Equal(Bytes(a), Bytes(b)) || bytes.Equal(Body(a), Body(b)) {
			t.Errorf("%q is not told from abc", name)
		}
	}
}

// What is read is what is written of it: no two rows of bytes are one entry.
func writtenBack(t *testing.T, b []byte) {
	t.Helper()
	if e, f := Read(b); f == api.OK && (!bytes.Equal(Bytes(e), b) || !Right(e)) {
		t.Errorf("%q is read as %s, and written as %q", b, show(e), Bytes(e))
	}
}

func TestWhatIsReadIsWrittenBack(t *testing.T) {
	for at := range whole() {
		for x := range 256 {
			b := whole()
			b[at] = byte(x)
			writtenBack(t, b)
		}
	}
}

func FuzzWhatFollows(f *testing.F) {
	f.Add("node-1", uint64(258), 1, 2, 3, string(made(32, 1)), whole())
	f.Add("", uint64(0), 0, 0, 0, "", []byte{})
	f.Add("abcdefghijklmnop", uint64(math.MaxUint64), 1<<30, 1<<30, 64, strings.Repeat("\xff", 32), []byte("\x00\x00"+behind()))
	f.Add("N", uint64(1<<63), -1, math.MinInt, math.MaxInt, "t", []byte("\x00\x11"))
	f.Add("a", uint64(1), 1<<32+5, 1<<30+1, 65, strings.Repeat("t", 33), []byte("\x00\x01N"+behind()))
	f.Fuzz(func(t *testing.T, name string, id uint64, from, until, index int, tag string, b []byte) {
		e := api.Entry{Name: name, Id: id, From: from, Until: until, Index: index, Tag: tag}
		rightRight(t, e)
		rightBytes(t, e)
		rightRead(t, Bytes(e))
		rightRead(t, b)
		writtenBack(t, b)
		rightWho(t, e, but(func(e *api.Entry) { e.Name = name }))
		rightWho(t, e, but(func(e *api.Entry) { e.Name, e.Id = name, id }))
		if got, f := Read(Bytes(e)); mayBe(e) && (got != e || f != api.OK) {
			t.Errorf("%s is read as %s, %d", show(e), show(got), f)
		}
		if want := slices.Index([]string{"a", name}, name); Find(listed("a", name, name), name) != want {
			t.Errorf("%q is not found at %d", name, want)
		}
	})
}

// Rules 4, 5 and 8: what is handed in stays as it was, what is handed out is new memory, what lies behind a length does not count, and nothing is kept.

// blocks answers rows of bytes that Read takes, and others.
func blocks() [][]byte {
	list := append(nothings(), whole(), whole()[:57], append(whole(), 0), []byte("\x00\x11n"), []byte("\x00\x00"+behind()), []byte("\x00"))
	for _, e := range []api.Entry{{}, {Name: "a", Tag: strings.Repeat("t", 32)}, {Name: "abcdefghijklmnop", Index: 64, Tag: strings.Repeat("t", 32)}} {
		list = append(list, append(wantBody(e), e.Tag...))
	}
	return list
}

// fill writes over all of this memory, its spare room too.
func fill(b []byte) {
	b = b[:cap(b)]
	for i := range b {
		b[i] ^= 0xa5
	}
}

func TestBytesHandedInStayAsTheyWere(t *testing.T) {
	for _, b := range blocks() {
		want, f := wantRead(b)
		for _, more := range []string{string(made(90, 7)), behind(), string(whole()), strings.Repeat("\x00", 90)} {
			all := append(slices.Clone(b), more...)
			kept := slices.Clone(all)
			got, e := Read(all[:len(b)])
			if !bytes.Equal(all, kept) {
				t.Fatalf("%d bytes are changed", len(b))
			}
			if got != want || e != f {
				t.Errorf("%d bytes: what lies behind counts: %s, %d", len(b), show(got), e)
			}
			fill(all)
			if got != want {
				t.Errorf("%d bytes: what is read changes with them: %s", len(b), show(got))
			}
		}
	}
}

func TestListsHandedInStayAsTheyWere(t *testing.T) {
	all := listed("b", "a", "b", "c", "d")
	kept := slices.Clone(all)
	for size := range len(all) + 1 {
		for _, name := range []string{"", "a", "b", "c", "d", "e"} {
			if got, want := Find(all[:size], name), slices.Index([]string{"b", "a", "b", "c", "d"}[:size], name); got != want {
				t.Errorf("%q in %d: %d, wanted %d", name, size, got, want)
			}
		}
	}
	if !slices.Equal(all, kept) {
		t.Error("a list is changed")
	}
}

func TestWhatIsHandedOutIsNewMemory(t *testing.T) {
	for _, e := range []api.Entry{{}, plain(), {Name: "a"}, {Name: "N", From: -1, Tag: strings.Repeat("t", 100)}, {Tag: strings.Repeat("t", 32)}} {
		name, tag := strings.Clone(e.Name), strings.Clone(e.Tag)
		for _, write := range []func(api.Entry) []byte{Body, Bytes} {
			want := slices.Clone(write(e))
			first, second := write(e), write(e)
			for _, x := range first[len(first):cap(first)] {
				if x != 0 {
					t.Errorf("%s: the spare room holds %d", show(e), x)
				}
			}
			fill(first)
			if !bytes.Equal(second, want) {
				t.Errorf("%s: its bytes change with those that were handed out ahead of them", show(e))
			}
			if third := write(e); !bytes.Equal(third, want) {
				t.Errorf("%s: its bytes are kept", show(e))
			}
		}
		if e.Name != name || e.Tag != tag {
			t.Errorf("%s: its texts change with its bytes", show(e))
		}
	}
}

// Body and Bytes of one entry are each in room of their own.
func TestBodyAndBytesShareNothing(t *testing.T) {
	e := plain()
	body, all := Body(e), Bytes(e)
	wantAll := slices.Clone(all)
	fill(body)
	if !bytes.Equal(all, wantAll) {
		t.Error("Bytes change with Body")
	}
	body = Body(e)
	fill(all)
	if !bytes.Equal(body, wantBody(e)) {
		t.Error("Body changes with Bytes")
	}
}

// A call leaves nothing behind: whatever comes ahead of it, it answers what it would have.
func TestNothingIsKept(t *testing.T) {
	e := plain()
	for _, other := range varied() {
		Right(other)
		Body(other)
		Read(Bytes(other))
		Who(other, e)
		Find([]api.Entry{other, e}, other.Name)
		if !Right(e) || Right(api.Entry{}) || !Who(e, e) || Who(e, api.Entry{}) || Find([]api.Entry{{}, e}, e.Name) != 1 || !bytes.Equal(Bytes(e), whole()) {
			t.Fatalf("behind %s: other answers", show(other))
		}
		if got, f := Read(whole()); got != e || f != api.OK {
			t.Fatalf("behind %s: %s, %d", show(other), show(got), f)
		}
		if got, f := Read(nil); got != (api.Entry{}) || f != api.ErrShort {
			t.Fatalf("behind %s: %s, %d", show(other), show(got), f)
		}
	}
}
