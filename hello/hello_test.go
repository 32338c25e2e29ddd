package hello

import (
	"bytes"
	"encoding/hex"
	"math"
	"slices"
	"strings"
	"testing"

	"carcanet/api"
)

// P17.1

// kindOf answers what Kind has to.
func kindOf(first int) int {
	return map[int]int{1: First, 2: Second, 3: Record, 4: Reset}[first]
}

func TestKindsAreCountedUp(t *testing.T) {
	if First != 1 || Second != 2 || Record != 3 || Reset != 4 {
		t.Errorf("%d %d %d %d", First, Second, Record, Reset)
	}
}

func TestKindOfNoBytes(t *testing.T) {
	for i, b := range nothings() {
		if got := Kind(b); got != 0 {
			t.Errorf("%d: %d", i, got)
		}
	}
}

func TestKindOfEachFirstByte(t *testing.T) {
	rests := []string{"", "\x00", "\x01", "\x02", "\x03", "\x04", "\x05", "\xff", strings.Repeat("\x00", 100), strings.Repeat("\xff", 100), made(2048, 1), made(2049, 2), strings.Repeat("\x01", 100000)}
	for _, p := range packets() {
		for _, text := range p.known {
			rests = append(rests, text, text[1:])
		}
	}
	for first := range 256 {
		for _, rest := range rests {
			if got := Kind([]byte(byteText(first) + rest)); got != kindOf(first) {
				t.Errorf("%d with %d bytes behind: %d", first, len(rest), got)
			}
		}
	}
}

func TestKindOfWhatIsPut(t *testing.T) {
	h, _ := PutHello(plainHello())
	w, _ := PutWelcome(plainWelcome())
	for i, x := range []struct {
		b    []byte
		want int
	}{{h, First}, {w, Second}, {PutReset(5), Reset}, {PutReset(0), Reset}} {
		if got := Kind(x.b); got != x.want {
			t.Errorf("%d: %d", i, got)
		}
	}
}

// P17.2

// The tags here are another program's.
func TestGreetOfKnownTags(t *testing.T) {
	for i, x := range []struct {
		psk, to string
		nonce   uint64
		own     api.Entry
		tag     string
	}{
		{"psk", "b", 7, plainEntry(), "46e6cb1215c2ad0463b9323b2bb971e98502efef83eaab5c2d81b92b09443e23"},
		{"", "", 0, api.Entry{}, "d29348fd18abf86cf09d3373189b6ba4835e7c96ff196be5a984ebf549489122"},
		{strings.Repeat("k", 64), "abcdefghijklmnop", math.MaxUint64, longEntry(), "f3933cbba3369eeb2668a737164c6376a867bd0f5ed291db99ffd6c095521ed8"},
		{strings.Repeat("k", 65), "a", 1, otherEntry(), "57f33935d6d422f97c59d225abfb3aca84c7c5f81a91f6e7e67283ac76ddcb62"},
		{made(100, 3), "No name!", 1 << 63, wrongEntry(), "bad80203c2bc291360ebe86e33c1d51aef350502707497ae91e3a6da515d0c36"},
		{"\x00", strings.Repeat("t", 65536), 258, hugeEntry(), "f946b657c5894977513f6f69b06bc3e2771976210441e377783973be6b27d6d0"},
		{"psk", strings.Repeat("t", 65535), 258, plainEntry(), "622baf2031dbc29f4e30fcc24cb8287c7f7d5a926478fed0351b18c2f4579216"},
	} {
		got := Greet(x.psk, x.to, x.nonce, x.own)
		if tag := hex.EncodeToString([]byte(got.Tag)); tag != x.tag {
			t.Errorf("%d: %s", i, tag)
		}
		if got.To != x.to || got.Nonce != x.nonce || got.Entry != x.own || !Checks(x.psk, got) {
			t.Errorf("%d: %s", i, show(got))
		}
	}
}

func TestAnswerOfKnownTags(t *testing.T) {
	for i, x := range []struct {
		psk           string
		first, second uint64
		asker, own    api.Entry
		tag           string
	}{
		{"psk", 7, 9, plainEntry(), otherEntry(), "69324024be0b56d8651ccf85e9134ee4aeb78ab764f609f8fc8ec1d63f2f8651"},
		{"psk", 7, 9, otherEntry(), plainEntry(), "42a3214f0e5c453c45049a23557396fa485dd3777a2e8dfc5da7a28126ba0a71"},
		{"", 0, 0, api.Entry{}, api.Entry{}, "06925119eed0687c9943a9ad28ba7c0d5ad9a64825668b563bf42ad82d3ead2b"},
		{strings.Repeat("k", 64), math.MaxUint64, math.MaxUint64, longEntry(), longEntry(), "835e70c4d9a68b9a0ea826785279b516bd90d1676b616fb28d2e77a64349663d"},
		{strings.Repeat("k", 65), 1, 2, api.Entry{}, plainEntry(), "81ce0b7cad4ad59e02cf59f04afff631e06c7516518ba6ae037ab62f254db00a"},
		{made(100, 3), 1 << 63, 1, wrongEntry(), otherEntry(), "c32499a18d5b72993fc85778a214f034e1f59c8b8b00c99de553dc9cf8d4b9f4"},
		{"\x00", 258, 259, hugeEntry(), hugeEntry(), "8bd560edbcd45eb9c8e8dce76c9951f444f9f8c267c9a695af8440299cb813a7"},
	} {
		got := Answer(x.psk, Hello{To: "b", Nonce: x.first, Entry: x.asker, Tag: "t"}, x.second, x.own)
		if tag := hex.EncodeToString([]byte(got.Tag)); tag != x.tag {
			t.Errorf("%d: %s", i, tag)
		}
		if got.First != x.first || got.Second != x.second || got.Entry != x.own || !Agrees(x.psk, got, x.asker) {
			t.Errorf("%d: %s", i, show(got))
		}
	}
}

// rightGreet asks whether a hello is what it should be, and checks.
func rightGreet(t *testing.T, psk, to string, nonce uint64, own api.Entry) {
	t.Helper()
	want := wantGreet(psk, to, nonce, own)
	if got := Greet(psk, to, nonce, own); got != want {
		t.Errorf("Greet by a key of %d bytes: %s, wanted %s", len(psk), show(got), show(want))
	}
	if !Checks(psk, want) {
		t.Errorf("by a key of %d bytes %s does not check", len(psk), show(want))
	}
}

// rightAnswer asks whether a welcome is what it should be, and agrees.
func rightAnswer(t *testing.T, psk string, h Hello, second uint64, own api.Entry) {
	t.Helper()
	want := wantAnswer(psk, h.Nonce, second, h.Entry, own)
	if got := Answer(psk, h, second, own); got != want {
		t.Errorf("Answer to %s by a key of %d bytes: %s, wanted %s", show(h), len(psk), show(got), show(want))
	}
	if !Agrees(psk, want, h.Entry) {
		t.Errorf("by a key of %d bytes %s does not agree", len(psk), show(want))
	}
}

// Whatever comes in, a hello has it, and its tag.
func TestGreetOfAllKinds(t *testing.T) {
	for _, psk := range append(keys(), "psk\x00", "\x00", made(65, 6)+"\x00") {
		rightGreet(t, psk, "node-2", 258, plainEntry())
		rightGreet(t, psk, "", 0, api.Entry{})
		rightGreet(t, psk, made(1000, 1), math.MaxUint64, hugeEntry())
	}
	for _, to := range names() {
		rightGreet(t, "psk", to, 258, plainEntry())
	}
	for many := range 300 {
		rightGreet(t, "psk", strings.Repeat("n", many), 258, plainEntry())
		rightGreet(t, strings.Repeat("k", many), "b", 258, plainEntry())
		rightGreet(t, "psk", "b", 258, butEntry(func(e *api.Entry) { e.Name = made(many, 2) }))
		rightGreet(t, "psk", "b", 258, butEntry(func(e *api.Entry) { e.Tag = made(many, 3) }))
	}
	for _, nonce := range numbers() {
		rightGreet(t, "psk", "node-2", nonce, plainEntry())
	}
	for _, own := range append(fineEntries(), oddEntries()...) {
		rightGreet(t, "psk", "node-2", 258, own)
	}
}

// A welcome goes by the hello's Nonce and Entry alone: whom it is to, and its tag, do not count.
func TestAnswerOfAllKinds(t *testing.T) {
	for _, psk := range append(keys(), "psk\x00", "\x00", made(65, 6)+"\x00") {
		rightAnswer(t, psk, plainHello(), 259, otherEntry())
		rightAnswer(t, psk, Hello{}, 0, api.Entry{})
		rightAnswer(t, psk, greatHello(), math.MaxUint64, hugeEntry())
	}
	for _, h := range hellos() {
		rightAnswer(t, "psk", h, 259, otherEntry())
	}
	for _, n := range numbers() {
		rightAnswer(t, "psk", plainHello(), n, otherEntry())
		rightAnswer(t, "psk", Hello{Nonce: n}, n, otherEntry())
	}
	for many := range 300 {
		long := butEntry(func(e *api.Entry) { e.Name = made(many, 2) })
		rightAnswer(t, "psk", Hello{Entry: long}, 259, plainEntry())
		rightAnswer(t, strings.Repeat("k", many), plainHello(), 259, long)
	}
	for _, own := range append(fineEntries(), oddEntries()...) {
		rightAnswer(t, "psk", plainHello(), 259, own)
		rightAnswer(t, "psk", Hello{Entry: own}, 259, own)
	}
}

// otherHellos answers hellos that differ from this one in one field, but for its tag.
func otherHellos(h Hello) []Hello {
	var list []Hello
	for _, x := range []string{"node-3", "node-22", "node-", "Node-2", "", "n", "node-2\x00", strings.Repeat("n", 65536)} {
		list = append(list, Hello{x, h.Nonce, h.Entry, h.Tag})
	}
	for bit := range 64 {
		list = append(list, Hello{h.To, h.Nonce ^ 1<<bit, h.Entry, h.Tag})
	}
	for _, x := range otherEntries(h.Entry) {
		list = append(list, Hello{h.To, h.Nonce, x, h.Tag})
	}
	return list
}

// otherWelcomes answers welcomes that differ from this one, likewise.
func otherWelcomes(w Welcome) []Welcome {
	list := []Welcome{{w.Second, w.First, w.Entry, w.Tag}}
	for bit := range 64 {
		list = append(list, Welcome{w.First ^ 1<<bit, w.Second, w.Entry, w.Tag}, Welcome{w.First, w.Second ^ 1<<bit, w.Entry, w.Tag})
	}
	for _, x := range otherEntries(w.Entry) {
		list = append(list, Welcome{w.First, w.Second, x, w.Tag})
	}
	return list
}

// otherEntries answers entries whose texts are not this one's.
func otherEntries(own api.Entry) []api.Entry {
	return slices.DeleteFunc(append(fineEntries(), oddEntries()...), func(e api.Entry) bool { return entryText(e) == entryText(own) })
}

// otherTags answers texts that are not this tag: with a bit changed in each place, and of other lengths.
func otherTags(tag string) []string {
	list := []string{"", tag[:1], tag[:16], tag[:31], tag[1:], tag + "\x00", "\x00" + tag, tag + tag, strings.Repeat("\x00", 32), strings.Repeat("\xff", 32), hex.EncodeToString([]byte(tag)), strings.Repeat(tag, 9), tag + strings.Repeat("\x00", 224), tag + strings.Repeat("\x00", 65536)}
	for at := range len(tag) {
		for bit := range 8 {
			list = append(list, turned(tag, at, tag[at]^1<<bit))
		}
		list = append(list, turned(tag, at, tag[at]^255), tag[:at]+tag[at+1:])
	}
	return list
}

func TestChecksOfWhatIsChanged(t *testing.T) {
	for _, psk := range keys() {
		h := wantGreet(psk, "node-2", 258, plainEntry())
		if !Checks(psk, h) {
			t.Errorf("by a key of %d bytes: nothing is changed", len(psk))
		}
		for _, x := range otherHellos(h) {
			if Checks(psk, x) {
				t.Errorf("by a key of %d bytes: %s", len(psk), show(x))
			}
		}
		for _, x := range otherTags(h.Tag) {
			if Checks(psk, Hello{h.To, h.Nonce, h.Entry, x}) {
				t.Errorf("by a key of %d bytes: the tag %.40x of %d bytes", len(psk), x, len(x))
			}
		}
		for _, x := range keys() {
			if got := Checks(x, h); got != (x == psk) {
				t.Errorf("by a key of %d bytes, of one of %d: %t", len(x), len(psk), got)
			}
		}
	}
}

func TestAgreesOfWhatIsChanged(t *testing.T) {
	for _, psk := range keys() {
		asker := plainEntry()
		w := wantAnswer(psk, 258, 259, asker, otherEntry())
		if !Agrees(psk, w, asker) {
			t.Errorf("by a key of %d bytes: nothing is changed", len(psk))
		}
		for _, x := range otherWelcomes(w) {
			if Agrees(psk, x, asker) {
				t.Errorf("by a key of %d bytes: %s", len(psk), show(x))
			}
		}
		for _, x := range otherTags(w.Tag) {
			if Agrees(psk, Welcome{w.First, w.Second, w.Entry, x}, asker) {
				t.Errorf("by a key of %d bytes: the tag %.40x of %d bytes", len(psk), x, len(x))
			}
		}
		for _, x := range keys() {
			if got := Agrees(x, w, asker); got != (x == psk) {
				t.Errorf("by a key of %d bytes, of one of %d: %t", len(x), len(psk), got)
			}
		}
		for _, x := range otherEntries(asker) {
			if Agrees(psk, w, x) {
				t.Errorf("by a key of %d bytes: another asker: %s", len(psk), show(x))
			}
		}
		if Agrees(psk, Welcome{w.First, w.Second, asker, w.Tag}, w.Entry) {
			t.Errorf("by a key of %d bytes: asker and answerer change places", len(psk))
		}
	}
}

// Tags go by texts as they are put: what is cut off does not count, nor do bytes 0 behind a short key.
func TestTagsGoByTextsAndBlocks(t *testing.T) {
	long := strings.Repeat("t", 65535)
	h := Greet("psk", long+"a", 258, plainEntry())
	for _, to := range []string{long, long + "b", long + long} {
		if !Checks("psk", Hello{to, h.Nonce, h.Entry, h.Tag}) {
			t.Errorf("to a text of %d bytes", len(to))
		}
	}
	if Checks("psk", Hello{long[1:], h.Nonce, h.Entry, h.Tag}) {
		t.Error("to a text of 65534 bytes")
	}
	h, w := wantGreet("psk", "b", 258, plainEntry()), wantAnswer("psk", 258, 259, plainEntry(), otherEntry())
	for many := range 62 {
		if psk := "psk" + strings.Repeat("\x00", many); !Checks(psk, h) || !Agrees(psk, w, plainEntry()) {
			t.Errorf("%d bytes 0 behind the key", many)
		}
	}
	if psk := "psk" + strings.Repeat("\x00", 62); Checks(psk, h) || Agrees(psk, w, plainEntry()) {
		t.Error("a key above a block's length")
	}
}

// A tag that is right of other texts, of another way to lay them, or with another head, is not right.
func TestTagsOfOtherTexts(t *testing.T) {
	e, nonce := entryText(plainEntry()), wantNum(258)
	for i, of := range []string{
		"", "carcanet hello", "\x00\x06node-2" + nonce + e, "carcanet welcome\x00\x06node-2" + nonce + e, "carcanet hello \x00\x06node-2" + nonce + e, "carcanet hellonode-2" + nonce + e, "carcanet hello\x06node-2" + nonce + e,
		"\x00\x0ecarcanet hello\x00\x06node-2" + nonce + e, "carcanet hello" + nonce + "\x00\x06node-2" + e, "carcanet hello\x00\x06node-2\x00\x00\x01\x02" + e, "carcanet hello\x00\x06node-2\x02\x01\x00\x00\x00\x00\x00\x00" + e, "carcanet hello\x00\x06node-2" + nonce + e[2:],
		"carcanet hello\x00\x06node-2" + e + nonce, "carcanet hello\x00\x06node-2" + nonce + e[:len(e)-32], "carcanet hello\x00\x06node-2" + nonce + e + "\x00", "carcanet hello\x00\x06node-2" + nonce + "\x00\x1a" + e[2:len(e)-32], "carcanet hello\x00\x06node-2" + nonce, "\x01\x00\x06node-2" + nonce + e,
	} {
		if Checks("psk", Hello{"node-2", 258, plainEntry(), wantTag("psk", of)}) {
			t.Errorf("hello, %d", i)
		}
	}
	o, second := entryText(otherEntry()), wantNum(259)
	for i, of := range []string{
		"", "carcanet welcome", nonce + second + e + o, "carcanet hello" + nonce + second + e + o, "carcanet welcome " + nonce + second + e + o, "carcanet welcome" + second + nonce + e + o, "carcanet welcome" + nonce + second + o + e, "carcanet welcome" + nonce + second + o, "carcanet welcome" + nonce + second + e, "carcanet welcome" + nonce + e + o,
		"carcanet welcome" + second + e + o, "carcanet welcome" + nonce + second + e[2:] + o[2:], "carcanet welcome" + e + o + nonce + second, "carcanet welcome" + nonce + second + e + o + "\x00", "\x00\x10carcanet welcome" + nonce + second + e + o, "carcanet welcome" + nonce[4:] + second[4:] + e + o, "carcanet welcome" + nonce + second + e + e, "carcanet welcome" + nonce + second + o + o, "\x02" + nonce + second + o,
	} {
		if Agrees("psk", Welcome{258, 259, otherEntry(), wantTag("psk", of)}, plainEntry()) {
			t.Errorf("welcome, %d", i)
		}
	}
}

func TestChecksAndAgreesOfAnyTags(t *testing.T) {
	for _, h := range hellos() {
		if got, want := Checks("psk", h), h == wantGreet("psk", h.To, h.Nonce, h.Entry); got != want {
			t.Errorf("%s checks: %t", show(h), got)
		}
	}
	for _, w := range welcomes() {
		if got, want := Agrees("psk", w, plainEntry()), w == wantAnswer("psk", w.First, w.Second, plainEntry(), w.Entry); got != want {
			t.Errorf("%s agrees: %t", show(w), got)
		}
	}
}

// P17.3 and P17.4

// isPut asks that this is put as these bytes, and taken from them.
func isPut(t *testing.T, p packet, what any, want string) {
	t.Helper()
	if got, e := p.put(what); string(got) != want || e != api.OK {
		t.Errorf("Put of %s: %.300q, %d, wanted %.300q", show(what), got, e, want)
	}
	if got, e := p.take([]byte(want)); got != what || e != api.OK {
		t.Errorf("Take of %.300q: %s, %d, wanted %s", want, show(got), e, show(what))
	}
}

// noPut asks that this is refused.
func noPut(t *testing.T, p packet, what any) {
	t.Helper()
	if got, e := p.put(what); len(got) != 0 || e != api.ErrArg {
		t.Errorf("Put of %s: %.300q, %d", show(what), got, e)
	}
}

func TestPutOfKnownPackets(t *testing.T) {
	for _, p := range packets() {
		for i, what := range p.what {
			isPut(t, p, what, p.known[i])
		}
	}
	h, w := helloPacket(), welcomePacket()
	isPut(t, h, Hello{"b", 7, otherEntry(), made(32, 1)}, "\x01\x00\x01b\x00\x00\x00\x00\x00\x00\x00\x07"+otherText+made(32, 1))
	isPut(t, h, Hello{"z9-", 1 << 63, longEntry(), made(32, 2)}, "\x01\x00\x03z9-\x80\x00\x00\x00\x00\x00\x00\x00"+longText+made(32, 2))
	isPut(t, h, Hello{"node-1", 0x0102030405060708, plainEntry(), made(32, 3)}, "\x01\x00\x06node-1\x01\x02\x03\x04\x05\x06\x07\x08"+plainText+made(32, 3))
	isPut(t, w, Welcome{7, 9, otherEntry(), made(32, 1)}, "\x02\x00\x00\x00\x00\x00\x00\x00\x07\x00\x00\x00\x00\x00\x00\x00\x09"+otherText+made(32, 1))
	isPut(t, w, Welcome{9, 7, otherEntry(), made(32, 1)}, "\x02\x00\x00\x00\x00\x00\x00\x00\x09\x00\x00\x00\x00\x00\x00\x00\x07"+otherText+made(32, 1))
	isPut(t, w, Welcome{5, 5, longEntry(), made(32, 2)}, "\x02\x00\x00\x00\x00\x00\x00\x00\x05\x00\x00\x00\x00\x00\x00\x00\x05"+longText+made(32, 2))
	isPut(t, w, Welcome{1 << 63, 0x0102030405060708, plainEntry(), made(32, 3)}, "\x02\x80\x00\x00\x00\x00\x00\x00\x00\x01\x02\x03\x04\x05\x06\x07\x08"+plainText+made(32, 3))
}

// Each thing that may not be is refused, alone and with others.
func TestPutHelloOfWhatMayNotBe(t *testing.T) {
	p := helloPacket()
	for bits := range 16 {
		for _, by := range []Hello{{}, {"B", 0, wrongEntry(), made(31, 1)}, {made(17, 2), 0, hugeEntry(), made(33, 2)}, {"a b", 0, butEntry(func(e *api.Entry) { e.Tag = "" }), ""}} {
			for _, base := range []Hello{plainHello(), greatHello(), leastHello()} {
				if x := mixed(base, by, bits); bits > 0 {
					noPut(t, p, x)
				}
			}
		}
	}
	for _, to := range []string{"", "B", "1", "-", "a b", "a\x00", "é", "abcdefghijklmnopq", strings.Repeat("a", 272)} {
		noPut(t, p, Hello{to, 258, plainEntry(), made(32, 5)})
	}
	for _, e := range oddEntries() {
		noPut(t, p, Hello{"b", 258, e, made(32, 5)})
	}
	for many := range 300 {
		if many != 32 {
			noPut(t, p, Hello{"b", 258, plainEntry(), made(many, 5)})
		}
	}
	noPut(t, p, Hello{"b", 0, plainEntry(), made(32, 5)})
}

func TestPutWelcomeOfWhatMayNotBe(t *testing.T) {
	p := welcomePacket()
	for bits := range 16 {
		for _, by := range []Welcome{{}, {0, 0, wrongEntry(), made(31, 1)}, {0, 0, hugeEntry(), made(33, 2)}} {
			for _, base := range []Welcome{plainWelcome(), greatWelcome(), leastWelcome()} {
				if x := blended(base, by, bits); bits > 0 {
					noPut(t, p, x)
				}
			}
		}
	}
	for _, e := range oddEntries() {
		noPut(t, p, Welcome{258, 259, e, made(32, 5)})
	}
	for many := range 300 {
		if many != 32 {
			noPut(t, p, Welcome{258, 259, plainEntry(), made(many, 5)})
		}
	}
	noPut(t, p, Welcome{0, 259, plainEntry(), made(32, 5)})
	noPut(t, p, Welcome{258, 0, plainEntry(), made(32, 5)})
}

func TestPutAtEachEdge(t *testing.T) {
	done := map[bool]int{}
	put := func(p packet, what any, right bool, text string) {
		done[right]++
		if right {
			isPut(t, p, what, text)
		} else {
			noPut(t, p, what)
		}
	}
	for _, h := range hellos() {
		put(helloPacket(), h, helloMayBe(h), helloBytes(h))
	}
	for _, w := range welcomes() {
		put(welcomePacket(), w, welcomeMayBe(w), welcomeBytes(w))
	}
	if done[true] < 200 || done[false] < 500 {
		t.Errorf("%v", done)
	}
}

// A reset is put whatever it is of, and taken if that is not 0.
func TestPutReset(t *testing.T) {
	for _, id := range numbers() {
		want := "\x04" + wantNum(id)
		if got := PutReset(id); string(got) != want {
			t.Errorf("%d: %q", id, got)
		}
		if id > 0 {
			isPut(t, resetPacket(), id, want)
		}
	}
	for bit := range 64 {
		isPut(t, resetPacket(), uint64(1)<<bit, "\x04"+wantNum(1<<bit))
	}
	if got := PutReset(5); !slices.Equal(got, []byte{4, 0, 0, 0, 0, 0, 0, 0, 5}) { // the chapter's example
		t.Errorf("%v", got)
	}
	refused(t, resetPacket(), "\x04\x00\x00\x00\x00\x00\x00\x00\x00", api.ErrForm)
}

// rightTake asks whether what is taken is what it should be, and answers the error.
func rightTake(t *testing.T, p packet, b []byte) api.Errno {
	t.Helper()
	want, wantErr := p.want(b)
	got, e := p.take(b)
	if got != want || e != wantErr {
		t.Errorf("Take %d of %d bytes %.300q: %s, %d, wanted %s, %d", p.kind, len(b), b, show(got), e, show(want), wantErr)
	}
	return e
}

// refused asks that these bytes tell this error, and nothing else.
func refused(t *testing.T, p packet, b string, want api.Errno) {
	t.Helper()
	if got, e := p.take([]byte(b)); got != p.none || e != want {
		t.Errorf("Take %d of %d bytes %.300q: %s, %d, wanted %d", p.kind, len(b), b, show(got), e, want)
	}
	if _, e := p.want([]byte(b)); e != want {
		t.Errorf("the test is at odds with itself: %d of %d bytes %.300q: %d", p.kind, len(b), b, e)
	}
}

func TestTakeOfNoBytes(t *testing.T) {
	for _, p := range packets() {
		refused(t, p, "", api.ErrKind)
		for i, b := range nothings() {
			if got, e := p.take(b); got != p.none || e != api.ErrKind {
				t.Errorf("%d, %d: %s, %d", p.kind, i, show(got), e)
			}
		}
	}
}

// A first byte that is another one is told ahead of all else.
func TestTakeOfEachFirstByte(t *testing.T) {
	rests := []string{"", "\x00", strings.Repeat("\x00", 8), strings.Repeat("\xff", 200), strings.Repeat("\x00", 200), made(60, 3), strings.Repeat("\x01", 5000)}
	for _, p := range packets() {
		for _, text := range p.known {
			rests = append(rests, text[1:], text[1:]+"\x00", text[1:len(text)-1], text)
		}
	}
	for _, p := range packets() {
		for first := range 256 {
			for _, rest := range rests {
				if b := byteText(first) + rest; first == p.kind {
					rightTake(t, p, []byte(b))
				} else {
					refused(t, p, b, api.ErrKind)
				}
			}
		}
		refused(t, p, byteText(p.kind), api.ErrShort)
	}
}

func TestTakeOfWhatIsCutShort(t *testing.T) {
	for _, p := range packets() {
		for _, text := range p.known {
			for at := 1; at < len(text); at++ {
				refused(t, p, text[:at], api.ErrShort)
			}
			for at := 1; at < len(text); at++ {
				rightTake(t, p, []byte(text[at:]))
				rightTake(t, p, []byte(text[:1]+text[at:]))
			}
		}
	}
}

func TestTakeOfMoreBytes(t *testing.T) {
	for _, p := range packets() {
		for _, text := range p.known {
			for x := range 256 {
				refused(t, p, text+byteText(x), api.ErrRest)
			}
			for _, more := range []string{text, "\x00\x00", made(32, 4), strings.Repeat("\x00", 2048), made(70000, 4)} {
				refused(t, p, text+more, api.ErrRest)
			}
		}
	}
}

// Numbers of a packet that is all right but for them.
const (
	zero  = "\x00\x00\x00\x00\x00\x00\x00\x00"
	seven = "\x00\x00\x00\x00\x00\x00\x00\x07"
	nine  = "\x00\x00\x00\x00\x00\x00\x00\x09"
)

// someTag is the tag of such a packet.
var someTag = made(32, 1)

// A frame is a packet, and what stands ahead of an entry's text in it.
type frame struct {
	packet
	ahead string
}

// with answers what is taken of a frame with this entry.
func (f frame) with(e api.Entry) any {
	if f.kind == First {
		return Hello{"b", 7, e, someTag}
	}
	return Welcome{7, 9, e, someTag}
}

func frames() []frame {
	return []frame{{helloPacket(), "\x01\x00\x01b" + seven}, {welcomePacket(), "\x02" + seven + nine}}
}

// sized answers a text of so many bytes, its length ahead.
func sized(many int) string { return wantText(strings.Repeat("k", many)) }

func TestTakeOfNamesOfEachLength(t *testing.T) {
	p := helloPacket()
	for many := range 300 {
		b := "\x01" + sized(many) + seven + plainText + someTag
		switch {
		case many == 0:
			refused(t, p, b, api.ErrForm)
		case many > 16:
			refused(t, p, b, api.ErrBig)
		default:
			isPut(t, p, Hello{strings.Repeat("k", many), 7, plainEntry(), someTag}, b)
		}
	}
	for _, many := range []int{17, 18, 255, 256, 257, 272, 1 << 12, 1 << 15, 65535} {
		size := string([]byte{byte(many >> 8), byte(many)})
		for _, behind := range []string{"", "k", strings.Repeat("k", many-1), strings.Repeat("k", many), strings.Repeat("k", many) + seven + plainText + someTag, strings.Repeat("\x00", 70000)} {
			refused(t, p, "\x01"+size+behind, api.ErrBig)
		}
	}
	refused(t, p, "\x01\x00", api.ErrShort)
	refused(t, p, "\x01\xff", api.ErrShort)
	refused(t, p, "\x01\x00\x10", api.ErrShort)
	refused(t, p, "\x01\x00\x10"+strings.Repeat("k", 15), api.ErrShort)
}

// A name of 16 bytes may be one, and one of 17 is too long, even to be none.
func TestTakeOfNames(t *testing.T) {
	p := helloPacket()
	for _, to := range names() {
		b := "\x01" + wantText(to) + seven + plainText + someTag
		switch {
		case len(to) > 16:
			refused(t, p, b, api.ErrBig)
		case nameForm.MatchString(to):
			isPut(t, p, Hello{to, 7, plainEntry(), someTag}, b)
		default:
			refused(t, p, b, api.ErrForm)
		}
	}
	for first := range 256 {
		rightTake(t, p, []byte("\x01\x00\x01"+byteText(first)+seven+plainText+someTag))
		rightTake(t, p, []byte("\x01\x00\x03a"+byteText(first)+"b"+seven+plainText+someTag))
	}
}

func TestTakeOfNumbersThatAreZero(t *testing.T) {
	refused(t, helloPacket(), "\x01\x00\x01b"+zero+plainText+someTag, api.ErrForm)
	refused(t, welcomePacket(), "\x02"+zero+nine+plainText+someTag, api.ErrForm)
	refused(t, welcomePacket(), "\x02"+seven+zero+plainText+someTag, api.ErrForm)
	refused(t, welcomePacket(), "\x02"+zero+zero+plainText+someTag, api.ErrForm)
	refused(t, resetPacket(), "\x04"+zero, api.ErrForm)
	for bit := range 64 {
		n := wantNum(1 << bit)
		isPut(t, helloPacket(), Hello{"b", 1 << bit, plainEntry(), someTag}, "\x01\x00\x01b"+n+plainText+someTag)
		isPut(t, welcomePacket(), Welcome{1 << bit, 9, plainEntry(), someTag}, "\x02"+n+nine+plainText+someTag)
		isPut(t, welcomePacket(), Welcome{7, 1 << bit, plainEntry(), someTag}, "\x02"+seven+n+plainText+someTag)
	}
}

// An entry's text of 128 bytes is read, and is no entry's; one of 129 is too long.
func TestTakeOfEntriesOfEachLength(t *testing.T) {
	long := entryBytes(longEntry())
	for _, f := range frames() {
		for many := range 400 {
			want := api.ErrForm
			if many > 128 {
				want = api.ErrBig
			}
			refused(t, f.packet, f.ahead+sized(many)+someTag, want)
			refused(t, f.packet, f.ahead+wantText(strings.Repeat("\x00", many))+someTag, want)
			if many > len(long) {
				refused(t, f.packet, f.ahead+wantText(long+strings.Repeat("\x00", many-len(long)))+someTag, want)
			}
		}
		for _, many := range []int{129, 130, 255, 256, 257, 256 + 58, 1 << 15, 65535} {
			size := string([]byte{byte(many >> 8), byte(many)})
			for _, behind := range []string{"", "k", strings.Repeat("k", many-1), strings.Repeat("k", many), strings.Repeat("k", many) + someTag, strings.Repeat("k", many) + someTag + "k", plainText[2:] + someTag} {
				refused(t, f.packet, f.ahead+size+behind, api.ErrBig)
			}
		}
		for _, size := range []string{"", "\x00", "\xff", "\x00\x80", "\x00\x80" + strings.Repeat("k", 127)} {
			refused(t, f.packet, f.ahead+size, api.ErrShort)
		}
	}
}

// entryTexts answers bytes that are no entry, or one that may not be, of at most 128 bytes each.
func entryTexts() []string {
	list := []string{"", "\x00", "\x00\x01", "\x00\x11abcdefghijklmnopq" + strings.Repeat("\x00", 50), "\xff\xff", "\xff\xff" + strings.Repeat("n", 100), strings.Repeat("\x00", 52), strings.Repeat("\x00", 128), strings.Repeat("\xff", 128), made(53, 5), plainText, entryBytes(plainEntry()) + "\x00", entryBytes(longEntry()) + strings.Repeat("\x00", 60), "\x00" + entryBytes(plainEntry()), entryBytes(leastEntry()) + entryBytes(leastEntry())}
	for at := range entryBytes(plainEntry()) {
		list = append(list, entryBytes(plainEntry())[:at], entryBytes(longEntry())[:at])
	}
	for _, e := range oddEntries() {
		if b := entryBytes(e); len(b) <= 128 && e.Until < 1<<32 && e.Index < 1<<16 {
			list = append(list, b)
		}
	}
	return list
}

// What is wrong with an entry alone is one error, whatever a reader of it alone would tell.
func TestTakeOfEntriesThatMayNotBe(t *testing.T) {
	if many := len(entryTexts()); many < 140 {
		t.Errorf("%d texts alone", many)
	}
	for _, f := range frames() {
		for _, text := range entryTexts() {
			refused(t, f.packet, f.ahead+wantText(text)+someTag, api.ErrForm)
		}
		for _, e := range fineEntries() {
			isPut(t, f.packet, f.with(e), f.ahead+entryText(e)+someTag)
		}
	}
}

// What the reader meets is told ahead of what may not be, and of what it meets the first.
func TestWhichErrorOfTakeHelloComesFirst(t *testing.T) {
	p := helloPacket()
	for _, x := range []struct {
		b    string
		want api.Errno
	}{
		{"\x01\x00\x11" + strings.Repeat("N", 16), api.ErrBig},
		{"\x01\x00\x11" + strings.Repeat("N", 17) + zero + "\x00\x81", api.ErrBig},
		{"\x01\x00\x02N", api.ErrShort},
		{"\x01\x00\x01N" + zero[1:], api.ErrShort},
		{"\x01\x00\x01N" + zero + "\x00\x81", api.ErrBig},
		{"\x01\x00\x01N" + zero + "\x00\x81" + strings.Repeat("k", 129), api.ErrBig},
		{"\x01\x00\x01N" + zero + "\x00\x01\x00" + someTag[1:], api.ErrShort},
		{"\x01\x00\x01N" + zero + "\x00\x01\x00" + someTag + "k", api.ErrRest},
		{"\x01\x00\x01N" + zero + "\x00\x01\x00" + someTag, api.ErrForm},
		{"\x01\x00\x01N" + zero + plainText + someTag, api.ErrForm},
		{"\x01\x00\x01N" + seven + "\x00\x00" + someTag, api.ErrForm},
		{"\x01\x00\x01b" + zero + "\x00\x00" + someTag, api.ErrForm},
		{"\x01\x00\x01N" + seven + plainText + someTag[1:], api.ErrShort},
		{"\x01\x00\x01N" + seven + plainText + someTag + "k", api.ErrRest},
		{"\x01\x00\x01b" + zero + plainText + someTag[1:], api.ErrShort},
		{"\x01\x00\x01b" + zero + plainText + someTag + "k", api.ErrRest},
		{"\x01\x00\x01b" + zero + sized(128) + someTag + "k", api.ErrRest},
		{"\x01\x00\x01b" + zero + sized(129) + someTag + "k", api.ErrBig},
		{"\x01\x00\x01b" + seven + wantText(plainText) + someTag[1:], api.ErrShort},
		{"\x01\x00\x01b" + seven + wantText(plainText) + someTag + "k", api.ErrRest},
		{"\x02\x00\x11", api.ErrKind}, {"\x02", api.ErrKind}, {"\x03\x00\x01N" + zero, api.ErrKind},
	} {
		refused(t, p, x.b, x.want)
	}
}

func TestWhichErrorOfTheOthersComesFirst(t *testing.T) {
	p := welcomePacket()
	for _, x := range []struct {
		b    string
		want api.Errno
	}{
		{"\x02" + zero[1:], api.ErrShort},
		{"\x02" + zero + zero[1:], api.ErrShort},
		{"\x02" + zero + zero + "\x00\x81", api.ErrBig},
		{"\x02" + zero + nine + sized(129) + someTag + "k", api.ErrBig},
		{"\x02" + zero + nine + sized(128) + someTag + "k", api.ErrRest},
		{"\x02" + zero + nine + sized(128) + someTag[1:], api.ErrShort},
		{"\x02" + zero + nine + plainText + someTag[1:], api.ErrShort},
		{"\x02" + zero + nine + plainText + someTag + "k", api.ErrRest},
		{"\x02" + seven + zero + plainText + someTag[1:], api.ErrShort},
		{"\x02" + seven + zero + plainText + someTag + "k", api.ErrRest},
		{"\x02" + seven + nine + "\x00\x01\x00" + someTag[1:], api.ErrShort},
		{"\x02" + seven + nine + "\x00\x01\x00" + someTag + "k", api.ErrRest},
		{"\x02" + seven + zero + "\x00\x01\x00" + someTag, api.ErrForm},
		{"\x02" + zero + nine + "\x00\x01\x00" + someTag, api.ErrForm},
		{"\x01" + zero[1:], api.ErrKind}, {"\x04" + zero, api.ErrKind}, {"\x00", api.ErrKind},
	} {
		refused(t, p, x.b, x.want)
	}
	for at := range zero {
		refused(t, resetPacket(), "\x04"+zero[:at], api.ErrShort)
		refused(t, resetPacket(), "\x03"+zero[:at], api.ErrKind)
	}
	refused(t, resetPacket(), "\x04"+zero+"\x00", api.ErrRest)
	refused(t, resetPacket(), "\x01"+zero+"\x00", api.ErrKind)
}

func TestTakeOfEachByteAtEachPlace(t *testing.T) {
	for _, p := range packets() {
		seen := map[api.Errno]int{}
		for _, text := range p.known {
			for at := range text {
				for x := range 256 {
					b := turned(text, at, byte(x))
					seen[rightTake(t, p, []byte(b))]++
					rightTake(t, p, []byte(b+"k"))
					rightTake(t, p, []byte(b[:len(b)-1]))
				}
			}
		}
		if seen[api.OK] == 0 || seen[api.ErrKind] == 0 || seen[api.ErrForm] == 0 || p.kind != Reset && (seen[api.ErrBig] == 0 || seen[api.ErrShort] == 0 || seen[api.ErrRest] == 0) {
			t.Errorf("%d: %v", p.kind, seen)
		}
	}
}

func TestTakeOfBytesOfAllKinds(t *testing.T) {
	for _, p := range packets() {
		for many := range 200 {
			for seed := range 8 {
				b := byteText(p.kind) + made(many, byte(seed))
				rightTake(t, p, []byte(b))
				rightTake(t, p, []byte(b[1:]))
				if many > 2 {
					rightTake(t, p, []byte(byteText(p.kind)+"\x00"+byteText(seed)+b[3:]))
				}
			}
		}
	}
	for _, h := range hellos() {
		rightTake(t, helloPacket(), []byte(helloBytes(h)))
	}
	for _, w := range welcomes() {
		rightTake(t, welcomePacket(), []byte(welcomeBytes(w)))
	}
}

// P17.5

// spoilt asks that with any byte of its tag changed what is greeted or answered is not right.
func spoilt(t *testing.T, tag string, right func(tag string) bool) {
	t.Helper()
	if !right(tag) || len(tag) != 32 {
		t.Fatalf("%x is not right", tag)
	}
	for at := range len(tag) {
		for x := range 256 {
			if byte(x) != tag[at] && right(turned(tag, at, byte(x))) {
				t.Errorf("%x is right with %d at %d", tag, x, at)
			}
		}
	}
}

func TestWhatIsGreetedChecks(t *testing.T) {
	for _, psk := range keys() {
		for _, h := range []Hello{plainHello(), greatHello(), leastHello(), {}, {made(300, 1), 0, wrongEntry(), ""}} {
			got := Greet(psk, h.To, h.Nonce, h.Entry)
			if !Checks(psk, got) {
				t.Errorf("by a key of %d bytes %s does not check", len(psk), show(got))
			}
		}
	}
	h := Greet("psk", "node-2", 258, plainEntry())
	spoilt(t, h.Tag, func(tag string) bool { return Checks("psk", Hello{h.To, h.Nonce, h.Entry, tag}) })
}

func TestWhatIsAnsweredAgrees(t *testing.T) {
	for _, psk := range keys() {
		for _, h := range []Hello{plainHello(), greatHello(), leastHello(), {}, {made(300, 1), 0, wrongEntry(), ""}} {
			for _, second := range []uint64{0, 1, h.Nonce, math.MaxUint64} {
				got := Answer(psk, h, second, otherEntry())
				if !Agrees(psk, got, h.Entry) {
					t.Errorf("by a key of %d bytes %s does not agree", len(psk), show(got))
				}
			}
		}
	}
	w := Answer("psk", plainHello(), 259, otherEntry())
	spoilt(t, w.Tag, func(tag string) bool { return Agrees("psk", Welcome{w.First, w.Second, w.Entry, tag}, plainEntry()) })
}

// What is put is taken as it was; so what was greeted checks, and what was answered agrees, when it has been on its way.
func TestWhatIsPutIsTaken(t *testing.T) {
	for _, psk := range keys() {
		for _, own := range fineEntries() {
			for _, nonce := range numbers()[1:] {
				h := Greet(psk, "node-2", nonce, own)
				b, e := PutHello(h)
				got, f := TakeHello(b)
				if got != h || e != api.OK || f != api.OK || !Checks(psk, got) || Kind(b) != First {
					t.Errorf("%s: %d, %s, %d", show(h), e, show(got), f)
				}
				w := Answer(psk, got, nonce^1<<40, otherEntry())
				b, e = PutWelcome(w)
				back, f := TakeWelcome(b)
				if back != w || e != api.OK || f != api.OK || !Agrees(psk, back, own) || Kind(b) != Second {
					t.Errorf("%s: %d, %s, %d", show(w), e, show(back), f)
				}
			}
		}
	}
	for _, id := range numbers()[1:] {
		if got, e := TakeReset(PutReset(id)); got != id || e != api.OK {
			t.Errorf("%d: %d, %d", id, got, e)
		}
	}
}

// Unlike things are put as unlike bytes, and what is taken is put again as it was.
func TestUnlikeThingsHaveUnlikeBytes(t *testing.T) {
	of := map[string]any{}
	add := func(p packet, what any) {
		b, e := p.put(what)
		if e != api.OK {
			return
		}
		if other, ok := of[string(b)]; ok && other != what {
			t.Errorf("%s and %s have the same bytes", show(what), show(other))
		}
		of[string(b)] = what
	}
	for _, h := range hellos() {
		add(helloPacket(), h)
	}
	for _, w := range welcomes() {
		add(welcomePacket(), w)
	}
	for _, n := range numbers() {
		add(resetPacket(), n)
	}
	if len(of) < 100 {
		t.Errorf("%d alone", len(of))
	}
}

// putAgain asks that what is taken is put as it was.
func putAgain(t *testing.T, b []byte) {
	t.Helper()
	for _, p := range packets() {
		rightTake(t, p, b)
		if what, e := p.take(b); e == api.OK {
			if got, f := p.put(what); !bytes.Equal(got, b) || f != api.OK {
				t.Errorf("%.300q is taken as %s, and put as %.300q, %d", b, show(what), got, f)
			}
		}
	}
}

func TestWhatIsTakenIsPutAgain(t *testing.T) {
	for _, p := range packets() {
		for _, text := range p.known {
			for at := range text {
				for bit := range 8 {
					putAgain(t, []byte(turned(text, at, text[at]^1<<bit)))
				}
			}
		}
	}
}

func FuzzWhatFollows(f *testing.F) {
	for _, p := range packets() {
		for _, text := range p.known {
			f.Add("psk", "b", uint64(7), uint64(9), "a", uint64(1), 0, 9, 3, made(32, 1), []byte(text))
		}
	}
	f.Add("", "", uint64(0), uint64(0), "", uint64(0), 0, 0, 0, "", []byte{})
	f.Add(made(65, 2), "abcdefghijklmnopq", uint64(math.MaxUint64), uint64(1), "No name!", uint64(1<<63), -1, math.MinInt, math.MaxInt, made(31, 3), []byte("\x01\x00\x11"))
	f.Fuzz(func(t *testing.T, psk, to string, first, second uint64, name string, id uint64, from, until, index int, tag string, b []byte) {
		e := api.Entry{Name: name, Id: id, From: from, Until: until, Index: index, Tag: tag}
		rightGreet(t, psk, to, first, e)
		h := Hello{to, first, e, tag}
		rightAnswer(t, psk, h, second, plainEntry())
		rightAnswer(t, psk, plainHello(), second, e)
		if Checks(psk, h) != (h == wantGreet(psk, to, first, e)) {
			t.Errorf("%s checks: %t", show(h), Checks(psk, h))
		}
		w := Welcome{first, second, e, tag}
		if Agrees(psk, w, plainEntry()) != (w == wantAnswer(psk, first, second, plainEntry(), e)) {
			t.Errorf("%s agrees: %t", show(w), Agrees(psk, w, plainEntry()))
		}
		for _, x := range []Hello{h, Greet(psk, to, first, e), Greet(psk, to, first, plainEntry())} {
			if helloMayBe(x) {
				isPut(t, helloPacket(), x, helloBytes(x))
			} else {
				noPut(t, helloPacket(), x)
			}
			putAgain(t, []byte(helloBytes(x)))
		}
		for _, x := range []Welcome{w, Answer(psk, h, second, e), Answer(psk, h, second, plainEntry())} {
			if welcomeMayBe(x) {
				isPut(t, welcomePacket(), x, welcomeBytes(x))
			} else {
				noPut(t, welcomePacket(), x)
			}
			putAgain(t, []byte(welcomeBytes(x)))
		}
		putAgain(t, PutReset(id))
		putAgain(t, b)
		kind := 0
		if len(b) > 0 {
			kind = kindOf(int(b[0]))
		}
		if got := Kind(b); got != kind {
			t.Errorf("Kind of %.100q: %d", b, got)
		}
	})
}

// Rules 4, 5 and 8: what is handed in stays as it was, what is handed out is new memory, what lies behind a length does not count, and nothing is kept.

// fill writes over all of this memory, its spare room too.
func fill(b []byte) {
	b = b[:cap(b)]
	for i := range b {
		b[i] ^= 0xa5
	}
}

func TestWhatIsHandedInStaysAsItWas(t *testing.T) {
	for _, p := range packets() {
		for i, text := range p.known {
			for _, size := range []int{0, 1, 2, len(text) - 1, len(text)} {
				for _, more := range []string{text[size:], made(90, 7), strings.Repeat("\x00", 200)} {
					all := []byte(text[:size] + more)
					kept := slices.Clone(all)
					want, wantErr := p.want(all[:size])
					got, e := p.take(all[:size])
					kind := Kind(all[:size])
					if !bytes.Equal(all, kept) {
						t.Fatalf("%d, %d, of %d bytes: changed", p.kind, i, size)
					}
					if got != want || e != wantErr || kind != kindOf(p.kind*min(size, 1)) {
						t.Errorf("%d, %d, of %d bytes: what lies behind counts: %s, %d, %d", p.kind, i, size, show(got), e, kind)
					}
					fill(all)
					if got != want {
						t.Errorf("%d, %d, of %d bytes: what is taken changes with them: %s", p.kind, i, size, show(got))
					}
				}
			}
		}
	}
}

func TestWhatIsHandedOutIsNewMemory(t *testing.T) {
	for _, p := range packets() {
		for i, what := range p.what {
			one, _ := p.put(what)
			two, _ := p.put(what)
			if spare := one[len(one):cap(one)]; slices.ContainsFunc(spare, func(x byte) bool { return x != 0 }) {
				t.Errorf("%d, %d: the spare room holds %q", p.kind, i, spare)
			}
			fill(one)
			if string(two) != p.known[i] {
				t.Errorf("%d, %d: the first answer is the second one", p.kind, i)
			}
			if three, _ := p.put(what); string(three) != p.known[i] {
				t.Errorf("%d, %d: an answer is kept", p.kind, i)
			}
		}
	}
}

// What is handed out does not hang on bytes that the texts which were handed in were made of.
func TestWhatIsHandedOutStays(t *testing.T) {
	psk, to, name, tag := []byte("psk"), []byte("node-2"), []byte("node-1"), []byte(made(32, 9))
	own := butEntry(func(e *api.Entry) { e.Name, e.Tag = string(name), string(tag) })
	h := Greet(string(psk), string(to), 258, own)
	w := Answer(string(psk), h, 259, own)
	for _, b := range [][]byte{psk, to, name, tag} {
		clear(b)
	}
	if want := wantGreet("psk", "node-2", 258, plainEntry()); h != want {
		t.Errorf("%s, wanted %s", show(h), show(want))
	}
	if want := wantAnswer("psk", 258, 259, plainEntry(), plainEntry()); w != want {
		t.Errorf("%s, wanted %s", show(w), show(want))
	}
}

// A call leaves nothing behind: whatever comes ahead of it, it answers what it would have.
func TestNothingIsKept(t *testing.T) {
	h, w := wantGreet("psk", "node-2", 258, plainEntry()), wantAnswer("psk", 258, 259, plainEntry(), otherEntry())
	right := func() bool {
		b, e := PutHello(h)
		c, f := PutWelcome(w)
		if string(b) != helloBytes(h) || string(c) != welcomeBytes(w) || e != api.OK || f != api.OK {
			return false
		}
		k, e := TakeHello(b)
		l, f := TakeWelcome(c)
		id, g := TakeReset(PutReset(5))
		if k != h || l != w || id != 5 || e != api.OK || f != api.OK || g != api.OK || Kind(b) != First || Kind(nil) != 0 {
			return false
		}
		_, e = TakeHello(nil)
		return e == api.ErrKind && Greet("psk", "node-2", 258, plainEntry()) == h && Answer("psk", h, 259, otherEntry()) == w && Checks("psk", h) && !Checks("k", h) && Agrees("psk", w, plainEntry()) && !Agrees("psk", w, otherEntry())
	}
	for i, other := range hellos() {
		by := keys()[i%len(keys())]
		Greet(by, other.To, other.Nonce, other.Entry)
		Answer(by, other, uint64(i), other.Entry)
		Checks(by, other)
		PutHello(other)
		TakeHello([]byte(helloBytes(other)))
		PutReset(other.Nonce)
		if !right() {
			t.Fatalf("behind %s: other answers", show(other))
		}
	}
	for i, other := range welcomes() {
		Agrees(keys()[i%len(keys())], other, other.Entry)
		PutWelcome(other)
		TakeWelcome([]byte(welcomeBytes(other)))
		TakeReset([]byte("\x04" + wantNum(other.First)))
		Kind([]byte(other.Tag))
		if !right() {
			t.Fatalf("behind %s: other answers", show(other))
		}
	}
}
