package keys

import (
	"bytes"
	"crypto/hkdf"
	"crypto/sha256"
	"encoding/hex"
	"math"
	"strings"
	"testing"
	"unsafe"

	"carcanet/api"
	"carcanet/derive"
)

// P18.1

// rightRoots asks whether Roots are what they have to be.
func rightRoots(t *testing.T, m meeting) {
	t.Helper()
	there, back := m.roots()
	wantThere, wantBack := m.wantRoots()
	if there != wantThere || back != wantBack {
		t.Errorf("Roots of %s: %x and %x, wanted %x and %x", show(m), there, back, wantThere, wantBack)
	}
}

// The roots here are another program's.
func TestRootsOfKnownKeys(t *testing.T) {
	a := api.Entry{Name: "a", Id: 1, Tag: strings.Repeat("x", 32)}
	b := api.Entry{Name: "b", Id: 2, Tag: strings.Repeat("y", 32)}
	for i, x := range []struct {
		meeting
		there, back string
	}{
		{meeting{"psk", 1, 2, a, b}, "266dcf770daff39c555c0a5ef3026b78e3d719cb5a9f8be038e8ff34a401abd4", "e99ee925457c9babf8ae82a9f4b23917974373ae7372fda7a37277c9303fd265"},
		{meeting{"psk", 2, 1, a, b}, "75b3986271d8b6671da3a4595c2007864cd37f9cd39c83c47f124ad49de07800", "ad3e7359a11e5567bcddfda4f9b2f7328b1b4b16172101ec2b4e4d36a94680bd"},
		{meeting{"psk", 1, 2, b, a}, "b895b02ef5c2c1b62f8c53712cc7af0058614fd8b5e868c5aae189cd87b7b74a", "7a233bdb6fa081dfa323c1801e9fe54ff48ed8a84b809b2bad85dcd0ca0e913a"},
		{plain(), "57fb41b3ee48ee8945c4b57517bc36647f7cec39911d3fe20a0f339c9dc1d8f1", "932af859647108f4d6c0683872972c75e2be258dfe960c16e551e65be35a6dd6"},
		{meeting{}, "fa127ea302e1d21c62e2118fa078e8811670c66d92645b03d9f9ba59df281fab", "266d8094f932dca54105ac43d89fc09a04b3c8a149a3517b4ee0293e63040128"},
		{meeting{strings.Repeat("k", 64), math.MaxUint64, math.MaxUint64, longEntry(), longEntry()}, "eabd3c1c7f86fdf6c57b95588e309537bb75ef52e5fdecba3681856fd8c26f6a", "493540b1af1673e3cef766dc4a8a3176c5c42040500fc7b29ed8f16a77796916"},
		{meeting{strings.Repeat("k", 65), 0, math.MaxUint64, leastEntry(), plainEntry()}, "e537b86c7e0c80e2002b955f18a5ef545fdb473cd52783eb523a72ec6ed4250e", "4af310f49b5d3ffdbac2c50694bf91397ad3e6033bfa3e7c4b25d5faad9af2c3"},
		{meeting{made(100, 3), 1 << 63, 1, wrongEntry(), otherEntry()}, "cba634e1ae6a5471e406102b2d88908d736267a4ba3af4eab4e4e9346135cc7d", "4dfad0d785da62d0702d54002221f997a1ba9031656b811494128523bc56a719"},
		{meeting{"\x00", 258, 0, hugeEntry(), plainEntry()}, "4cc9ab47c4be4b734bc7e7bdb81e8e48d973974956bf577735325160fa85472f", "e0a96b590c3209bd456d1230c49fe8ea90eeab58b812924f982fba8d8897def8"},
		{meeting{made(1000, 8), math.MaxUint64, 0, plainEntry(), hugeEntry()}, "292b7a93ad36b6cbf47edb02c17ff093b71f8d773f98177b47629fa3e6907d71", "b33236b7b0af583eda5a87d36dba38af14e8b910f74c25b1086f05f4afba5357"},
		{meeting{"psk", 7, 7, taggedEntry(), taggedEntry()}, "913999eeb47f354321b887dd67334e1226e286261ffa34e94a53b3e441638f0f", "55413a04ae2e86a923190a9618baab3ecc2d276872c0acb1002e133f3df2fbdd"},
		{meeting{"psk", 7, 9, plainEntry(), plainEntry()}, "339f6027b4fe08e3c5b7f9d19ee9a44cb71e894fcb84fb64d6952bddc582c088", "137eea8f23e6baa3d9943bfad7b99f70260a2f2944630e551b5169dc23b12abc"},
	} {
		there, back := x.roots()
		if hex.EncodeToString([]byte(there)) != x.there || hex.EncodeToString([]byte(back)) != x.back {
			t.Errorf("%d: %x and %x", i, there, back)
		}
		rightRoots(t, x.meeting)
	}
}

// The salts and the infos here are written by hand.
func TestRootsOfTextsByHand(t *testing.T) {
	a := api.Entry{Name: "a", Id: 258, From: 1, Until: 2, Index: 3, Tag: strings.Repeat("x", 32)}
	aText := "\x00\x35\x00\x01a\x00\x00\x00\x00\x00\x00\x01\x02\x00\x00\x00\x01\x00\x00\x00\x02\x00\x03" + strings.Repeat("x", 32)
	plainText := "\x00\x3a\x00\x06node-1\x01\x02\x03\x04\x05\x06\x07\x08\x00\x00\x00\x05\x00\x00\x03\xe8\x00\x03" + made(32, 9)
	otherText := "\x00\x35\x00\x01b\x00\x00\x00\x00\x00\x00\x00\x02\x00\x00\x00\x00\x00\x00\x00\x09\x00\x00" + strings.Repeat("y", 32)
	longText := "\x00\x44\x00\x10abcdefghijklmnop" + strings.Repeat("\xff", 8) + "\x40\x00\x00\x00\x40\x00\x00\x00\x00\x40" + strings.Repeat("\xff", 32)
	wrongText := "\x00\x1d\x00\x08No name!\x80\x00\x00\x00\x00\x00\x00\x00\xff\xff\xff\xff\xff\xff\xff\xfe\xff\xfdt"
	noText := "\x00\x14" + strings.Repeat("\x00", 20)
	hugeText := "\xff\xff\xff\xff" + strings.Repeat("n", 65533)
	for i, x := range []struct {
		meeting
		salt, info string
	}{
		{meeting{"psk", 1, 2, a, otherEntry()}, "\x00\x00\x00\x00\x00\x00\x00\x01\x00\x00\x00\x00\x00\x00\x00\x02", "carcanet session" + aText + otherText},
		{meeting{"psk", 0x0102030405060708, 0xa0b0c0d0e0f00010, otherEntry(), a}, "\x01\x02\x03\x04\x05\x06\x07\x08\xa0\xb0\xc0\xd0\xe0\xf0\x00\x10", "carcanet session" + otherText + aText},
		{meeting{"", math.MaxUint64, 0, plainEntry(), longEntry()}, strings.Repeat("\xff", 8) + strings.Repeat("\x00", 8), "carcanet session" + plainText + longText},
		{meeting{made(65, 1), 0, math.MaxUint64, longEntry(), wrongEntry()}, strings.Repeat("\x00", 8) + strings.Repeat("\xff", 8), "carcanet session" + longText + wrongText},
		{meeting{made(64, 2), 0, 0, api.Entry{}, plainEntry()}, strings.Repeat("\x00", 16), "carcanet session" + noText + plainText},
		{meeting{"p", 1 << 32, 1 << 63, wrongEntry(), api.Entry{}}, "\x00\x00\x00\x01\x00\x00\x00\x00\x80\x00\x00\x00\x00\x00\x00\x00", "carcanet session" + wrongText + noText},
		{meeting{"psk", 1, 2, hugeEntry(), a}, "\x00\x00\x00\x00\x00\x00\x00\x01\x00\x00\x00\x00\x00\x00\x00\x02", "carcanet session" + hugeText + aText},
		{meeting{"psk", 1, 2, a, hugeEntry()}, "\x00\x00\x00\x00\x00\x00\x00\x01\x00\x00\x00\x00\x00\x00\x00\x02", "carcanet session" + aText + hugeText},
	} {
		want, err := hkdf.Key(sha256.New, []byte(x.psk), []byte(x.salt), x.info, 64)
		if err != nil {
			t.Fatal(err)
		}
		if there, back := x.roots(); there != string(want[:32]) || back != string(want[32:]) {
			t.Errorf("%d: %x and %x, wanted %x", i, there, back, want)
		}
	}
}

func TestRootsOfSecrets(t *testing.T) {
	for _, base := range bases() {
		for _, psk := range secrets() {
			m := base
			m.psk = psk
			rightRoots(t, m)
		}
	}
	for many := range 300 {
		m := plain()
		m.psk = strings.Repeat("k", many)
		rightRoots(t, m)
		m.psk = made(many, 7) + "\x00"
		rightRoots(t, m)
	}
}

func TestRootsOfNumbers(t *testing.T) {
	for _, base := range bases() {
		for _, first := range numbers() {
			for _, second := range numbers() {
				m := base
				m.first, m.second = first, second
				rightRoots(t, m)
			}
		}
	}
}

func TestRootsOfEntries(t *testing.T) {
	for _, base := range bases() {
		for _, e := range allEntries() {
			m := base
			m.asker = e
			rightRoots(t, m)
			m = base
			m.answerer = e
			rightRoots(t, m)
		}
	}
	for _, asker := range fineEntries() {
		for _, answerer := range allEntries() {
			m := plain()
			m.asker, m.answerer = asker, answerer
			rightRoots(t, m)
			m.asker, m.answerer = answerer, asker
			rightRoots(t, m)
		}
	}
}

func TestRootsOfNamesAndTagsOfEachLength(t *testing.T) {
	many := []int{511, 512, 513, 4096, 65463, 65464, 65507, 65508, 65509, 65532, 65533, 65534, 65535, 65536, 65537, 70000, 131072}
	for n := range 300 {
		many = append(many, n)
	}
	for _, n := range many {
		named := but(plainEntry(), func(e *api.Entry) { e.Name = made(n, 2) })
		tagged := but(plainEntry(), func(e *api.Entry) { e.Tag = made(n, 3) })
		for _, e := range []api.Entry{named, tagged} {
			rightRoots(t, meeting{"psk", 258, 259, e, otherEntry()})
			rightRoots(t, meeting{"psk", 258, 259, otherEntry(), e})
		}
		rightRoots(t, meeting{"psk", 258, 259, named, tagged})
		rightRoots(t, meeting{"psk", 258, 259, tagged, named})
	}
}

// A register keeps what keys are of, so that none comes twice.
type register map[string]string

func (r register) add(t *testing.T, key, of string) {
	t.Helper()
	if other, met := r[key]; met {
		t.Errorf("%s has the key of %s", of, other)
	}
	r[key] = of
}

// addBoth adds both roots of it.
func (r register) addBoth(t *testing.T, m meeting, of string) {
	t.Helper()
	there, back := m.roots()
	r.add(t, there, of+", there")
	r.add(t, back, of+", back")
}

// One thing that is changed, or two that are exchanged, make both roots others.
func TestRootsOfWhatIsChanged(t *testing.T) {
	for _, base := range bases() {
		others := register{}
		others.addBoth(t, base, "nothing")
		for bit := range 64 {
			m := base
			m.first ^= 1 << bit
			others.addBoth(t, m, "first, bit "+show(bit))
			m = base
			m.second ^= 1 << bit
			others.addBoth(t, m, "second, bit "+show(bit))
		}
		for i, psk := range secrets() {
			if m := base; psk != base.psk {
				m.psk = psk
				others.addBoth(t, m, "secret "+show(i))
			}
		}
	}
}

func TestRootsOfWhatIsExchanged(t *testing.T) {
	for _, base := range []meeting{
		plain(),
		{"", 0, math.MaxUint64, api.Entry{}, plainEntry()},
		{made(64, 1), math.MaxUint64, 0, longEntry(), wrongEntry()},
		{made(65, 1), 7, 8, leastEntry(), hugeEntry()},
		{"psk", 1 << 32, 1, plainEntry(), but(plainEntry(), func(e *api.Entry) { e.Tag = turned(e.Tag, 31, e.Tag[31]^1) })},
	} {
		all := register{}
		for turns := range 4 {
			m := base
			if turns&1 > 0 {
				m.first, m.second = m.second, m.first
			}
			if turns&2 > 0 {
				m.asker, m.answerer = m.answerer, m.asker
			}
			all.addBoth(t, m, "exchange "+show(turns))
			rightRoots(t, m)
		}
	}
}

func TestRootsOfEachFieldChanged(t *testing.T) {
	for _, base := range bases() {
		there, back := base.roots()
		for i, change := range changes() {
			asker, answerer := base, base
			asker.asker, answerer.answerer = but(base.asker, change), but(base.answerer, change)
			for side, m := range []meeting{asker, answerer} {
				rightRoots(t, m)
				if side == 0 && len(m.asker.Name) > 65535 || side == 1 && len(m.answerer.Name) > 65535 {
					continue // what is changed is cut off
				}
				if x, y := m.roots(); x == there || y == back || x == back || y == there {
					t.Errorf("change %d, side %d of %s: a root is the same", i, side, show(base))
				}
			}
		}
	}
}

// Entries that are not alike have roots that are not, on either side.
func TestRootsOfUnlikeEntries(t *testing.T) {
	all := register{}
	for i, e := range allEntries() {
		all.addBoth(t, meeting{"psk", 258, 259, e, longEntry()}, "asker "+show(i))
		if e != longEntry() {
			all.addBoth(t, meeting{"psk", 258, 259, longEntry(), e}, "answerer "+show(i))
		}
	}
}

// Where one entry ends, and the next one begins, counts, though all bytes in a row are the same.
func TestRootsTellEntriesApart(t *testing.T) {
	tagged := func(e api.Entry, tag string) api.Entry { e.Tag = tag; return e }
	x, y := entryText(tagged(otherEntry(), "x"))[2:], entryText(tagged(otherEntry(), "y"))[2:]
	one := meeting{"psk", 1, 2, tagged(plainEntry(), "x"+x), tagged(otherEntry(), "y")}
	two := meeting{"psk", 1, 2, tagged(plainEntry(), "x"), tagged(otherEntry(), "x"+y)}
	if entryText(one.asker)[2:]+entryText(one.answerer)[2:] != entryText(two.asker)[2:]+entryText(two.answerer)[2:] {
		t.Fatal("the test is at odds with itself")
	}
	all := register{}
	all.addBoth(t, one, "one")
	all.addBoth(t, two, "two")
	rightRoots(t, one)
	rightRoots(t, two)
}

// An entry's text goes as far as its length can tell: what is cut off does not count.
func TestRootsOfTextsThatAreCut(t *testing.T) {
	named := func(name string) api.Entry { e := hugeEntry(); e.Name = name; return e }
	tagged := func(tag string) api.Entry { e := plainEntry(); e.Tag = tag; return e }
	name, tag := strings.Repeat("n", 65533), strings.Repeat("t", 65509)
	for i, x := range []struct {
		one, two api.Entry
		same     bool
	}{
		{named(name + "aab"), named(name + "bba"), true},
		{named(name + "aa"), named(name + "aaa"), true},
		{named(name + "aa"), but(named(name+"bb"), func(e *api.Entry) { *e = api.Entry{Name: e.Name} }), true},
		{named(name + "aa"), named(name[1:] + "baa"), false},
		{named(name), named(name + "a"), false},
		{tagged(tag), tagged(tag + "a"), true},
		{tagged(tag + "a"), tagged(tag + "b"), true},
		{tagged(tag), tagged(tag[1:] + "a"), false},
		{tagged(tag), tagged(tag[1:]), false},
	} {
		for _, other := range []api.Entry{plainEntry(), hugeEntry(), {}} {
			there, back := Roots("psk", 258, 259, x.one, other)
			if a, b := Roots("psk", 258, 259, x.two, other); (a == there) != x.same || (b == back) != x.same {
				t.Errorf("%d: the asker's", i)
			}
			there, back = Roots("psk", 258, 259, other, x.one)
			if a, b := Roots("psk", 258, 259, other, x.two); (a == there) != x.same || (b == back) != x.same {
				t.Errorf("%d: the answerer's", i)
			}
		}
	}
}

// The first half is there, and the last one back; neither is the other, nor made of fewer bytes.
func TestWhichHalfIsWhich(t *testing.T) {
	for _, m := range bases() {
		there, back := m.roots()
		salt := wantNum(m.first) + wantNum(m.second)
		info := "carcanet session" + entryText(m.asker) + entryText(m.answerer)
		both, e := derive.Key([]byte(salt), []byte(m.psk), []byte(info), 64)
		if e != api.OK || there != string(both[:32]) || back != string(both[32:]) {
			t.Errorf("%s: %x and %x, of %x", show(m), there, back, both)
		}
		half, err := hkdf.Key(sha256.New, []byte(m.psk), []byte(salt), info, 32)
		if err != nil || there != string(half) || back == string(half) || there == back {
			t.Errorf("%s: %x and %x, of %x", show(m), there, back, half)
		}
	}
}

// P18.2

// rightEpoch asks whether Epoch is what it has to be.
func rightEpoch(t *testing.T, root string, epoch int) {
	t.Helper()
	if got, want := Epoch(root, epoch), wantEpoch(root, epoch); got != want {
		t.Errorf("Epoch %d of a root of %d bytes: %x, wanted %x", epoch, len(root), got, want)
	}
}

// The keys here are another program's.
func TestEpochOfKnownKeys(t *testing.T) {
	numbers := []int{0, 1, 9, 10, 65535, -1, math.MaxInt64, math.MinInt64}
	for i, x := range []struct {
		root string
		keys [8]string
	}{
		{"", [8]string{"16586da81f1a4034ad4c825f778a4fc233ef011909b28756f7ee2490e55e0bed", "43f49310253c16c2e8a6a5f7aee54f3f639639b28b73b4cdfb08d62863391d24", "b195f3191062ac9a02948894bb37bc4c86c68a37f8294edc04100ee94a1980ca", "68789bec5e8f01c59e55aa571f9afc9ad4e46c9bc026a84d4e63e0cb0f3eaea0", "77e9b9f2c74552df0688f622bcb8cc79102e16eab40d29cffc45adeb8df95d78", "c835f041aeefc8a2ebbc9cf41ea68d63ddc1c8a0faf68cfddd8955980adcd11e", "6e09cc1d268ad6a9c91598c4e0ae9589ac35eadf030f845dc454e1f7a0954876", "64194e8aadae0940701783be328415f403b3533e3cf8827abae6c3bf03031884"}},
		{"root", [8]string{"28e02f21d941678aa3eacc868237ef66406e3b1e5a6f41ceda685cb04ab7b68a", "4a33ad5a19f26c2319e13c059b9db0762d295fa7baca7c5d5d03b897b071eb1d", "3f684a29cd0a5c2b6cc60a00e296de827a9525f61b4265c4f6000def9d54e2f9", "d1b6e1fb4bd0df83dc7f3c67a09b58166ef51010d197f272d74442f57c807232", "1b25e9ee38c95775b5fe4caa7834118cedf12ec1420a74c71bc5cc6466cbb928", "a19abafb3c078245163bbac341c4a1347d6221c56a96716d67b5acfe8571fb10", "4ee6aa8108d2055860848ca438c5964fd79ed2e6787e1d25b4909a2ee6f9b8dd", "1eb96b69f92a881b49288063a2378e0f7c7102fe84f0f1538d380afac757e698"}},
		{made(32, 1), [8]string{"d76755d32f5d44ee562a20487bbe1ea3d1de8079442918ff88ae51e1a1b90bcb", "04187f8331528d6d06861c83ba5f56a98ef5e2d0f5e2b336d2008aa0df405710", "05d4b54a14d1e3259d1524928bb9bd78fa8aa365c86552af660e03c6cad9fe94", "53c214652e870a210d325d93007ce46f9b3da3fb4ab18baaec2f6bb0d8363b2d", "2581a17062acfe727499c7a9fc6725f40c8de70a6184df6f439d7caf22b45846", "31e2fa28370750defbe1cc79dd97c429b6f4c3af6eec1701f7e40915adff2f6d", "cce3f93a686e35d2f750a5ad51f71d8daba6fc7c3787655128f0b895939a0e9e", "1bc2259e65219a2dc7789110e5f013e35ecea388f78510347469f99a63d5db4a"}},
		{made(33, 2), [8]string{"2234a0d557e21c5caf3b7889f7d7cca8e7970e62ebd5c9254bdd44d516225fae", "ac830ce1781f764258cd380998b3025aa43b8b0d82f04d0eb6505ff6a6392fea", "7b063477ebb04f28abf4c21e282860f919b30d6a68fe84c3d7942c51e608b8af", "892e4a3584b2b31d22e8a91163f802022238267b3478b1c032caf02739468276", "dd9f906995726d268ec61410d9dbf1095fb5ca47e939a9e35018255f60b3cf28", "d61c30e7cb5131a4d2941079368ff7b5e855d8bb177945288379683322c2e4d0", "ea4a6e14d20187258a60683d6fd305585b192f1731ed1cb4a07683783bfdc8f9", "3c54a1f330c8958f6320cd1bbaea9a75939a1a75a6cdb2bdcb136d319c3c4618"}},
		{made(64, 3), [8]string{"e9a01b31ca5a3a1deb6a62d4f14e6e39e96cad6ccc308f28a8c98c66e9003d49", "0db1e1dd62f4459b6d45f29464e6310e58ad220cad01b12db8011f8a69b6a7b3", "d26d0e76d993605b1f6b162a1640029e3dd1ab187626c810231a13baf7ce07c1", "72a236f612e89baef39df9e58ddf0ed30a5a864c3698838734b141735846fed3", "4c50af2220a0ea823461e8471f6356caabafb38d41a1388731faa99bb48a00cf", "4d4e5507c1146a74e75b08877d29dcb41c2e3e52e3a95d888a42216421fc86bb", "cfec0264677fdc4f17c73bd0b8b1de11bd289c01c05c913dcb2eed8d59138715", "d24994e619c1b91c5ee2e4f5fccd545d15c9e94a0542b913a0fa0424e74dba4d"}},
		{made(65, 4), [8]string{"14bcb779612cde952fd34145eb5483c5024201913b97db2383a32b8d695b3f00", "ae7b90aed122ba71259b2a9bd7b159e96e4e9f1605087ea87d339a9acf9a61a6", "6381a4a05fdc21337f6db7ceee54cb194840f66dd990081ee253c1c40b8d07f3", "9e9258b5ec960905da86c7a2ac8d47a37146a7e23ac440a1a33ae8e6c0530948", "f84e88a1e8a2b611add153acc31b3828bbbfcbb0c29569aabe9c9c09055354eb", "c7134bd67cfbedcf6d789b1793b064107d38b4bc730856dd47196d64404e0a97", "cf4cb53be3233651f499c65943628be566a3bfff5f1cee28929cd352aad389d6", "b05f8d22fcb8cf9e2994b0d2cbb1f05a14584a6dc2b0addbe5cba60dffc0c1ab"}},
		{made(1000, 5), [8]string{"3f4602269849a8368f5432d215c4eee8e634a92c4e49fb4d0975872e6223fec7", "3ffd8e7dc16841193ad90072828507e5050c4f818b4692fa3583bff1692d55cb", "14954e76ba6bfef862d4bd192724ebd0f21509aa76b1d23ae90f8e25bf2caff1", "014f48801f902515dbb6dcfdad2d48dedbfa51d76740b385d73d23c6d544200f", "1f116a091ca00ff091a9ed41c699e4668107c5c5c328b9273ec429099ae76144", "d0b23879431e804c59835d70221a092701b08aa70a3847111658d9d9527f7647", "26b974c3dd821e7a330566ac3b4e91f7b13ffe8037458b75a8cc6127d99b653b", "3b03f6d4b9ee881656de49379f727065bdc44cfe9971c88d238799905937bbc3"}},
	} {
		for j, n := range numbers {
			if got := hex.EncodeToString([]byte(Epoch(x.root, n))); got != x.keys[j] {
				t.Errorf("%d, epoch %d: %s", i, n, got)
			}
		}
	}
}

// Names of epochs are their digits, written by hand here.
func TestEpochIsNamed(t *testing.T) {
	for _, x := range []struct {
		epoch int
		name  string
	}{
		{0, "epoch 0"}, {1, "epoch 1"}, {9, "epoch 9"}, {10, "epoch 10"}, {12, "epoch 12"}, {99, "epoch 99"}, {100, "epoch 100"}, {65535, "epoch 65535"}, {65536, "epoch 65536"},
		{-1, "epoch -1"}, {-10, "epoch -10"}, {1 << 32, "epoch 4294967296"}, {-1 << 31, "epoch -2147483648"}, {math.MaxInt64, "epoch 9223372036854775807"}, {math.MinInt64, "epoch -9223372036854775808"},
	} {
		for _, root := range roots() {
			if got, want := Epoch(root, x.epoch), string(derive.Named([]byte(root), x.name)); got != want {
				t.Errorf("%s of a root of %d bytes: %x, wanted %x", x.name, len(root), got, want)
			}
		}
	}
}

func TestEpochOfAllKinds(t *testing.T) {
	for _, root := range roots() {
		for _, n := range epochs() {
			rightEpoch(t, root, n)
		}
	}
	for many := range 300 {
		rightEpoch(t, strings.Repeat("r", many), 12)
		rightEpoch(t, made(many, 6)+"\x00", 65535)
	}
	for bit := range 63 {
		rightEpoch(t, "root", 1<<bit)
		rightEpoch(t, "root", -1<<bit)
	}
}

func TestEpochsHaveUnlikeKeys(t *testing.T) {
	all := register{}
	for _, root := range roots() {
		for _, n := range epochs() {
			all.add(t, Epoch(root, n), show(n)+" of "+show(root[:min(len(root), 9)]))
		}
	}
	each := register{}
	for n := range api.MaxEpoch + 1 {
		each.add(t, Epoch("root", n), show(n))
	}
}

// Roots of which layer 4 makes one block have one key: a short one, and it with bytes 0 behind.
func TestEpochGoesByBlocks(t *testing.T) {
	want := Epoch("root", 3)
	for many := range 61 {
		if got := Epoch("root"+strings.Repeat("\x00", many), 3); got != want {
			t.Errorf("%d bytes 0 behind: %x", many, got)
		}
	}
	if Epoch("root"+strings.Repeat("\x00", 61), 3) == want {
		t.Error("a root above a block's length")
	}
}

// P18.3

func TestMine(t *testing.T) {
	for i, x := range pairs() {
		if send, hear := Mine(api.RoleFirst, x[0], x[1]); send != x[0] || hear != x[1] {
			t.Errorf("%d, the first: %.80q and %.80q", i, send, hear)
		}
		if send, hear := Mine(api.RoleSecond, x[0], x[1]); send != x[1] || hear != x[0] {
			t.Errorf("%d, the second: %.80q and %.80q", i, send, hear)
		}
		if send, hear := Mine(1, x[0], x[1]); send != x[0] || hear != x[1] {
			t.Errorf("%d, 1: %.80q and %.80q", i, send, hear)
		}
		if send, hear := Mine(2, x[0], x[1]); send != x[1] || hear != x[0] {
			t.Errorf("%d, 2: %.80q and %.80q", i, send, hear)
		}
	}
	if send, hear := Mine(api.RoleSecond, "x", "y"); send != "y" || hear != "x" { // the chapter's example
		t.Errorf("%q and %q", send, hear)
	}
}

func TestMineOfOtherRoles(t *testing.T) {
	for i, x := range pairs() {
		for _, role := range others() {
			if send, hear := Mine(role, x[0], x[1]); send != "" || hear != "" {
				t.Errorf("%d, the role %d: %.80q and %.80q", i, role, send, hear)
			}
		}
	}
}

// P18.4

// fits asks that what one role sends by the other one hears by, both ways, at each of these epochs, and that keys have 32 bytes.
func fits(t *testing.T, m meeting, epochs []int) {
	t.Helper()
	there, back := m.roots()
	again, backAgain := m.roots() // each side makes its own
	send, hear := Mine(api.RoleFirst, there, back)
	otherSend, otherHear := Mine(api.RoleSecond, again, backAgain)
	if send != otherHear || hear != otherSend || send == hear {
		t.Errorf("%s: %x and %x, on the other side %x and %x", show(m), send, hear, otherSend, otherHear)
	}
	keys := []string{there, back, send, hear, otherSend, otherHear}
	for _, n := range epochs {
		one, two := Epoch(send, n), Epoch(hear, n)
		if one != Epoch(otherHear, n) || two != Epoch(otherSend, n) || one == two {
			t.Errorf("%s, epoch %d: %x and %x", show(m), n, one, two)
		}
		keys = append(keys, one, two)
	}
	for i, key := range keys {
		if len(key) != 32 {
			t.Errorf("%s: the key %d has %d bytes", show(m), i, len(key))
		}
	}
}

func TestWhatFollows(t *testing.T) {
	for _, base := range bases() {
		fits(t, base, epochs())
		for _, psk := range secrets() {
			m := base
			m.psk = psk
			fits(t, m, []int{0, 1, api.MaxEpoch})
		}
		for _, n := range numbers() {
			m := base
			m.first, m.second = n, ^n
			fits(t, m, []int{0, 1, api.MaxEpoch})
		}
		for _, e := range allEntries() {
			m := base
			m.asker, m.answerer = e, base.asker
			fits(t, m, []int{0, 1, api.MaxEpoch})
		}
	}
	for i, x := range pairs() {
		send, hear := Mine(api.RoleFirst, x[0], x[1])
		if otherSend, otherHear := Mine(api.RoleSecond, x[0], x[1]); send != otherHear || hear != otherSend {
			t.Errorf("%d: %.80q and %.80q, on the other side %.80q and %.80q", i, send, hear, otherSend, otherHear)
		}
	}
}

func TestKeysHaveTheirSize(t *testing.T) {
	for _, root := range append(roots(), secrets()...) {
		for _, n := range epochs() {
			if key := Epoch(root, n); len(key) != 32 {
				t.Errorf("epoch %d of a root of %d bytes: %d bytes", n, len(root), len(key))
			}
		}
	}
}

func FuzzWhatFollows(f *testing.F) {
	f.Add("psk", uint64(1), uint64(2), "a", "b", uint64(3), 4, 5, 6, "tag", "root", 7, 1)
	f.Add("", uint64(0), uint64(0), "", "", uint64(0), 0, 0, 0, "", "", 0, 0)
	f.Add(made(65, 1), uint64(math.MaxUint64), uint64(1<<63), made(300, 2), "node-1", uint64(1<<32), -1, math.MinInt, math.MaxInt, made(70000, 3), made(100, 4), -1, 2)
	f.Fuzz(func(t *testing.T, psk string, first, second uint64, name, otherName string, id uint64, from, until, index int, tag, root string, epoch, role int) {
		m := meeting{psk, first, second, api.Entry{Name: name, Id: id, From: from, Until: until, Index: index, Tag: tag}, api.Entry{Name: otherName, Id: ^id, From: until, Until: from, Index: -index, Tag: root}}
		rightRoots(t, m)
		rightEpoch(t, root, epoch)
		fits(t, m, []int{0, epoch})
		send, hear := Mine(role, psk, root)
		switch {
		case role == 1 && (send != psk || hear != root), role == 2 && (send != root || hear != psk), role != 1 && role != 2 && (send != "" || hear != ""):
			t.Errorf("the role %d: %q and %q of %q and %q", role, send, hear, psk, root)
		}
	})
}

// Rules 4, 5 and 8: what is handed in stays as it was, what is handed out is new memory, and nothing is kept.

// A buffer is the memory of texts that are handed in, with other bytes behind each.
type buffer struct{ memory, kept [][]byte }

// text answers a text that stands in the buffer's memory itself, so that a change there would show.
func (b *buffer) text(s string) string {
	memory := append([]byte(s), "what lies behind"...)
	b.memory, b.kept = append(b.memory, memory), append(b.kept, bytes.Clone(memory))
	return unsafe.String(&memory[0], len(s))
}

// entry answers the entry, likewise.
func (b *buffer) entry(e api.Entry) api.Entry {
	e.Name, e.Tag = b.text(e.Name), b.text(e.Tag)
	return e
}

func (b *buffer) changed() bool {
	for i := range b.memory {
		if !bytes.Equal(b.memory[i], b.kept[i]) {
			return true
		}
	}
	return false
}

func TestWhatIsHandedInStaysAsItWas(t *testing.T) {
	for _, base := range bases() {
		for _, e := range allEntries() {
			b := &buffer{}
			m := meeting{b.text(base.psk), base.first, base.second, b.entry(e), b.entry(base.answerer)}
			there, back := m.roots()
			if b.changed() || m.psk != base.psk || m.asker != e || m.answerer != base.answerer {
				t.Errorf("Roots of %s: they change what is handed in", show(m))
			}
			for _, memory := range b.memory {
				clear(memory) // of texts that are not asked any more
			}
			m = meeting{base.psk, base.first, base.second, e, base.answerer}
			if wantThere, wantBack := m.wantRoots(); there != wantThere || back != wantBack {
				t.Errorf("Roots of %s: they change with what was handed in", show(m))
			}
		}
	}
	for _, root := range roots() {
		for _, n := range epochs() {
			b := &buffer{}
			key := Epoch(b.text(root), n)
			if b.changed() {
				t.Errorf("Epoch %d of a root of %d bytes: it changes what is handed in", n, len(root))
			}
			clear(b.memory[0])
			if key != wantEpoch(root, n) {
				t.Errorf("Epoch %d of a root of %d bytes: it changes with what was handed in", n, len(root))
			}
		}
	}
	for _, x := range pairs() {
		for _, role := range append(others(), 1, 2) {
			b := &buffer{}
			Mine(role, b.text(x[0]), b.text(x[1]))
			if b.changed() {
				t.Errorf("Mine of the role %d: it changes what is handed in", role)
			}
		}
	}
}

// A call leaves nothing behind: whatever comes ahead of it, it answers what it would have.
func TestNothingIsKept(t *testing.T) {
	there, back := plain().wantRoots()
	key := wantEpoch(there, 1)
	right := func() bool {
		x, y := plain().roots()
		send, hear := Mine(api.RoleSecond, x, y)
		return x == there && y == back && send == back && hear == there && Epoch(there, 1) == key
	}
	for _, base := range bases() {
		for i, e := range allEntries() {
			m := base
			m.asker = e
			one, two := m.roots()
			Epoch(one, epochs()[i%len(epochs())])
			Mine(others()[i%len(others())], one, two)
			Mine(1+i%2, two, one)
			if !right() {
				t.Fatalf("behind %s: other answers", show(m))
			}
		}
	}
	for _, root := range append(roots(), secrets()...) {
		for _, n := range epochs() {
			Epoch(root, n)
			if !right() {
				t.Fatalf("behind the epoch %d of a root of %d bytes: other answers", n, len(root))
			}
		}
	}
}
