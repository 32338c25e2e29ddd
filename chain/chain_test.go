package chain

import (
	"crypto/hmac"
	"crypto/sha256"
	"encoding/hex"
	"fmt"
	"math"
	"math/big"
	"slices"
	"strings"
	"testing"

	"carcanet/api"
)

// made answers a text of so many bytes without a plain order, the same ones for the same seed.
func made(length int, seed byte) string {
	b := make([]byte, length)
	state := uint32(seed)*2654435761 + 1
	for i := range b {
		state = state*1664525 + 1013904223
		b[i] = byte(state>>24) ^ seed
	}
	return string(b)
}

// texts answers keys and seeds of lengths at the edges of a key, of the blocks of a sum and of a tag, and of very many bytes.
func texts() []string {
	list := []string{"", "x", "key", "seed", "chain", "carcanet", "carcanet link", "carcanet linkx", " ", "\x00", "\xff", "é", "a b\n"}
	for _, many := range []int{1, 2, 16, 30, 31, 32, 33, 34, 41, 42, 43, 50, 51, 52, 55, 56, 63, 64, 65, 100, 114, 115, 116, 127, 128, 129, 1000, 65536} {
		list = append(list, strings.Repeat("\x00", many), strings.Repeat("\xff", many), made(many, byte(many)))
	}
	return list
}

// counts answers numbers at the edges of what a chain may have, and of their type.
func counts() []int {
	list := []int{math.MinInt, math.MinInt + 1, math.MinInt + 63, math.MinInt + 64, math.MinInt + 65, math.MaxInt - 65, math.MaxInt - 64, math.MaxInt - 63, math.MaxInt - 1, math.MaxInt}
	for _, edge := range []int{0, 1 << 5, 1 << 6, 1 << 7, 1 << 8, 1 << 16, 1 << 32, 1<<32 + 5, 1 << 33, 1<<48 + 1, 1 << 62} {
		for near := -2; near <= 2; near++ {
			list = append(list, edge+near, -edge+near)
		}
	}
	return list
}

// wantStep answers Step by the library's sum.
func wantStep(key string) string {
	sum := sha256.Sum256([]byte("carcanet link" + key))
	return string(sum[:])
}

// wantLine answers a key, and the 64 keys that are come to from it, step by step.
func wantLine(key string) []string {
	line := []string{key}
	for len(line) < 65 {
		line = append(line, wantStep(line[len(line)-1]))
	}
	return line
}

// wantLast answers the last key of a chain, by the library's tag.
func wantLast(seed string) string {
	tag := hmac.New(sha256.New, []byte(seed))
	tag.Write([]byte("carcanet chain\x01"))
	return string(tag.Sum(nil))
}

// wantLeads answers Leads, by numbers that leave no range.
func wantLeads(young, old api.Gate) bool {
	apart := new(big.Int).Sub(big.NewInt(int64(young.Index)), big.NewInt(int64(old.Index)))
	if young.Index < 0 || old.Index < 0 || len(young.Key) != 32 || apart.Sign() < 0 || apart.Cmp(big.NewInt(64)) > 0 {
		return false
	}
	return wantLine(young.Key)[apart.Int64()] == old.Key
}

// turned answers the text of which one bit is another one.
func turned(s string, bit int) string {
	b := []byte(s)
	b[bit/8] ^= 1 << (bit % 8)
	return string(b)
}

// show tells a gate shortly, whatever its key.
func show(g api.Gate) string { return fmt.Sprintf("{%d %.8x (%d)}", g.Index, g.Key, len(g.Key)) }

// unhex answers the text that hex digits are.
func unhex(t *testing.T, s string) string {
	t.Helper()
	b, e := hex.DecodeString(s)
	if e != nil {
		t.Fatal(e)
	}
	return string(b)
}

// P12.1

// The sums were made by another program.
func TestStepOfKnownKeys(t *testing.T) {
	for _, x := range []struct{ key, want string }{
		{"", "b8450b3dc417a35b0ad28532ebfade4667ffcdcd2a0654553db30be4cca118fe"},
		{"x", "19a2be85b0a5fef11f464b10e658f64920ea17aa54ebe894bfb63547b35091c0"},
		{"key", "09784f7ec8601eee82381f03636e9a43a3def9eb367d07db6169948bb2a59101"},
		{strings.Repeat("\x00", 32), "1e2146acf2251f833fb1c6f427739441f72d114e68709422846ad975c34cb9ec"},
		{strings.Repeat("\xff", 31), "12134630ca1d7862cc94b0a7b8de682cd3e2858745f08d887f572e1abefbe7d3"},
		{strings.Repeat("a", 33), "0f3035b4b25bfe7eb3fdbe9ca406ba673479d956f32adc882626569484c74416"},
	} {
		if got := Step(x.key); got != unhex(t, x.want) {
			t.Errorf("%q: %x, wanted %s", x.key, got, x.want)
		}
	}
}

func TestStepOfKeysOfAllLengths(t *testing.T) {
	keys := append(texts(), made(1<<20, 5))
	for many := range 300 {
		keys = append(keys, made(many, 3))
	}
	for _, key := range keys {
		if got, want := Step(key), wantStep(key); got != want {
			t.Errorf("%.20q (%d): %x, wanted %x", key, len(key), got, want)
		}
	}
}

// Each bit of a key counts, and how many bytes it has.
func TestStepsOfUnlikeKeysAreUnlike(t *testing.T) {
	keys := []string{"", "\x00", "\x00\x00", strings.Repeat("\x00", 31), strings.Repeat("\x00", 33)}
	for bit := range 8 * 32 {
		keys = append(keys, turned(strings.Repeat("\x00", 32), bit))
	}
	seen := map[string]string{}
	for _, key := range keys {
		if other, met := seen[Step(key)]; met {
			t.Errorf("%x: the step of %x", key, other)
		}
		seen[Step(key)] = key
	}
}

// rightBack asks for each number of steps that Back is what it should be.
func rightBack(t *testing.T, key string, steps ...int) {
	t.Helper()
	line := wantLine(key)
	for _, n := range steps {
		want, wantErr := "", api.ErrArg
		if 0 <= n && n <= 64 {
			want, wantErr = line[n], api.OK
		}
		if got, e := Back(key, n); got != want || e != wantErr {
			t.Errorf("%.20q (%d), by %d: %x, %d, wanted %x, %d", key, len(key), n, got, e, want, wantErr)
		}
	}
}

func TestBackOfKnownKeys(t *testing.T) {
	for _, x := range []struct {
		steps int
		want  string
	}{
		{0, "6b6579"},
		{1, "09784f7ec8601eee82381f03636e9a43a3def9eb367d07db6169948bb2a59101"},
		{2, "20ab0f04d415f2457ba5863c2311c029648a2dee91e1d832c1e843f75791e654"},
		{3, "01b0cf3774cd33739f5d80cce5e4c97c5764c3d1e1155f9e2fd0ca3337334f31"},
		{63, "8d5e26ced43fa22c1a44b58cd54e1d7ddbfd857bb023a94a999cc22e20fbade6"},
		{64, "7ce8fa37597bb95bd562730c21200ca37d29f6db4c6db70857cd43dcdfeaceda"},
	} {
		if got, e := Back("key", x.steps); got != unhex(t, x.want) || e != api.OK {
			t.Errorf("by %d: %x, %d, wanted %s", x.steps, got, e, x.want)
		}
	}
	for _, steps := range []int{-1, 65, -64, 128, 256, 1 << 32, math.MinInt, math.MaxInt} {
		if got, e := Back("key", steps); got != "" || e != api.ErrArg {
			t.Errorf("by %d: %x, %d", steps, got, e)
		}
	}
}

func TestBackByAllNumbersOfSteps(t *testing.T) {
	steps := counts()
	for n := -130; n <= 130; n++ {
		steps = append(steps, n)
	}
	for _, key := range texts() {
		rightBack(t, key, steps...)
	}
}

// Steps that are gone at once are those that are gone in two parts, whatever the parts.
func TestBackInTwoParts(t *testing.T) {
	for _, key := range []string{"", "key", made(32, 1), made(33, 2)} {
		for all := range 65 {
			whole, _ := Back(key, all)
			for first := range all + 1 {
				half, _ := Back(key, first)
				if got, e := Back(half, all-first); got != whole || e != api.OK {
					t.Fatalf("%.20q: by %d and %d: %x, %d, wanted %x", key, first, all-first, got, e, whole)
				}
			}
		}
	}
}

// P12.2

// rightKey asks of a seed that each Key of these lengths and indexes is what it should be.
func rightKey(t *testing.T, seed string, lengths, indexes []int) {
	t.Helper()
	line := wantLine(wantLast(seed))
	for _, length := range lengths {
		for _, index := range indexes {
			want, wantErr := "", api.ErrArg
			if 1 <= length && length <= 64 && 0 <= index && index <= length {
				want, wantErr = line[length-index], api.OK
			}
			if got, e := Key(seed, length, index); got != want || e != wantErr {
				t.Errorf("%.20q (%d), %d of %d: %x, %d, wanted %x, %d", seed, len(seed), index, length, got, e, want, wantErr)
			}
		}
	}
}

// The keys were made by another program.
func TestKeyOfKnownSeeds(t *testing.T) {
	for _, x := range []struct {
		seed          string
		length, index int
		want          string
	}{
		{"", 1, 1, "dc2ac31cf8908c3c8ca87f1c381813e2d8fbeb49297174cad71a358ddf16abdc"},
		{"", 1, 0, "eafc7d27b96db1bdc1482ed1f85ee0731c1c6ca7ce4029f86ffff0590ab1df4d"},
		{"", 64, 0, "36487016934a9832ef94aae86b5c59517c783b78862b8b9aceabcb82b2ee54b5"},
		{"seed", 1, 1, "45f832bad4ad865d65e7ed7846fd303abdd3ed66d57158eef0f6c81fc1fe43c6"},
		{"seed", 1, 0, "7031d27a61b63127b67971e0af0433915b929149ea6bda097d88ad6a3d23002a"},
		{"seed", 3, 0, "d3b222256d407f02fb159e46bdd722ca52892ccc4b1b61cdb5b617a2e74a4cb4"},
		{"seed", 3, 1, "6c55c04ef815c2f32de9a4161d4898265a821304239420b186297447b47bca89"},
		{"seed", 3, 2, "7031d27a61b63127b67971e0af0433915b929149ea6bda097d88ad6a3d23002a"},
		{"seed", 3, 3, "45f832bad4ad865d65e7ed7846fd303abdd3ed66d57158eef0f6c81fc1fe43c6"},
		{"seed", 64, 64, "45f832bad4ad865d65e7ed7846fd303abdd3ed66d57158eef0f6c81fc1fe43c6"},
		{"seed", 64, 63, "7031d27a61b63127b67971e0af0433915b929149ea6bda097d88ad6a3d23002a"},
		{"seed", 64, 1, "e1e24eee14fe37c24d04069892ca71c51446ce72534ecf830980afe12b3f1bfe"},
		{"seed", 64, 0, "0540ba14b09c60395b3c313d369171b2b17a656d12c1874a98948ea981c7c1b2"},
	} {
		if got, e := Key(x.seed, x.length, x.index); got != unhex(t, x.want) || e != api.OK {
			t.Errorf("%q, %d of %d: %x, %d, wanted %s", x.seed, x.index, x.length, got, e, x.want)
		}
	}
}

func TestKeyOfWhatNoChainHas(t *testing.T) {
	for _, x := range [][2]int{
		{-1, 0}, {0, 0}, {65, 0}, {65, 1}, {65, 65}, {66, 2}, {0, 1}, {0, -1}, {-1, -1}, {-3, -4}, {-64, 0}, {128, 64}, {256, 0},
		{1, -1}, {1, 2}, {3, -1}, {3, 4}, {64, -1}, {64, 65}, {64, -64}, {3, 1 << 32}, {1 << 32, 1 << 32}, {1<<32 + 3, 1},
		{math.MinInt, 0}, {math.MaxInt, 0}, {3, math.MinInt}, {3, math.MaxInt}, {math.MinInt, math.MaxInt}, {math.MaxInt, math.MinInt},
		{math.MinInt, math.MinInt}, {math.MaxInt, math.MaxInt}, {math.MaxInt, math.MaxInt - 1}, {math.MinInt + 1, math.MinInt},
	} {
		for _, seed := range []string{"", "seed"} {
			if got, e := Key(seed, x[0], x[1]); got != "" || e != api.ErrArg {
				t.Errorf("%q, %d of %d: %x, %d", seed, x[1], x[0], got, e)
			}
		}
	}
}

func TestKeyOfAllLengthsAndIndexes(t *testing.T) {
	var near []int
	for n := -3; n <= 68; n++ {
		near = append(near, n)
	}
	for _, seed := range []string{"", "seed", made(32, 4)} {
		rightKey(t, seed, near, near)
	}
	rightKey(t, "seed", counts(), counts())
	for _, seed := range append(texts(), made(1<<20, 6)) {
		rightKey(t, seed, []int{0, 1, 2, 64, 65}, []int{-1, 0, 1, 2, 3, 63, 64, 65})
	}
}

// P12.3

// gate answers a gate of this index and key.
func gate(index int, key string) api.Gate { return api.Gate{Index: index, Key: key} }

// rightLeads asks of two gates whether Leads is what it should be.
func rightLeads(t *testing.T, young, old api.Gate) {
	t.Helper()
	if got, want := Leads(young, old), wantLeads(young, old); got != want {
		t.Errorf("%s to %s: %t", show(young), show(old), got)
	}
}

// The chapter's example, and the edges that the numbers of a gate have.
func TestLeadsOfKnownGates(t *testing.T) {
	key := made(32, 7)
	line := wantLine(key)
	beyond := wantStep(line[64])
	for _, x := range []struct {
		young, old api.Gate
		want       bool
	}{
		{gate(2, key), gate(0, wantStep(wantStep(key))), true},
		{gate(2, key), gate(1, wantStep(key)), true},
		{gate(0, key), gate(0, key), true}, {gate(5, key), gate(5, key), true}, {gate(64, key), gate(64, key), true},
		{gate(1, key), gate(0, line[1]), true}, {gate(63, key), gate(0, line[63]), true}, {gate(64, key), gate(0, line[64]), true},
		{gate(65, key), gate(1, line[64]), true}, {gate(65, key), gate(0, beyond), false}, {gate(66, key), gate(1, beyond), false},
		{gate(100, key), gate(90, line[10]), true}, {gate(1<<40, key), gate(1<<40-64, line[64]), true}, {gate(1<<40, key), gate(1<<40-65, beyond), false},
		{gate(0, line[1]), gate(1, key), false}, {gate(0, key), gate(1, line[1]), false}, {gate(1, key), gate(2, key), false}, {gate(0, key), gate(1, key), false},
		{gate(2, key), gate(1, key), false}, {gate(2, key), gate(2, line[1]), false}, {gate(2, key), gate(1, line[2]), false}, {gate(2, key), gate(0, line[1]), false},
		{gate(0, key), gate(-1, line[1]), false}, {gate(-1, key), gate(-1, key), false}, {gate(-1, key), gate(0, key), false}, {gate(-1, key), gate(-2, line[1]), false},
		{gate(5, key), gate(-5, line[10]), false}, {gate(-5, key), gate(5, line[10]), false}, {gate(-1, key), gate(-65, line[64]), false}, {gate(63, key), gate(-1, line[64]), false},
		{gate(math.MinInt, key), gate(math.MinInt, key), false}, {gate(math.MinInt+1, key), gate(math.MinInt, line[1]), false},
		{gate(math.MaxInt, key), gate(math.MaxInt, key), true}, {gate(math.MaxInt, key), gate(math.MaxInt-1, line[1]), true},
		{gate(math.MaxInt, key), gate(math.MaxInt-64, line[64]), true}, {gate(math.MaxInt, key), gate(math.MaxInt-65, beyond), false},
		{gate(math.MaxInt, key), gate(0, key), false}, {gate(0, key), gate(math.MaxInt, key), false},
		{api.Gate{}, api.Gate{}, false}, {gate(0, "x"), gate(0, "x"), false}, {gate(1, ""), gate(0, wantStep("")), false}, {gate(0, key), api.Gate{}, false}, {api.Gate{}, gate(0, key), false},
	} {
		if got := Leads(x.young, x.old); got != x.want {
			t.Errorf("%s to %s: %t", show(x.young), show(x.old), got)
		}
	}
}

// A difference that is no int any more comes to a small one, or to 0, in numbers that wrap.
func TestLeadsOfIndexesThatAreFarApart(t *testing.T) {
	key := made(32, 8)
	line := wantLine(key)
	for steps, to := range line {
		if steps == 0 {
			continue
		}
		if Leads(gate(math.MinInt+steps-1, key), gate(math.MaxInt, to)) {
			t.Errorf("from the least and %d to the greatest one, by %d steps", steps-1, steps)
		}
		if Leads(gate(math.MinInt, key), gate(math.MaxInt-steps+1, to)) {
			t.Errorf("from the least to the greatest one less %d, by %d steps", steps-1, steps)
		}
	}
	for _, to := range line {
		for _, x := range [][2]int{{math.MaxInt, math.MinInt}, {math.MaxInt, -1}, {0, math.MinInt}, {5, math.MinInt + 5}, {math.MinInt, 0}, {1 << 32, 0}, {1 << 8, 0}, {math.MaxInt, 0}, {1<<32 + 7, 7}} {
			if Leads(gate(x[0], key), gate(x[1], to)) {
				t.Errorf("from %d to %d, by %x", x[0], x[1], to)
			}
		}
	}
}

func TestLeadsOfAllIndexes(t *testing.T) {
	key := made(32, 9)
	line := wantLine(key)
	for _, young := range counts() {
		for _, old := range counts() {
			rightLeads(t, gate(young, key), gate(old, key))
			rightLeads(t, gate(young, key), gate(old, line[64]))
			if apart := young - old; 0 <= apart && apart <= 64 { // also where the difference wraps
				rightLeads(t, gate(young, key), gate(old, line[apart]))
			}
		}
	}
}

// Each key of a line is come to by one number of steps, and by no other one.
func TestLeadsByEachNumberOfSteps(t *testing.T) {
	key := made(32, 10)
	line := append(wantLine(key), wantStep(wantLine(key)[64]))
	for apart := -2; apart <= 67; apart++ {
		for steps, to := range line {
			for _, index := range []int{67, 100} {
				want := apart == steps && steps <= 64
				if got := Leads(gate(index, key), gate(index-apart, to)); got != want {
					t.Errorf("%d apart, by %d steps: %t", apart, steps, got)
				}
			}
		}
	}
}

// A key that leads to others has 32 bytes, also where its steps come to the other one.
func TestLeadsOfYoungKeysOfAllLengths(t *testing.T) {
	for _, key := range append(texts(), made(31, 11), made(32, 11), made(33, 11)) {
		want := len(key) == 32
		for steps, to := range wantLine(key) {
			if steps > 3 && steps < 63 {
				continue
			}
			if got := Leads(gate(70, key), gate(70-steps, to)); got != want {
				t.Errorf("%.20q (%d), by %d steps: %t", key, len(key), steps, got)
			}
		}
	}
}

// What is led to is that key alone: not what it begins with, and not it with more behind.
func TestLeadsToOldKeysOfAllLengths(t *testing.T) {
	key := made(32, 12)
	for _, steps := range []int{0, 1, 2, 63, 64} {
		right := wantLine(key)[steps]
		olds := append(texts(), right+"\x00", right+right, right[:31], right[:16], right[1:], "\x00"+right, right[1:]+right[:1], hex.EncodeToString([]byte(right)))
		for _, old := range olds {
			if Leads(gate(70, key), gate(70-steps, old)) {
				t.Errorf("by %d steps, to %.20q (%d)", steps, old, len(old))
			}
		}
		if !Leads(gate(70, key), gate(70-steps, right)) {
			t.Errorf("by %d steps, to the right one", steps)
		}
	}
}

func TestLeadsOfKeysWithOneBitChanged(t *testing.T) {
	key := made(32, 13)
	for _, steps := range []int{0, 1, 2, 64} {
		right := wantLine(key)[steps]
		for bit := range 8 * 32 {
			if Leads(gate(70, key), gate(70-steps, turned(right, bit))) {
				t.Errorf("by %d steps: old's bit %d does not count", steps, bit)
			}
			if Leads(gate(70, turned(key, bit)), gate(70-steps, right)) {
				t.Errorf("by %d steps: young's bit %d does not count", steps, bit)
			}
		}
	}
}

// P12.4

// chainOf answers all keys of a chain, by their indexes.
func chainOf(t *testing.T, seed string, length int) []string {
	t.Helper()
	keys := make([]string, length+1)
	for index := range keys {
		key, e := Key(seed, length, index)
		if e != api.OK || len(key) != 32 {
			t.Fatalf("%.20q, %d of %d: %x, %d", seed, index, length, key, e)
		}
		keys[index] = key
	}
	return keys
}

// follows asks of a chain all that the chapter says follows.
func follows(t *testing.T, seed string, length int) {
	t.Helper()
	keys := chainOf(t, seed, length)
	for young := range keys {
		if young > 0 && keys[young-1] != Step(keys[young]) {
			t.Errorf("%.20q, %d: the key %d is not the Step of the next one", seed, length, young-1)
		}
		for old := range keys {
			if got, want := Leads(gate(young, keys[young]), gate(old, keys[old])), old <= young; got != want {
				t.Errorf("%.20q, %d: from %d to %d: %t", seed, length, young, old, got)
			}
		}
	}
}

func TestWhatFollows(t *testing.T) {
	for _, length := range []int{1, 2, 3, 5, 33, 63, 64} {
		for _, seed := range []string{"", "seed", made(32, 14)} {
			follows(t, seed, length)
		}
	}
	for _, seed := range texts() {
		follows(t, seed, 4)
	}
}

// Chains of one seed have one last key, so the longer one is the shorter one with more ahead.
func TestChainsOfOneSeed(t *testing.T) {
	whole := chainOf(t, "seed", 64)
	for length := 1; length <= 64; length++ {
		if got := chainOf(t, "seed", length); !slices.Equal(got, whole[64-length:]) {
			t.Errorf("of %d: other keys", length)
		}
	}
}

func TestChainsOfUnlikeSeedsHaveNoKeyInCommon(t *testing.T) {
	seen := map[string]string{}
	for _, seed := range []string{"", "seed", "seee", "seed ", "seed\x01", "chain", made(64, 15), made(65, 15)} {
		for index, key := range chainOf(t, seed, 64) {
			if other, met := seen[key]; met {
				t.Errorf("%q, %d: the key of %s", seed, index, other)
			}
			seen[key] = fmt.Sprintf("%q, %d", seed, index)
		}
	}
}

// A key leads to none of another chain, wherever it stands.
func TestLeadsToNoOtherChain(t *testing.T) {
	one, other := chainOf(t, "seed", 8), chainOf(t, "other", 8)
	for young := range one {
		for old := range other {
			if Leads(gate(young, one[young]), gate(old, other[old])) {
				t.Errorf("from %d to %d of the other one", young, old)
			}
		}
	}
}

func FuzzWhatFollows(f *testing.F) {
	f.Add("", "", 0, 0)
	f.Add("key", "seed", 3, 1)
	f.Add(made(32, 16), made(32, 17), 64, 0)
	f.Add(made(33, 18), made(65, 19), 65, -1)
	f.Add(made(31, 20), "x", math.MaxInt, math.MinInt)
	f.Add(made(32, 21), "y", math.MinInt, math.MaxInt)
	f.Fuzz(func(t *testing.T, key, seed string, n, k int) {
		if got, want := Step(key), wantStep(key); got != want {
			t.Errorf("%q: Step is %x", key, got)
		}
		rightBack(t, key, n, k, n%65, k%65)
		rightKey(t, seed, []int{n, k, n % 65}, []int{k, n, k % 65, n % 65})
		line := wantLine(key)
		for _, steps := range []int{0, 1, 2, 64} {
			for _, to := range []string{line[steps], seed} {
				rightLeads(t, gate(n, key), gate(k, to))
				rightLeads(t, gate(n, key), gate(n-steps, to)) // also where it wraps
			}
		}
		if length := n % 65; length > 0 {
			follows(t, seed, length%6+1)
		}
	})
}

// Rules 4 and 5: what is handed in stays as it was, and nothing is kept.

func TestWhatIsHandedInStaysAsItWas(t *testing.T) {
	for _, s := range texts() {
		kept := strings.Clone(s)
		young, old := gate(4, s), gate(3, s)
		Step(s)
		Leads(young, old)
		for _, n := range []int{-1, 0, 1, 64, 65} {
			Back(s, n)
			Key(s, 64, n)
		}
		if s != kept || young != gate(4, kept) || old != gate(3, kept) {
			t.Errorf("%.20q (%d) is changed", kept, len(kept))
		}
	}
}

// What is handed out does not hang on bytes that the text which was handed in was made of.
func TestWhatIsHandedOutStays(t *testing.T) {
	in := []byte("carcanet key of some bytes")
	zero, _ := Back(string(in), 0)
	one, _ := Back(string(in), 1)
	clear(in)
	if zero != "carcanet key of some bytes" || one != wantStep(zero) {
		t.Errorf("%q, %x", zero, one)
	}
}

// A call leaves nothing behind: whatever comes ahead of it, it answers what it would have.
func TestNothingIsKept(t *testing.T) {
	line := wantLine("key")
	last := wantLine(wantLast("seed"))
	for i, s := range texts() {
		Step(s)
		Back(s, i)
		Back(s, -i)
		Key(s, i, i/2)
		Key(s, i/2, i)
		Leads(gate(i, s), gate(i/2, s))
		if got := Step("key"); got != line[1] {
			t.Fatalf("behind %.20q: Step is %x", s, got)
		}
		if got, e := Back("key", 7); got != line[7] || e != api.OK {
			t.Fatalf("behind %.20q: Back is %x, %d", s, got, e)
		}
		if got, e := Key("seed", 9, 4); got != last[5] || e != api.OK {
			t.Fatalf("behind %.20q: Key is %x, %d", s, got, e)
		}
		if !Leads(gate(9, last[0]), gate(4, last[5])) || Leads(gate(9, last[0]), gate(4, last[4])) {
			t.Fatalf("behind %.20q: Leads tells something else", s)
		}
	}
}
