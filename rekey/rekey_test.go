package rekey

import (
	"testing"

	"carcanet/api"
)

// due asks that Due tells this, whatever else the session has.
func due(t *testing.T, count, since, now int, want bool) {
	t.Helper()
	for _, s := range others(api.Session{Count: count, Since: since}) {
		if got := Due(s, now); got != want {
			t.Fatalf("Due of Count %d, Since %d, now %d: %t (%#v)", count, since, now, got, s)
		}
	}
}

// spent asks that Spent tells this, whatever else the session has.
func spent(t *testing.T, seq, epoch int, want bool) {
	t.Helper()
	for _, s := range others(api.Session{Seq: seq, Epoch: epoch}) {
		if got := Spent(s); got != want {
			t.Fatalf("Spent of Seq %d, Epoch %d: %t (%#v)", seq, epoch, got, s)
		}
	}
}

// next asks that Next answers this, and what is handed in stays as it was.
func next(t *testing.T, s api.Session, now int, want api.Session, e api.Errno) {
	t.Helper()
	kept := s
	if got, f := Next(s, now); got != want || f != e {
		t.Fatalf("Next of %#v, now %d: %#v %d, wanted %#v %d", kept, now, got, f, want, e)
	}
	if s != kept {
		t.Fatalf("Next of %#v changes it: %#v", kept, s)
	}
}

// refused asks that there is no next number, and nothing told beside that.
func refused(t *testing.T, s api.Session, now int) {
	t.Helper()
	next(t, s, now, api.Session{}, api.ErrSpent)
}

// P21.1

func TestDueOfCounts(t *testing.T) {
	for _, x := range []struct {
		count int
		want  bool
	}{
		{0, false}, {1, false}, {30, false}, {31, false}, {32, true}, {33, true}, {64, true}, {4096, true}, {1 << 32, true}, {greatest, true},
		{-1, false}, {-32, false}, {-33, false}, {32 - 1<<32, false}, {least, false}, {least + 32, false},
	} {
		for _, y := range []struct{ since, now int }{ // no 64 ticks, or none that play a part
			{0, 0}, {0, 63}, {10, 10}, {10, 73}, {10, 9}, {10, -54}, {1000, 0}, {-1, 63}, {-1, greatest}, {least, greatest}, {greatest, least}, {greatest, greatest}, {least, least}, {-100, -1},
		} {
			due(t, x.count, y.since, y.now, x.want)
		}
		for _, y := range []struct{ since, now int }{{0, 64}, {10, 74}, {10, 75}, {0, greatest}, {greatest - 64, greatest}} {
			due(t, x.count, y.since, y.now, true)
		}
	}
}

func TestDueOfTicks(t *testing.T) {
	for _, x := range []struct {
		since, now int
		want       bool
	}{
		{0, 0, false}, {0, 1, false}, {0, 63, false}, {0, 64, true}, {0, 65, true}, {0, 1 << 32, true}, {0, greatest, true},
		{10, 10, false}, {10, 64, false}, {10, 73, false}, {10, 74, true}, {10, 75, true}, {10, 1 << 40, true},
		{1 << 30, 1<<30 + 63, false}, {1 << 30, 1<<30 + 64, true}, {1 << 40, 1<<40 + 63, false}, {1 << 40, 1<<40 + 64, true},
		// up to the greatest int: a Since with 64 put to it is none
		{greatest - 65, greatest, true}, {greatest - 64, greatest, true}, {greatest - 63, greatest, false}, {greatest - 1, greatest, false}, {greatest, greatest, false}, {greatest - 64, greatest - 1, false},
		// now below Since
		{10, 9, false}, {64, 0, false}, {65, 0, false}, {100, 36, false}, {100, 35, false}, {1 << 40, 0, false}, {greatest, 0, false}, {greatest, 1, false}, {greatest, greatest - 64, false}, {greatest, greatest - 1, false},
		// Since below 0
		{-1, -1, false}, {-1, 0, false}, {-1, 62, false}, {-1, 63, false}, {-1, 64, false}, {-1, 65, false}, {-1, 1 << 40, false}, {-1, greatest, false}, {-64, 0, false}, {-65, 64, false}, {-100, 100, false}, {least, 0, false}, {least, 64, false},
		// now below 0, and below Since
		{0, -1, false}, {0, -64, false}, {0, -65, false}, {10, -1000, false}, {0, least, false}, {1, least, false}, {64, least, false}, {65, least, false},
		// both below 0
		{-1, -65, false}, {-100, -37, false}, {-100, -36, false}, {-100, -10, false}, {-200, -1, false}, {least, -1, false}, {least, least + 63, false}, {least, least + 64, false}, {least, least, false}, {-1, least, false},
		// so far apart that their difference is no int: some come to 64 and more, if it wraps
		{least, greatest, false}, {least, 1 << 40, false}, {-2, greatest, false}, {-greatest, greatest, false}, {greatest, least, false}, {greatest, least + 62, false}, {greatest, least + 63, false}, {greatest, least + 64, false}, {greatest, least + 100, false}, {greatest - 63, least, false}, {greatest - 64, least, false}, {2, least, false}, {1 << 40, least, false}, {greatest, -2, false}, {greatest, -1000, false},
	} {
		for _, count := range []int{0, 1, 31, -1, least} {
			due(t, count, x.since, x.now, x.want)
		}
		for _, count := range []int{32, 33, greatest} {
			due(t, count, x.since, x.now, true)
		}
		if got := wantDue(api.Session{Since: x.since}, x.now); got != x.want {
			t.Errorf("the test is at odds with itself: Since %d, now %d: %t", x.since, x.now, got)
		}
	}
}

func TestDueOfAllEdges(t *testing.T) {
	met := map[bool]int{}
	for _, count := range counts() {
		for _, since := range sinces() {
			for _, now := range nows(since) {
				s := api.Session{Count: count, Since: since}
				want := wantDue(s, now)
				due(t, count, since, now, want)
				met[want]++
			}
		}
	}
	if met[true] < 5000 || met[false] < 5000 {
		t.Errorf("%v", met)
	}
}

// Each Count and each number of ticks, alone and together, up to twice what is enough.
func TestDueOfEachCountAndTick(t *testing.T) {
	for count := -40; count <= 70; count++ {
		for up := -130; up <= 130; up++ {
			for _, since := range []int{0, 10, 130, 1 << 30} {
				due(t, count, since, since+up, count >= 32 || up >= 64)
			}
			due(t, count, -1, up, count >= 32)
		}
	}
}

// That no number is left says nothing of whether a key is due.
func TestDueOfSpentSessions(t *testing.T) {
	for _, seq := range seqs() {
		for _, epoch := range epochs() {
			for _, x := range []struct {
				count, since, now int
				want              bool
			}{{31, 10, 73, false}, {32, 10, 73, true}, {31, 10, 74, true}, {32, -1, 0, true}, {0, -1, 64, false}} {
				s := api.Session{Seq: seq, Epoch: epoch, Count: x.count, Since: x.since}
				if Due(s, x.now) != x.want {
					t.Fatalf("Due of %#v, now %d: %t", s, x.now, !x.want)
				}
			}
		}
	}
}

// P21.2

func TestSpentOfKnownSessions(t *testing.T) {
	for _, x := range []struct {
		seq, epoch int
		want       bool
	}{
		{0, 0, false}, {1, 0, false}, {0, 1, false},
		{4095, 0, false}, {4096, 0, true}, {4097, 0, true}, {1 << 32, 0, true}, {greatest, 0, true}, {least, 0, false}, {-1, 0, false}, {-4096, 0, false}, {4096 - 1<<32, 0, false}, {65535, 0, true},
		{0, 65534, false}, {0, 65535, true}, {0, 65536, true}, {0, 1 << 32, true}, {0, greatest, true}, {0, least, false}, {0, -1, false}, {0, -65535, false}, {0, 65535 - 1<<32, false}, {0, 4096, false}, {0, 4097, false},
		{4095, 65534, false}, {4096, 65534, true}, {4095, 65535, true}, {4096, 65535, true}, {4097, 65536, true},
		{least, 65534, false}, {least, 65535, true}, {least, 65536, true}, {4095, least, false}, {4096, least, true}, {4097, least, true}, {least, least, false},
		{greatest, 65534, true}, {greatest, 65535, true}, {4095, greatest, true}, {4096, greatest, true}, {greatest, greatest, true}, {greatest, least, true}, {least, greatest, true}, {-1, 65535, true}, {4096, -1, true}, {-1, -1, false},
	} {
		spent(t, x.seq, x.epoch, x.want)
		if got := wantSpent(api.Session{Seq: x.seq, Epoch: x.epoch}); got != x.want {
			t.Errorf("the test is at odds with itself: Seq %d, Epoch %d: %t", x.seq, x.epoch, got)
		}
	}
}

func TestSpentOfAllEdges(t *testing.T) {
	for _, seq := range seqs() {
		for _, epoch := range epochs() {
			spent(t, seq, epoch, wantSpent(api.Session{Seq: seq, Epoch: epoch}))
		}
	}
}

// What is due says nothing of what is left.
func TestSpentOfDueSessions(t *testing.T) {
	for _, count := range counts() {
		for _, since := range sinces() {
			for _, x := range []struct {
				seq, epoch int
				want       bool
			}{{4095, 65534, false}, {4096, 0, true}, {0, 65535, true}} {
				s := api.Session{Seq: x.seq, Epoch: x.epoch, Count: count, Since: since}
				if Spent(s) != x.want {
					t.Fatalf("Spent of %#v: %t", s, !x.want)
				}
			}
		}
	}
}

// P21.3

func TestTheExampleOfTheChapter(t *testing.T) {
	s, e := Next(api.Session{Seq: 32, Epoch: 0, Count: 32}, 0)
	if e != api.OK || s.Epoch != 1 || s.Count != 1 {
		t.Errorf("%#v %d", s, e)
	}
}

// The five fields here are written by hand. All else of a session stays.
func TestNextOfKnownSessions(t *testing.T) {
	for _, x := range []struct {
		seq, epoch, count, since, now int
		wantSeq, wantEpoch, wantCount int
		wantSince                     int
	}{
		// not due
		{0, 0, 0, 0, 0, 1, 0, 1, 0}, {5, 2, 7, 3, 20, 6, 2, 8, 3}, {31, 0, 31, 0, 0, 32, 0, 32, 0}, {31, 0, 31, 10, 73, 32, 0, 32, 10},
		{9, 4, 31, -1, greatest, 10, 4, 32, -1}, {9, 4, 31, least, greatest, 10, 4, 32, least}, {9, 4, 0, greatest, least, 10, 4, 1, greatest}, {9, 4, 0, greatest, greatest, 10, 4, 1, greatest}, {9, 4, 0, 100, 0, 10, 4, 1, 100},
		{9, 4, -1, 10, 20, 10, 4, 0, 10}, {9, 4, least, 10, 20, 10, 4, least + 1, 10}, {9, 4, least, 10, -20, 10, 4, least + 1, 10},
		{4095, 65534, 31, 3, 66, 4096, 65534, 32, 3}, {4095, 0, 0, 0, 0, 4096, 0, 1, 0}, {0, 65534, 0, 0, 0, 1, 65534, 1, 0},
		{-1, -1, 0, 0, 0, 0, -1, 1, 0}, {least, least, 0, 0, 0, least + 1, least, 1, 0},
		// due, by Count
		{32, 0, 32, 0, 0, 33, 1, 1, 0}, {32, 0, 32, 10, 20, 33, 1, 1, 20}, {32, 0, 33, 10, 20, 33, 1, 1, 20}, {32, 0, greatest, 10, 20, 33, 1, 1, 20},
		{32, 0, 32, -1, 20, 33, 1, 1, 20}, {32, 0, 32, 20, 10, 33, 1, 1, 10}, {32, 0, 32, 20, -10, 33, 1, 1, -10}, {32, 0, 32, greatest, least, 33, 1, 1, least}, {32, 0, 32, least, greatest, 33, 1, 1, greatest},
		// due, by the ticks
		{5, 2, 7, 3, 67, 6, 3, 1, 67}, {5, 2, 7, 3, 1 << 40, 6, 3, 1, 1 << 40}, {5, 2, 0, 0, 64, 6, 3, 1, 64}, {5, 2, -1, 0, 64, 6, 3, 1, 64}, {5, 2, least, 0, 64, 6, 3, 1, 64}, {5, 2, least, 0, greatest, 6, 3, 1, greatest},
		{4095, 65534, 0, 3, 67, 4096, 65535, 1, 67}, {-1, -1, 0, 3, 67, 0, 0, 1, 67}, {least, least, 0, 3, 67, least + 1, least + 1, 1, 67},
		// due, by both: one key more, not two
		{5, 2, 32, 3, 67, 6, 3, 1, 67}, {4095, 65534, 32, 3, 67, 4096, 65535, 1, 67}, {5, 2, greatest, 0, greatest, 6, 3, 1, greatest},
	} {
		for _, s := range others(api.Session{Seq: x.seq, Epoch: x.epoch, Count: x.count, Since: x.since}) {
			next(t, s, x.now, behind(s, x.wantSeq, x.wantEpoch, x.wantCount, x.wantSince, x.now), api.OK)
		}
	}
}

func TestNextOfAllEdges(t *testing.T) {
	met := map[api.Errno]int{}
	for _, seq := range []int{0, 1, 32, 4094, 4095, 4096, 4097, -1, least, greatest} {
		for _, epoch := range []int{0, 1, 4096, 65533, 65534, 65535, 65536, -1, least, greatest} {
			for _, count := range counts() {
				for _, since := range sinces() {
					s := behind(filled(), seq, epoch, count, since, 114)
					for _, now := range nows(since) {
						want, e := wantNext(s, now)
						next(t, s, now, want, e)
						met[e]++
					}
				}
			}
		}
	}
	if met[api.OK] < 100000 || met[api.ErrSpent] < 100000 || len(met) != 2 {
		t.Errorf("%v", met)
	}
}

func TestNextOfAllSeqsAndEpochs(t *testing.T) {
	for _, seq := range seqs() {
		for _, epoch := range epochs() {
			for _, count := range []int{0, 31, 32} {
				for _, s := range others(api.Session{Seq: seq, Epoch: epoch, Count: count, Since: 10}) {
					for _, now := range []int{73, 74} {
						want, e := wantNext(s, now)
						next(t, s, now, want, e)
					}
				}
			}
		}
	}
}

// A Spent session has no next number, whatever else it has, due or not.
func TestNextOfSpentSessions(t *testing.T) {
	for _, x := range []struct{ seq, epoch int }{
		{4096, 0}, {4097, 0}, {greatest, 0}, {0, 65535}, {0, 65536}, {0, greatest}, {4096, 65535}, {4095, 65535}, {4096, 65534}, {greatest, greatest}, {least, 65535}, {4096, least},
	} {
		for _, count := range []int{0, 31, 32, 33, -1, least, greatest} {
			for _, since := range []int{0, 10, -1, least, greatest} {
				for _, s := range others(api.Session{Seq: x.seq, Epoch: x.epoch, Count: count, Since: since}) {
					for _, now := range []int{0, 10, 73, 74, -1, least, greatest} {
						refused(t, s, now)
					}
				}
			}
		}
	}
}

// What a call answers hangs on what it is handed alone.
func TestNothingIsKept(t *testing.T) {
	for _, count := range counts() {
		for _, since := range sinces() {
			s := api.Session{Count: count, Since: since}
			Next(s, 74)
			Due(s, 74)
			Spent(s)
			if Due(api.Session{Count: 31, Since: 10}, 73) || !Due(api.Session{Since: 10}, 74) || Spent(api.Session{Seq: 4095}) || !Spent(api.Session{Epoch: 65535}) {
				t.Fatalf("behind %#v: other answers", s)
			}
			next(t, api.Session{Seq: 5, Epoch: 2, Count: 7, Since: 3, Used: 1}, 20, api.Session{Seq: 6, Epoch: 2, Count: 8, Since: 3, Used: 20}, api.OK)
		}
	}
}

// P21.4

// row takes numbers in a row, till there are none, at the times that when tells, and answers what each one was taken with.
func row(t *testing.T, s api.Session, when func(i int) int) []api.Session {
	t.Helper()
	var list []api.Session
	for !Spent(s) {
		v, e := Next(s, when(len(list)))
		if e != api.OK || len(list) == 4096 {
			t.Fatalf("behind %d numbers %#v is not Spent, and Next tells %d", len(list), s, e)
		}
		s, list = v, append(list, v)
	}
	refused(t, s, when(len(list)))
	refused(t, s, when(len(list))+64)
	return list
}

// at answers one time, whichever number is taken.
func at(now int) func(int) int { return func(int) int { return now } }

// apart asks what each row keeps to: numbers rise by one, a key changes to the next one alone, no number comes twice, and none of one key, which has at most 32 of them, by their Count.
func apart(t *testing.T, first api.Session, list []api.Session) {
	t.Helper()
	numbers, ofKey, uses := map[int]bool{}, map[[2]int]bool{}, map[int]int{first.Epoch: max(first.Count, 0)}
	before := first
	for _, s := range list {
		if numbers[s.Seq] || ofKey[[2]int{s.Epoch, s.Seq}] || s.Seq != before.Seq+1 {
			t.Fatalf("behind %#v: the number of %#v", before, s)
		}
		if s.Epoch != before.Epoch && (s.Epoch != before.Epoch+1 || s.Count != 1) || s.Epoch > 65535 || s.Seq > 4096 {
			t.Fatalf("behind %#v: the key of %#v", before, s)
		}
		numbers[s.Seq], ofKey[[2]int{s.Epoch, s.Seq}] = true, true
		if uses[s.Epoch]++; uses[s.Epoch] != s.Count || s.Count > 32 {
			t.Fatalf("behind %#v: the Count of %#v", before, s)
		}
		before = s
	}
	if last := first.Seq + len(list); before.Seq != last || last != 4096 && before.Epoch != 65535 {
		t.Fatalf("the last one of %d is %#v", len(list), before)
	}
}

// Of a new session, 4096 numbers at one time: the first 32 have the key 0, and each 32nd one from there on takes a new key.
func TestNumbersInARow(t *testing.T) {
	for _, now := range []int{0, 1, 10, 63, 64, 1 << 30, -1, least, greatest - 64} {
		for _, first := range others(api.Session{Since: now}) {
			list := row(t, first, at(now))
			if len(list) != 4096 {
				t.Fatalf("now %d: %d numbers", now, len(list))
			}
			for i, s := range list {
				if want := behind(first, i+1, i/32, i%32+1, now, now); s != want {
					t.Fatalf("now %d: the number %d is %#v, wanted %#v", now, i+1, s, want)
				}
			}
			apart(t, first, list)
		}
	}
}

// Of a key that has some numbers already the first new key comes where it has 32, and of one that is old enough at once; each 32nd one from there on.
func TestNumbersInARowFromAnyCount(t *testing.T) {
	for count := range 33 {
		for _, old := range []int{0, 1, 63, 64, 65, 1000} {
			first := api.Session{Seq: 100 + count, Epoch: 5, Count: count, Since: 10}
			list := row(t, first, at(10+old))
			till := 32 - count
			if old >= 64 {
				till = 0
			}
			for i, s := range list {
				epoch, taken := 5, 101+count+i
				if i >= till {
					epoch += (i-till)/32 + 1
				}
				if s.Epoch != epoch || s.Seq != taken {
					t.Fatalf("Count %d, %d ticks old: number %d is %#v, wanted Epoch %d", count, old, taken, s, epoch)
				}
				if (s.Count == 1 && i >= till) != (i >= till && (i-till)%32 == 0) {
					t.Fatalf("Count %d, %d ticks old: number %d is %#v", count, old, taken, s)
				}
			}
			if old < 64 {
				apart(t, first, list)
			}
		}
	}
}

// The last keys: a session ends with the first number of the key 65535.
func TestNumbersInARowUpToTheLastKey(t *testing.T) {
	for epoch := 65500; epoch < 65535; epoch++ {
		first := api.Session{Epoch: epoch, Seq: 1000, Count: 0}
		list := row(t, first, at(0))
		last := list[len(list)-1]
		if many := (65535-epoch)*32 + 1; len(list) != many || last.Epoch != 65535 || last.Count != 1 || last.Seq != 1000+many {
			t.Errorf("from the key %d on: %d numbers, the last one %#v", epoch, len(list), last)
		}
		apart(t, first, list)
	}
}

// As time goes on a key has fewer numbers, and none is taken under a key that is 64 ticks old.
func TestNumbersAsTimeGoesOn(t *testing.T) {
	for _, step := range []int{1, 2, 3, 4, 7, 8, 21, 22, 31, 32, 33, 63, 64, 65, 1000} {
		list := row(t, api.Session{}, func(i int) int { return i * step })
		of := min(32, (64+step-1)/step) // numbers of one key
		for i, s := range list {
			key := i / of
			if want := (api.Session{Seq: i + 1, Epoch: key, Count: i%of + 1, Since: key * of * step, Used: i * step}); s != want {
				t.Fatalf("each %d ticks: the number %d is %#v, wanted %#v", step, i+1, s, want)
			}
			if s.Used-s.Since >= 64 {
				t.Fatalf("each %d ticks: %#v is taken under an old key", step, s)
			}
		}
		if len(list) != 4096 {
			t.Errorf("each %d ticks: %d numbers", step, len(list))
		}
		apart(t, api.Session{}, list)
	}
}

// Whatever a clock tells, no number comes twice.
func TestNumbersWhateverTheTime(t *testing.T) {
	wild := []int{0, 64, 10, -1, 1000, 999, least, greatest, 63, 127, -64, 1 << 40, 3, 67, 67, 131}
	for turn := range len(wild) {
		for _, stay := range []int{1, 2, 5, 31, 32, 33} {
			for _, first := range []api.Session{{}, {Since: -1}, {Since: greatest}, {Epoch: 65000, Count: 31}, {Seq: 4000, Epoch: 65530}} {
				apart(t, first, row(t, first, func(i int) int { return wild[(turn+i/stay)%len(wild)] }))
			}
		}
	}
}

func FuzzNext(f *testing.F) {
	f.Add(5, 2, 7, 3, 20)
	f.Add(4095, 65534, 32, 3, 67)
	f.Add(4096, 0, 0, 0, 0)
	f.Add(0, 65535, 0, 0, 0)
	f.Add(0, 0, least, greatest, least)
	f.Add(0, 0, 31, -1, greatest)
	f.Add(0, 0, 0, least, greatest)
	f.Fuzz(func(t *testing.T, seq, epoch, count, since, now int) {
		for _, s := range others(api.Session{Seq: seq, Epoch: epoch, Count: count, Since: since}) {
			if Due(s, now) != wantDue(s, now) || Spent(s) != wantSpent(s) {
				t.Errorf("%#v, now %d: Due %t, Spent %t", s, now, Due(s, now), Spent(s))
			}
			want, e := wantNext(s, now)
			next(t, s, now, want, e)
		}
	})
}
