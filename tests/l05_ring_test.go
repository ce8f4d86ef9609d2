package tests

import (
	"math"
	"math/rand"
	"slices"
	"testing"

	"loop.example/g00776/impl"
)

func ring(most int64, items ...impl.Msg) impl.Ring { return impl.Ring{Cap: most, Items: items} }

func sameRing(a, b impl.Ring) bool { return a.Cap == b.Cap && slices.Equal(a.Items, b.Items) }

// told tells right messages with these Seqs, of four topics in turn.
func told(seqs ...int64) []impl.Msg {
	topics := []string{"a", "a/b", "b", "news/sport"}
	var list []impl.Msg
	for i, seq := range seqs {
		list = append(list, msg(seq, seq%8, topics[i%len(topics)], seq%10000))
	}
	return list
}

// toldUpTo tells right messages with the Seqs from 1 on.
func toldUpTo(last int64) []impl.Msg {
	var seqs []int64
	for seq := int64(1); seq <= last; seq++ {
		seqs = append(seqs, seq)
	}
	return told(seqs...)
}

// The words of chapter 5 once more, by the forms of the chapters ahead: what the program is held against.
func ringForm(r impl.Ring) bool {
	if r.Cap < 0 || r.Cap > 32 {
		return false
	}
	return len(r.Items) <= int(r.Cap) && msgsForm(r.Items)
}

func recordedForm(r impl.Ring, m impl.Msg) (impl.Ring, bool) {
	if !ringForm(r) {
		return impl.Ring{}, false
	}
	longer := append(slices.Clone(r.Items), m)
	if !msgsForm(longer) {
		return r, false
	}
	if len(longer) > int(r.Cap) {
		longer = longer[1:]
	}
	return ring(r.Cap, longer...), true
}

func latestForm(r impl.Ring, n int64, filter string) []impl.Msg {
	if !ringForm(r) || n < 0 || !filterForm.MatchString(filter) {
		return nil
	}
	form := matchForm(filter)
	var list []impl.Msg
	for i, m := range r.Items {
		isAmongLast := int64(len(r.Items)-i) <= n
		if isAmongLast && form.MatchString("/"+m.Topic) {
			list = append(list, m)
		}
	}
	return list
}

type ringAnswer struct {
	ring impl.Ring
	is   bool
}

func (a ringAnswer) same(b ringAnswer) bool { return a.is == b.is && sameRing(a.ring, b.ring) }

// checkRingCall makes a call twice at a Ring with spare room, writes all over the first answer in between, spare room too, and then makes it at one without: the argument stays, and so do the other answers.
func checkRingCall(t *testing.T, r impl.Ring, call func(r impl.Ring) ringAnswer) ringAnswer {
	t.Helper()
	given := ring(r.Cap, roomyMsgs(r.Items)...)
	before := wholeMsgs(given.Items)
	first := call(given)
	kept := ringAnswer{ring(first.ring.Cap, slices.Clone(first.ring.Items)...), first.is}
	answer := first.ring.Items[:cap(first.ring.Items)]
	for i := range answer {
		answer[i] = msg(-81, -82, "written", -83)
	}
	if !slices.Equal(wholeMsgs(given.Items), before) {
		t.Fatalf("the argument was written, or is shared: %v", before)
	}
	second := call(given)
	if !second.same(kept) {
		t.Fatalf("%v at first, then %v", kept, second)
	}
	if !slices.Equal(wholeMsgs(given.Items), before) {
		t.Fatalf("the argument was written: %v", before)
	}
	if third := call(ring(r.Cap, slices.Clip(slices.Clone(r.Items))...)); !third.same(kept) {
		t.Fatalf("%v with spare room, %v without", kept, third)
	}
	return second
}

func ringOk(t *testing.T, r impl.Ring) bool {
	t.Helper()
	return checkRingCall(t, r, func(r impl.Ring) ringAnswer { return ringAnswer{is: impl.RingOk(r)} }).is
}

func recorded(t *testing.T, r impl.Ring, m impl.Msg) (impl.Ring, bool) {
	t.Helper()
	a := checkRingCall(t, r, func(r impl.Ring) ringAnswer {
		next, is := impl.Recorded(r, m)
		return ringAnswer{next, is}
	})
	return a.ring, a.is
}

func latestOf(t *testing.T, r impl.Ring, n int64, filter string) []impl.Msg {
	t.Helper()
	a := checkRingCall(t, r, func(r impl.Ring) ringAnswer {
		return ringAnswer{ring: ring(0, impl.LatestOf(r, n, filter)...)}
	})
	return a.ring.Items
}

func checkRing(t *testing.T, want bool, most int64, items ...impl.Msg) {
	t.Helper()
	if got := ringOk(t, ring(most, items...)); got != want {
		t.Errorf("RingOk(%d, %v) = %v, not %v", most, items, got, want)
	}
}

func checkRecorded(t *testing.T, r impl.Ring, m impl.Msg, want impl.Ring, wantIs bool) {
	t.Helper()
	got, is := recorded(t, r, m)
	if is != wantIs || !sameRing(got, want) {
		t.Errorf("Recorded(%v, %v) = %v, %v, not %v, %v", r, m, got, is, want, wantIs)
	}
}

func checkLatest(t *testing.T, r impl.Ring, n int64, filter string, want ...impl.Msg) {
	t.Helper()
	if got := latestOf(t, r, n, filter); !slices.Equal(got, want) {
		t.Errorf("LatestOf(%v, %d, %q) = %v, not %v", r, n, filter, got, want)
	}
}

func rightRings() []impl.Ring {
	list := []impl.Ring{{}, ring(1), ring(32)}
	for _, most := range []int64{1, 2, 3, 31, 32} {
		list = append(list, ring(most, told(7)...), ring(most, toldUpTo(most-1)...), ring(most, toldUpTo(most)...))
	}
	return append(list, ring(2, told(1, 100000)...), ring(3, told(99999, 100000)...), ring(5, told(3, 50, 4711)...))
}

func wrongRings() []impl.Ring {
	var list []impl.Ring
	for _, most := range append(farNumbers(), 33, 34, 64, 100) {
		list = append(list, ring(most), ring(most, told(1)...), ring(most, toldUpTo(32)...), ring(most, toldUpTo(33)...))
	}
	for _, most := range []int64{0, 1, 2, 31, 32} {
		list = append(list, ring(most, toldUpTo(most+1)...), ring(most, toldUpTo(most+2)...))
	}
	for _, m := range wrongMsgs() {
		list = append(list, ring(1, m), ring(32, m), ring(3, told(1, 2)[0], m))
	}
	return append(list,
		ring(2, told(2, 1)...), ring(2, told(5, 5)...), ring(3, told(1, 3, 2)...), ring(3, told(1, 2, 2)...), ring(32, told(2, 1, 3)...),
		// All that may be wrong, together.
		ring(-1, told(2, 2)...), ring(33, append(toldUpTo(33), msg(34, 8, "+", -1))...), ring(1, told(2, 1)...),
	)
}

func TestRingLimit(t *testing.T) {
	if impl.MaxRing != 32 {
		t.Fatal(impl.MaxRing)
	}
}

func TestRingCapEdges(t *testing.T) {
	for _, c := range []struct {
		most       int64
		empty, one bool
	}{
		{math.MinInt64, false, false},
		{math.MinInt64 + 1, false, false},
		{-32, false, false},
		{-1, false, false},
		{0, true, false},
		{1, true, true},
		{2, true, true},
		{31, true, true},
		{32, true, true},
		{33, false, false},
		{34, false, false},
		{1 << 32, false, false},
		{1<<32 + 1, false, false},
		{math.MaxInt64 - 1, false, false},
		{math.MaxInt64, false, false},
	} {
		checkRing(t, c.empty, c.most)
		checkRing(t, c.one, c.most, msg(1, 0, "a", 0))
		checkRing(t, c.one, c.most, msg(100000, 7, "a/b", 9999))
	}
	for _, most := range farNumbers() {
		checkRing(t, false, most)
		checkRing(t, false, most, told(1, 2)...)
	}
}

func TestRingItemsUpToCap(t *testing.T) {
	for most := int64(0); most <= 40; most++ {
		for count := int64(0); count <= 40; count++ {
			checkRing(t, most <= 32 && count <= most, most, toldUpTo(count)...)
		}
	}
}

func TestRingOkTakesNilForEmpty(t *testing.T) {
	for _, items := range [][]impl.Msg{nil, {}, make([]impl.Msg, 0, 5), toldUpTo(3)[:0]} {
		for _, most := range []int64{0, 1, 32} {
			if !impl.RingOk(impl.Ring{Cap: most, Items: items}) {
				t.Errorf("not right with Cap %d and %#v", most, items)
			}
		}
		for _, most := range []int64{-1, 33} {
			if impl.RingOk(impl.Ring{Cap: most, Items: items}) {
				t.Errorf("right with Cap %d and %#v", most, items)
			}
		}
	}
}

func TestRingItemsAreMsgs(t *testing.T) {
	checkRing(t, true, 4, msg(1, 0, "a", 0), msg(2, 7, "a/b", 9999), msg(100000, 3, "a", 5))
	for _, m := range wrongMsgs() {
		checkRing(t, false, 4, m)
		checkRing(t, false, 4, msg(1, 0, "a", 0), m)
	}
	checkRing(t, false, 4, told(2, 1)...)
	checkRing(t, false, 4, told(1, 1)...)
	checkRing(t, false, 4, told(1, 3, 2)...)
	checkRing(t, false, 4, told(1, 2, 3, 3)...)
	checkRing(t, false, 4, told(2, 1, 3, 4)...)
	checkRing(t, false, 2, msg(1, 0, "a", 0), msg(2, 8, "a", 0))
	checkRing(t, false, 3, msg(1, 0, "a", 0), msg(2, 0, "a/+", 0), msg(3, 0, "a", 0))
}

func TestRingOkByForm(t *testing.T) {
	for _, r := range rightRings() {
		if !ringForm(r) || !ringOk(t, r) {
			t.Errorf("RingOk(%v) = %v", r, ringOk(t, r))
		}
	}
	for _, r := range wrongRings() {
		if ringForm(r) || ringOk(t, r) {
			t.Errorf("RingOk(%v) = %v", r, ringOk(t, r))
		}
	}
}

func TestRecordedWithRoom(t *testing.T) {
	m := msg(9, 3, "news", 42)
	checkRecorded(t, ring(1), m, ring(1, m), true)
	checkRecorded(t, ring(32), m, ring(32, m), true)
	list := told(1, 2, 8)
	checkRecorded(t, ring(2, list[0]), m, ring(2, list[0], m), true)
	checkRecorded(t, ring(4, list...), m, ring(4, list[0], list[1], list[2], m), true)
	checkRecorded(t, ring(32, list...), m, ring(32, list[0], list[1], list[2], m), true)
	all := toldUpTo(32)
	checkRecorded(t, ring(32, all[:31]...), all[31], ring(32, all...), true)
}

func TestRecordedInFullRing(t *testing.T) {
	m := msg(50, 3, "news", 42)
	list := told(1, 2, 8)
	checkRecorded(t, ring(1, list[0]), m, ring(1, m), true)
	checkRecorded(t, ring(2, list[0], list[1]), m, ring(2, list[1], m), true)
	checkRecorded(t, ring(3, list...), m, ring(3, list[1], list[2], m), true)
	all := toldUpTo(32)
	checkRecorded(t, ring(32, all...), m, ring(32, append(slices.Clone(all[1:]), m)...), true)
}

// A ring without any room has no last one, so that any right message goes, again and again.
func TestRecordedWithoutRoom(t *testing.T) {
	for _, seq := range []int64{1, 2, 2, 1, 100000, 99999, 1} {
		checkRecorded(t, ring(0), msg(seq, 0, "a", 0), ring(0), true)
	}
	for _, m := range wrongMsgs() {
		checkRecorded(t, ring(0), m, ring(0), false)
	}
}

func TestRecordedSeqs(t *testing.T) {
	for _, c := range []struct {
		last, seq int64
		is        bool
	}{
		{1, 1, false},
		{1, 2, true},
		{1, 100000, true},
		{2, 1, false},
		{50, 1, false},
		{50, 49, false},
		{50, 50, false},
		{50, 51, true},
		{50, 4711, true},
		{99999, 99998, false},
		{99999, 99999, false},
		{99999, 100000, true},
		{100000, 1, false},
		{100000, 99999, false},
		{100000, 100000, false},
		{100000, 100001, false},
		{100000, math.MaxInt64, false},
	} {
		last, m := msg(c.last, 3, "a/b", 5), msg(c.seq, 4, "c", 6)
		roomy, full := ring(2, last), ring(1, last)
		if !c.is {
			checkRecorded(t, roomy, m, roomy, false)
			checkRecorded(t, full, m, full, false)
			continue
		}
		checkRecorded(t, roomy, m, ring(2, last, m), true)
		checkRecorded(t, full, m, ring(1, m), true)
	}
}

// It is the last one's Seq that is asked, not that of any other, and nothing but its Seq.
func TestRecordedBehindTheLastOne(t *testing.T) {
	list := told(10, 20, 30)
	for _, most := range []int64{3, 4, 32} {
		r := ring(most, list...)
		for _, seq := range []int64{1, 9, 10, 11, 19, 20, 21, 29, 30} {
			checkRecorded(t, r, msg(seq, 0, "a", 0), r, false)
		}
		checkRecorded(t, r, list[2], r, false)
	}
	for _, m := range []impl.Msg{msg(31, 0, "a", 0), msg(31, list[2].From, list[2].Topic, list[2].Body), msg(31, 7, "z/z", 9999)} {
		checkRecorded(t, ring(3, list...), m, ring(3, list[1], list[2], m), true)
		checkRecorded(t, ring(4, list...), m, ring(4, list[0], list[1], list[2], m), true)
	}
}

func TestRecordedRefusesWrongMsgs(t *testing.T) {
	for _, r := range []impl.Ring{ring(0), ring(1), ring(32), ring(1, told(1)...), ring(4, told(1, 2)...), ring(2, told(1, 2)...), ring(32, toldUpTo(32)...)} {
		for _, m := range wrongMsgs() {
			checkRecorded(t, r, m, r, false)
		}
		// Wrong but for its Seq, which is more than the last one's.
		for _, m := range []impl.Msg{msg(90, 8, "a", 0), msg(90, -1, "a", 0), msg(90, 0, "+", 0), msg(90, 0, "", 0), msg(90, 0, "a", -1), msg(90, 0, "a", 10000)} {
			checkRecorded(t, r, m, r, false)
		}
	}
}

func TestNothingOfWrongRings(t *testing.T) {
	for _, r := range wrongRings() {
		for _, m := range []impl.Msg{msg(1, 0, "a", 0), msg(50, 7, "news", 9999), msg(100000, 0, "a", 0), {}, msg(50, 8, "a", 0), msg(50, 0, "#", 0), msg(100001, 0, "a", 0)} {
			checkRecorded(t, r, m, impl.Ring{}, false)
		}
		for _, n := range []int64{math.MinInt64, -1, 0, 1, 2, 33, math.MaxInt64} {
			for _, filter := range []string{"#", "a", "+/#", "", "A"} {
				checkLatest(t, r, n, filter)
			}
		}
	}
}

func TestLatestOfByCount(t *testing.T) {
	list := told(2, 3, 5, 7, 11)
	for _, most := range []int64{5, 6, 32} {
		r := ring(most, list...)
		checkLatest(t, r, 0, "#")
		checkLatest(t, r, 1, "#", list[4])
		checkLatest(t, r, 2, "#", list[3], list[4])
		checkLatest(t, r, 4, "#", list[1:]...)
		for _, n := range []int64{5, 6, 31, 32, 33, 100, 1 << 32, 1<<32 + 1, math.MaxInt64 - 1, math.MaxInt64} {
			checkLatest(t, r, n, "#", list...)
		}
		for _, n := range []int64{-1, -2, -5, -6, -32, -1 << 32, 1 - 1<<32, math.MinInt64, math.MinInt64 + 1, math.MinInt64 + 5} {
			checkLatest(t, r, n, "#")
		}
	}
	for _, most := range []int64{0, 1, 32} {
		for _, n := range []int64{math.MinInt64, -1, 0, 1, 2, 33, math.MaxInt64} {
			checkLatest(t, ring(most), n, "#")
		}
	}
}

func TestLatestOfByFilter(t *testing.T) {
	a, ab, b, ac, again := msg(1, 0, "a", 1), msg(2, 1, "a/b", 0), msg(4, 2, "b", 3), msg(8, 3, "a/c", 4), msg(16, 4, "a", 5)
	r := ring(8, a, ab, b, ac, again)
	checkLatest(t, r, 5, "#", a, ab, b, ac, again)
	checkLatest(t, r, 5, "+/#", a, ab, b, ac, again)
	checkLatest(t, r, 5, "a", a, again)
	checkLatest(t, r, 5, "+", a, b, again)
	checkLatest(t, r, 5, "a/+", ab, ac)
	checkLatest(t, r, 5, "a/#", a, ab, ac, again)
	checkLatest(t, r, 5, "b", b)
	checkLatest(t, r, 5, "+/c", ac)
	// None.
	checkLatest(t, r, 5, "c")
	checkLatest(t, r, 5, "a/b/c")
	checkLatest(t, r, 5, "+/+/#", ab, ac)
	checkLatest(t, r, 5, "+/+/+")
	// Those of the last ones that match, not the last ones of those that match.
	checkLatest(t, r, 1, "a", again)
	checkLatest(t, r, 2, "a", again)
	checkLatest(t, r, 4, "a", again)
	checkLatest(t, r, 1, "a/+")
	checkLatest(t, r, 2, "a/+", ac)
	checkLatest(t, r, 3, "a/+", ac)
	checkLatest(t, r, 4, "a/+", ab, ac)
	checkLatest(t, r, 2, "b")
	checkLatest(t, r, 3, "b", b)
	checkLatest(t, r, 0, "a")
	checkLatest(t, r, math.MaxInt64, "a", a, again)
}

func TestLatestOfNoFilter(t *testing.T) {
	r := ring(8, msg(1, 0, "a", 1), msg(2, 1, "a/b", 0), msg(4, 2, "abcdefghijkl", 3))
	for _, filter := range []string{"", "/", "A", "a#", "a+", "a/", "/a", "a//b", "#/a", "#/#", "a/#/b", "a b", "a\n", "\xff", "abcdefghijklm", "a/b/c/d/e/f/g", "a/b/c/d/e/f/#"} {
		for _, n := range []int64{-1, 0, 1, 3, math.MaxInt64} {
			checkLatest(t, r, n, filter)
		}
	}
}

// What is recorded stays until Cap others are behind it.
func TestRingsHaveTheLastOnes(t *testing.T) {
	all := toldUpTo(100)
	for most := int64(0); most <= 32; most++ {
		r := ring(most)
		for i, m := range all {
			var is bool
			if r, is = recorded(t, r, m); !is || !ringOk(t, r) {
				t.Fatalf("Cap %d: %v is not recorded: %v", most, m, r)
			}
			want := all[max(0, i+1-int(most)) : i+1]
			if !sameRing(r, ring(most, want...)) {
				t.Fatalf("promise 5: %v, not %v", r, want)
			}
			checkLatest(t, r, most, "#", want...)
			checkLatest(t, r, 1, "#", want[max(0, len(want)-1):]...)
		}
	}
}

// Right and wrong messages in any order, beside a plain list of all that was recorded.
func TestRingsByManySteps(t *testing.T) {
	r := rand.New(rand.NewSource(11))
	filters := append(filtersOf(3), "", "A", "b7", "abcdefghijkl", "a/b/c/#")
	done, refused, lost, found := 0, 0, 0, 0
	for range 300 {
		one := ring(int64(r.Intn(33)))
		if r.Intn(2) == 0 {
			one.Cap = int64(r.Intn(4))
		}
		var all []impl.Msg
		seq := int64(0)
		for range 60 {
			m := drawnMsg(r)
			m.Seq = seq + int64(r.Intn(5)) - 1
			if r.Intn(5) == 0 {
				m = spoiltMsg(r, m)
			}
			before := one
			fits := msgForm(m) && (len(one.Items) == 0 || m.Seq > seq)
			var is bool
			one, is = recorded(t, one, m)
			if is != fits || !is && !sameRing(one, before) {
				t.Fatalf("Recorded(%v, %v) = %v, %v", before, m, one, is)
			}
			if !is {
				refused++
				continue
			}
			done++
			seq = m.Seq
			all = append(all, m)
			if len(all) > int(one.Cap) {
				lost++
			}
			last := all[max(0, len(all)-int(one.Cap)):]
			if !sameRing(one, ring(before.Cap, last...)) || !impl.RingOk(one) {
				t.Fatalf("promise 5: %v, not %v", one, last)
			}
			n, filter := int64(r.Intn(40)-2), filters[r.Intn(len(filters))]
			want := latestForm(one, n, filter)
			checkLatest(t, one, n, filter, want...)
			found += len(want)
		}
	}
	if done < 3000 || refused < 3000 || lost < 1000 || found < 1000 {
		t.Fatalf("too few to tell: %d recorded, %d refused, %d lost, %d found", done, refused, lost, found)
	}
}

func drawnRing(r *rand.Rand) impl.Ring {
	one := ring(0, drawnMsgs(r, 6)...)
	one.Cap = int64(len(one.Items) + r.Intn(4) - 1)
	switch r.Intn(8) {
	case 0:
		one.Cap = int64(r.Intn(40) - 3)
	case 1:
		far := farNumbers()
		one.Cap = far[r.Intn(len(far))]
	}
	if n := len(one.Items); n > 0 && r.Intn(4) == 0 {
		i := r.Intn(n)
		one.Items[i] = spoiltMsg(r, one.Items[i])
	}
	return one
}

func TestManyRings(t *testing.T) {
	r := rand.New(rand.NewSource(12))
	filters := []string{"#", "a/#", "+", "a/+", "b7", "", "#/a", "A"}
	right, wrong, done := 0, 0, 0
	for range 30000 {
		one := drawnRing(r)
		want := ringForm(one)
		if got := ringOk(t, one); got != want {
			t.Fatalf("RingOk(%v) = %v, not %v", one, got, want)
		}
		if want {
			right++
		} else {
			wrong++
		}
		m := drawnMsg(r)
		if r.Intn(4) == 0 {
			m = spoiltMsg(r, m)
		}
		next, is := recordedForm(one, m)
		checkRecorded(t, one, m, next, is)
		if is {
			done++
		}
		n := int64(r.Intn(10) - 2)
		if r.Intn(4) == 0 {
			n = int64(r.Uint64())
		}
		filter := filters[r.Intn(len(filters))]
		checkLatest(t, one, n, filter, latestForm(one, n, filter)...)
	}
	if right < 5000 || wrong < 5000 || done < 1000 {
		t.Fatalf("too few to tell: %d right, %d wrong, %d recorded", right, wrong, done)
	}
}

func TestRingAnyValues(t *testing.T) {
	r := rand.New(rand.NewSource(13))
	for range 20000 {
		one := ring(int64(r.Uint64()) >> r.Intn(64))
		if r.Intn(2) == 0 {
			one.Cap = int64(r.Intn(5))
		}
		for range r.Intn(4) {
			one.Items = append(one.Items, msg(r.Int63n(100)-10, r.Int63n(12)-2, anyText(r), int64(r.Uint64())>>r.Intn(64)))
		}
		if got, want := ringOk(t, one), ringForm(one); got != want {
			t.Fatalf("RingOk(%v) = %v, not %v", one, got, want)
		}
		m := msg(r.Int63n(200)-20, r.Int63n(12)-2, anyText(r), r.Int63n(12000)-1000)
		next, is := recordedForm(one, m)
		checkRecorded(t, one, m, next, is)
		n, filter := int64(r.Uint64()), anyText(r)
		checkLatest(t, one, n, filter, latestForm(one, n, filter)...)
	}
	var all []impl.Msg
	for seq := int64(1); seq <= impl.MaxSeq; seq++ {
		all = append(all, msg(seq, 0, "a", 0))
	}
	for _, most := range []int64{32, impl.MaxSeq, math.MaxInt64} {
		checkRing(t, false, most, all...)
		checkRecorded(t, ring(most, all...), msg(100000, 0, "a", 0), impl.Ring{}, false)
		checkLatest(t, ring(most, all...), 5, "#")
	}
}
