package tests

import (
	"fmt"
	"math"
	"math/rand"
	"regexp"
	"slices"
	"strings"
	"testing"

	"loop.example/g00776/impl"
)

// box tells a right Box, if the messages are, into which nothing came but what is in its Queue.
func box(most, policy int64, queue ...impl.Msg) impl.Box {
	return impl.Box{Cap: most, Policy: policy, Queue: queue, Offered: int64(len(queue))}
}

// more tells the Box with this many more Received, Dropped and Merged, all of which were Offered.
func more(b impl.Box, received, dropped, merged int64) impl.Box {
	b.Received += received
	b.Dropped += dropped
	b.Merged += merged
	b.Offered += received + dropped + merged
	return b
}

func shut(b impl.Box) impl.Box {
	b.Shut = true
	return b
}

func policies() []int64 { return []int64{1, 2, 3, 4} }

func sameBox(a, b impl.Box) bool {
	sameRest := a.Cap == b.Cap && a.Policy == b.Policy && a.Offered == b.Offered && a.Received == b.Received && a.Dropped == b.Dropped && a.Merged == b.Merged && a.Shut == b.Shut
	return sameRest && slices.Equal(a.Queue, b.Queue)
}

// The numbers of a right Box, as Cap, Policy and the counts are written with a blank between: what the program's comparisons are held against.
var boxNumbersForm = regexp.MustCompile(`\A(?:[1-9]|1[0-6]) [1-4](?: (?:0|[1-9][0-9]{0,4}|100000)){4}\z`)

func boxForm(b impl.Box) bool {
	if !boxNumbersForm.MatchString(fmt.Sprint(b.Cap, b.Policy, b.Offered, b.Received, b.Dropped, b.Merged)) {
		return false
	}
	for _, m := range b.Queue {
		if !msgForm(m) {
			return false
		}
	}
	return len(b.Queue) <= int(b.Cap) && int(b.Offered-b.Received-b.Dropped-b.Merged) == len(b.Queue)
}

// The words of chapter 7 once more, code by code: what the program's policies are held against.
func offeredForm(b impl.Box, m impl.Msg) (impl.Box, int64) {
	if !boxForm(b) {
		return impl.Box{}, 6
	}
	if !msgForm(m) || b.Offered == 100000 {
		return b, 6
	}
	if b.Shut {
		return b, 1
	}
	hasRoom := len(b.Queue) < int(b.Cap)
	if b.Policy == 1 && !hasRoom {
		return b, 3
	}
	b.Offered++
	for i, one := range b.Queue {
		if b.Policy == 4 && one.Topic == m.Topic {
			b.Queue = with(b.Queue, i, m)
			b.Merged++
			return b, 2
		}
	}
	if hasRoom {
		b.Queue = append(slices.Clone(b.Queue), m)
		return b, 0
	}
	b.Dropped++
	if b.Policy == 3 {
		return b, 4
	}
	b.Queue = append(slices.Clone(b.Queue[1:]), m)
	return b, 5
}

type boxAnswer struct {
	box  impl.Box
	msg  impl.Msg
	code int64
}

func (a boxAnswer) same(b boxAnswer) bool {
	return a.code == b.code && a.msg == b.msg && sameBox(a.box, b.box)
}

// checkBoxCall makes a call twice at a Box with spare room behind its Queue, writes all over the first answer in between, spare room too, and then makes it at one without: the argument stays, and so do the other answers.
func checkBoxCall(t *testing.T, b impl.Box, call func(b impl.Box) boxAnswer) boxAnswer {
	t.Helper()
	given := b
	given.Queue = roomyMsgs(b.Queue)
	before := wholeMsgs(given.Queue)
	first := call(given)
	kept := first
	kept.box.Queue = slices.Clone(first.box.Queue)
	answer := first.box.Queue[:cap(first.box.Queue)]
	for i := range answer {
		answer[i] = msg(-81, -82, "written", -83)
	}
	if !slices.Equal(wholeMsgs(given.Queue), before) {
		t.Fatalf("the argument was written, or is shared: %v", before)
	}
	second := call(given)
	if !second.same(kept) {
		t.Fatalf("%v at first, then %v", kept, second)
	}
	if !slices.Equal(wholeMsgs(given.Queue), before) {
		t.Fatalf("the argument was written: %v", before)
	}
	bare := b
	bare.Queue = slices.Clip(slices.Clone(b.Queue))
	if third := call(bare); !third.same(kept) {
		t.Fatalf("%v with spare room, %v without", kept, third)
	}
	return second
}

func boxOk(t *testing.T, b impl.Box) bool {
	t.Helper()
	return checkBoxCall(t, b, func(b impl.Box) boxAnswer {
		if impl.BoxOk(b) {
			return boxAnswer{code: 1}
		}
		return boxAnswer{}
	}).code == 1
}

func offeredTo(t *testing.T, b impl.Box, m impl.Msg) (impl.Box, int64) {
	t.Helper()
	a := checkBoxCall(t, b, func(b impl.Box) boxAnswer {
		next, code := impl.OfferedTo(b, m)
		return boxAnswer{box: next, code: code}
	})
	return a.box, a.code
}

func checkBox(t *testing.T, want bool, b impl.Box) {
	t.Helper()
	if got := boxOk(t, b); got != want {
		t.Errorf("BoxOk(%v) = %v, not %v", b, got, want)
	}
}

// checkOffered asks as well that a Box which is no zero value is right: whatever is answered of a right one is.
func checkOffered(t *testing.T, b impl.Box, m impl.Msg, want impl.Box, wantCode int64) {
	t.Helper()
	got, code := offeredTo(t, b, m)
	if code != wantCode || !sameBox(got, want) {
		t.Errorf("OfferedTo(%v, %v) = %v, %d, not %v, %d", b, m, got, code, want, wantCode)
	}
	if !sameBox(want, impl.Box{}) && !impl.BoxOk(got) {
		t.Errorf("OfferedTo(%v, %v) = %v, which is not right", b, m, got)
	}
}

// fullBoxes tells Boxes of each Policy with as many messages as there is room for, none of topic "new".
func fullBoxes() []impl.Box {
	var list []impl.Box
	for _, policy := range policies() {
		for _, most := range []int64{1, 2, 3, 15, 16} {
			full := box(most, policy, toldUpTo(most)...)
			list = append(list, full, more(full, 7, 0, 0), more(full, 1, 20, 300))
		}
	}
	return list
}

// roomyBoxes tells Boxes of each Policy with room for one more at least, none with a message of topic "new".
func roomyBoxes() []impl.Box {
	var list []impl.Box
	for _, policy := range policies() {
		list = append(list, box(1, policy), box(16, policy), more(box(1, policy), 7, 0, 0), more(box(5, policy), 1, 20, 300))
		for _, most := range []int64{2, 3, 15, 16} {
			short := box(most, policy, toldUpTo(most-1)...)
			list = append(list, short, more(short, 7, 0, 0), more(short, 1, 20, 300), box(most, policy, told(9)...))
		}
	}
	return list
}

func rightBoxes() []impl.Box {
	list := append(fullBoxes(), roomyBoxes()...)
	for _, b := range slices.Clone(list) {
		list = append(list, shut(b))
	}
	return list
}

func wrongBoxes() []impl.Box {
	list := []impl.Box{
		{}, {Shut: true}, {Cap: 1}, {Policy: 1}, {Queue: told(1), Offered: 1},
		box(0, 0, told(1)...), box(17, 5, toldUpTo(17)...), box(17, 4, toldUpTo(17)...), box(0, 4),
	}
	for _, n := range append(farNumbers(), 0, 17, 5) {
		if n < 1 || n > 16 {
			list = append(list, box(n, 1), box(n, 4, told(1)...), shut(box(n, 2)))
		}
		list = append(list, box(1, n), box(16, n, told(1)...), shut(box(2, n)))
	}
	for _, policy := range policies() {
		for _, most := range []int64{1, 2, 15, 16} {
			list = append(list, box(most, policy, toldUpTo(most+1)...), box(most, policy, toldUpTo(most+2)...))
		}
		for _, m := range wrongMsgs() {
			list = append(list, box(1, policy, m), box(3, policy, told(1)[0], m), box(3, policy, m, told(1)[0]))
		}
		for _, n := range farNumbers() {
			list = append(list, withCounts(box(2, policy), n, 0, 0, 0), withCounts(box(2, policy), n, n, 0, 0), withCounts(box(2, policy), n, 0, n, 0), withCounts(box(2, policy), n, 0, 0, n))
		}
		right := more(box(3, policy, told(1, 2)...), 3, 4, 5)
		for _, by := range []int64{-1, 1} {
			list = append(list, withCounts(right, 14+by, 3, 4, 5), withCounts(right, 14, 3+by, 4, 5), withCounts(right, 14, 3, 4+by, 5), withCounts(right, 14, 3, 4, 5+by))
		}
	}
	return list
}

func withCounts(b impl.Box, offered, received, dropped, merged int64) impl.Box {
	b.Offered, b.Received, b.Dropped, b.Merged = offered, received, dropped, merged
	return b
}

func TestBoxNumbers(t *testing.T) {
	if impl.MaxCap != 16 || impl.PlWait != 1 || impl.PlOldest != 2 || impl.PlNewest != 3 || impl.PlMerge != 4 {
		t.Fatal(impl.MaxCap, impl.PlWait, impl.PlOldest, impl.PlNewest, impl.PlMerge)
	}
	codes := []int64{impl.BxIn, impl.BxShut, impl.BxMerged, impl.BxWait, impl.BxLost, impl.BxOld, impl.BxBad}
	if !slices.Equal(codes, []int64{0, 1, 2, 3, 4, 5, 6}) {
		t.Fatal(codes)
	}
}

func TestBoxCapEdges(t *testing.T) {
	for _, c := range []struct {
		most       int64
		empty, one bool
	}{
		{math.MinInt64, false, false}, {-1 << 32, false, false}, {-16, false, false}, {-1, false, false}, {0, false, false},
		{1, true, true}, {2, true, true}, {15, true, true}, {16, true, true},
		{17, false, false}, {18, false, false}, {1 << 32, false, false}, {1<<32 + 1, false, false}, {math.MaxInt64, false, false},
	} {
		for _, policy := range policies() {
			checkBox(t, c.empty, box(c.most, policy))
			checkBox(t, c.one, box(c.most, policy, told(5)...))
			checkBox(t, c.one, shut(more(box(c.most, policy, told(5)...), 3, 2, 1)))
		}
	}
}

func TestBoxPolicyEdges(t *testing.T) {
	for _, c := range []struct {
		policy int64
		is     bool
	}{
		{math.MinInt64, false}, {1 - 1<<32, false}, {-4, false}, {-1, false}, {0, false},
		{1, true}, {2, true}, {3, true}, {4, true},
		{5, false}, {6, false}, {1<<32 + 1, false}, {1<<40 + 4, false}, {math.MaxInt64, false},
	} {
		for _, most := range []int64{1, 2, 16} {
			checkBox(t, c.is, box(most, c.policy))
			checkBox(t, c.is, box(most, c.policy, told(5)...))
			checkBox(t, c.is, shut(more(box(most, c.policy, told(5)...), 3, 2, 1)))
		}
	}
}

// promise 7: no more than Cap.
func TestBoxQueueUpToCap(t *testing.T) {
	for most := int64(0); most <= 20; most++ {
		for count := int64(0); count <= 20; count++ {
			for _, policy := range policies() {
				fits := most >= 1 && most <= 16 && count <= most
				checkBox(t, fits, box(most, policy, toldUpTo(count)...))
				checkBox(t, fits, shut(more(box(most, policy, toldUpTo(count)...), 9, 9, 9)))
			}
		}
	}
}

func TestBoxTakesNilForEmpty(t *testing.T) {
	for _, queue := range [][]impl.Msg{nil, {}, make([]impl.Msg, 0, 5), toldUpTo(3)[:0]} {
		for _, policy := range policies() {
			b := impl.Box{Cap: 1, Policy: policy, Queue: queue}
			if !impl.BoxOk(b) {
				t.Errorf("not right with %#v", queue)
			}
			m := msg(1, 0, "a", 1)
			if got, code := impl.OfferedTo(b, m); code != 0 || !sameBox(got, box(1, policy, m)) {
				t.Errorf("OfferedTo(%#v, %v) = %v, %d", b, m, got, code)
			}
			if got, code := impl.OfferedTo(shut(b), m); code != 1 || !sameBox(got, shut(box(1, policy))) {
				t.Errorf("OfferedTo(%#v, %v) = %v, %d", shut(b), m, got, code)
			}
			b.Offered = 1
			if impl.BoxOk(b) {
				t.Errorf("right with %#v and one Offered", queue)
			}
		}
	}
}

func TestBoxQueuesAreMsgs(t *testing.T) {
	for _, policy := range policies() {
		for _, m := range wrongMsgs() {
			checkBox(t, false, box(1, policy, m))
			for i := range 3 {
				checkBox(t, false, box(3, policy, with(told(1, 2, 3), i, m)...))
			}
			checkBox(t, false, box(16, policy, with(toldUpTo(16), 15, m)...))
		}
		checkBox(t, true, box(2, policy, msg(1, 0, "a", 0), msg(100000, 7, "a/b/c/d/e/f", 9999)))
	}
}

// Neither Seqs nor Topics are asked to rise, nor to be there once.
func TestBoxQueuesInAnyOrder(t *testing.T) {
	for _, policy := range policies() {
		checkBox(t, true, box(3, policy, told(3, 2, 1)...))
		checkBox(t, true, box(4, policy, told(2, 9, 1, 7)...))
		checkBox(t, true, box(4, policy, told(5, 5, 5, 5)...))
		checkBox(t, true, box(3, policy, msg(1, 0, "c", 1), msg(2, 0, "b", 1), msg(3, 0, "a", 1)))
		checkBox(t, true, box(3, policy, msg(1, 0, "a", 1), msg(2, 1, "a", 0), msg(3, 2, "a", 5)))
		checkBox(t, true, box(4, policy, msg(9, 0, "a", 1), msg(9, 0, "a", 1), msg(9, 0, "a", 1), msg(9, 0, "a", 1)))
		checkBox(t, true, box(4, policy, msg(9, 0, "b", 1), msg(3, 0, "a", 1), msg(7, 0, "b", 1), msg(1, 0, "a", 1)))
	}
}

func TestBoxCountEdges(t *testing.T) {
	for _, c := range []struct {
		n  int64
		is bool
	}{
		{math.MinInt64, false}, {-100000, false}, {-1, false}, {0, true}, {1, true}, {2, true}, {99999, true}, {100000, true}, {100001, false}, {1 << 32, false}, {math.MaxInt64, false},
	} {
		for _, policy := range policies() {
			// Alone, so that what is Offered is just it.
			checkBox(t, c.is, withCounts(box(2, policy), c.n, c.n, 0, 0))
			checkBox(t, c.is, withCounts(box(2, policy), c.n, 0, c.n, 0))
			checkBox(t, c.is, withCounts(box(2, policy), c.n, 0, 0, c.n))
			checkBox(t, c.is, shut(withCounts(box(2, policy), c.n, c.n, 0, 0)))
		}
	}
	for _, policy := range policies() {
		// The Queue is counted as well: with two in it 99998 others can be Offered.
		two := box(2, policy, told(1, 2)...)
		checkBox(t, true, withCounts(two, 100000, 99998, 0, 0))
		checkBox(t, false, withCounts(two, 100001, 99999, 0, 0))
		checkBox(t, true, withCounts(two, 100000, 33333, 33333, 33332))
		checkBox(t, false, withCounts(two, 100001, 33333, 33333, 33333))
		// One below 0 is not made up for by another one.
		for _, n := range []int64{1, 2, 100000, 1 << 32} {
			checkBox(t, false, withCounts(two, 2, n, -n, 0))
			checkBox(t, false, withCounts(two, 2, n, 0, -n))
			checkBox(t, false, withCounts(two, 2, -n, n, 0))
			checkBox(t, false, withCounts(two, 2, -n, 0, n))
			checkBox(t, false, withCounts(two, 2, 0, n, -n))
			checkBox(t, false, withCounts(two, 2, 0, -n, n))
			checkBox(t, false, withCounts(two, 2-n, -n, 0, 0))
		}
		// Sums that come round to what is Offered.
		checkBox(t, false, withCounts(two, 0, math.MaxInt64, math.MaxInt64, 0))
		checkBox(t, false, withCounts(two, 2, math.MinInt64, math.MinInt64, 0))
		checkBox(t, false, withCounts(two, 2, 1<<62, 1<<62, math.MinInt64))
		checkBox(t, false, withCounts(two, 1, math.MaxInt64, math.MaxInt64, 1))
		checkBox(t, false, withCounts(two, math.MinInt64+1, math.MaxInt64, 0, 0))
	}
}

// promise 7: what was offered is received, queued, dropped or merged.
func TestBoxCountsAddUp(t *testing.T) {
	for _, policy := range policies() {
		for count := int64(0); count <= 3; count++ {
			b := box(3, policy, toldUpTo(count)...)
			for offered := int64(-1); offered <= 8; offered++ {
				for kinds := range int64(27) {
					received, dropped, merged := kinds/9, kinds/3%3, kinds%3
					want := offered == received+count+dropped+merged
					checkBox(t, want, withCounts(b, offered, received, dropped, merged))
					checkBox(t, want, shut(withCounts(b, offered, received, dropped, merged)))
				}
			}
		}
	}
}

func TestBoxOkByForm(t *testing.T) {
	for _, b := range rightBoxes() {
		if !boxForm(b) || !boxOk(t, b) {
			t.Errorf("BoxOk(%v) = %v", b, boxOk(t, b))
		}
	}
	for _, b := range wrongBoxes() {
		if boxForm(b) || boxOk(t, b) {
			t.Errorf("BoxOk(%v) = %v", b, boxOk(t, b))
		}
	}
}

func TestNewBoxes(t *testing.T) {
	for most := int64(-3); most <= 20; most++ {
		for policy := int64(-3); policy <= 8; policy++ {
			checkNewBox(t, most, policy, most >= 1 && most <= 16 && policy >= 1 && policy <= 4)
		}
	}
	for _, n := range farNumbers() {
		checkNewBox(t, n, n, false)
		for _, policy := range policies() {
			if n < 1 || n > 16 {
				checkNewBox(t, n, policy, false)
			}
		}
		for _, most := range []int64{1, 16} {
			checkNewBox(t, most, n, false)
		}
	}
}

func checkNewBox(t *testing.T, most, policy int64, want bool) {
	t.Helper()
	got, is := impl.NewBox(most, policy)
	wantBox := impl.Box{}
	if want {
		wantBox = box(most, policy)
	}
	if is != want || !sameBox(got, wantBox) || impl.BoxOk(got) != want {
		t.Errorf("NewBox(%d, %d) = %v, %v, not %v, %v", most, policy, got, is, wantBox, want)
	}
}

func TestNewBoxesAreNewMemory(t *testing.T) {
	one, _ := impl.NewBox(16, impl.PlWait)
	for i := range one.Queue[:cap(one.Queue)] {
		one.Queue[:cap(one.Queue)][i] = msg(1, 0, "written", 1)
	}
	one.Offered, one.Shut = 5, true
	checkNewBox(t, 16, impl.PlWait, true)
}

func TestOfferedWithRoom(t *testing.T) {
	for _, b := range roomyBoxes() {
		for _, m := range []impl.Msg{msg(1, 0, "new", 0), msg(50, 3, "new", 42), msg(100000, 7, "new", 9999)} {
			want := b
			want.Queue = append(slices.Clone(b.Queue), m)
			want.Offered++
			checkOffered(t, b, m, want, impl.BxIn)
		}
	}
	// One of a Topic that is there is but one more where nothing is merged.
	there := told(4, 3)
	for _, policy := range []int64{impl.PlWait, impl.PlOldest, impl.PlNewest} {
		for _, m := range append(there, msg(9, 5, there[0].Topic, 1), msg(1, 0, there[1].Topic, 0)) {
			checkOffered(t, box(3, policy, there...), m, box(3, policy, there[0], there[1], m), impl.BxIn)
		}
	}
}

func TestOfferedToFullBoxes(t *testing.T) {
	for _, b := range fullBoxes() {
		for _, m := range []impl.Msg{msg(1, 0, "new", 0), msg(50, 3, "new", 42), msg(100000, 7, "new", 9999)} {
			lost := b
			lost.Offered++
			lost.Dropped++
			old := lost
			old.Queue = append(slices.Clone(b.Queue[1:]), m)
			switch b.Policy {
			case impl.PlWait:
				checkOffered(t, b, m, b, impl.BxWait)
			case impl.PlNewest:
				checkOffered(t, b, m, lost, impl.BxLost)
			default:
				checkOffered(t, b, m, old, impl.BxOld)
			}
		}
	}
	// A Topic that is there changes nothing where nothing is merged.
	there := told(4, 3)
	for _, m := range append(there, msg(9, 5, there[0].Topic, 1), msg(1, 0, there[1].Topic, 0)) {
		checkOffered(t, box(2, impl.PlWait, there...), m, box(2, impl.PlWait, there...), impl.BxWait)
		checkOffered(t, box(2, impl.PlNewest, there...), m, more(box(2, impl.PlNewest, there...), 0, 1, 0), impl.BxLost)
		checkOffered(t, box(2, impl.PlOldest, there...), m, more(box(2, impl.PlOldest, there[1], m), 0, 1, 0), impl.BxOld)
	}
}

// The first one is who came first, whatever its Seq is.
func TestOldestIsTheFirstOne(t *testing.T) {
	list, m := told(9, 2, 5), msg(4, 0, "new", 1)
	for _, policy := range []int64{impl.PlOldest, impl.PlMerge} {
		checkOffered(t, box(3, policy, list...), m, more(box(3, policy, list[1], list[2], m), 0, 1, 0), impl.BxOld)
	}
	checkOffered(t, box(1, impl.PlOldest, list[0]), m, more(box(1, impl.PlOldest, m), 0, 1, 0), impl.BxOld)
}

func TestOfferedMerges(t *testing.T) {
	a, ab, b := msg(5, 1, "a", 1), msg(6, 2, "a/b", 2), msg(7, 3, "b", 3)
	for _, most := range []int64{3, 4, 16} {
		// Full with a Cap of 3, and with room.
		start := more(box(most, impl.PlMerge, a, ab, b), 4, 5, 6)
		for i, one := range start.Queue {
			for _, m := range []impl.Msg{msg(9, 0, one.Topic, 9), msg(1, 7, one.Topic, 0), msg(100000, 4, one.Topic, 9999), one} {
				want := more(start, 0, 0, 1)
				want.Queue = with(start.Queue, i, m)
				checkOffered(t, start, m, want, impl.BxMerged)
			}
		}
	}
	m := msg(9, 0, "a", 9)
	checkOffered(t, box(1, impl.PlMerge, a), m, more(box(1, impl.PlMerge, m), 0, 0, 1), impl.BxMerged)
	// Just its Topic: neither what is below it, above it, begins like it nor matches it.
	start := box(4, impl.PlMerge, a, ab, b)
	for _, topic := range []string{"a/b/c", "a/a", "ab", "aa", "a0", "b/a", "0", "c"} {
		m := msg(9, 0, topic, 9)
		checkOffered(t, start, m, box(4, impl.PlMerge, a, ab, b, m), impl.BxIn)
		full := box(3, impl.PlMerge, a, ab, b)
		checkOffered(t, full, m, more(box(3, impl.PlMerge, ab, b, m), 0, 1, 0), impl.BxOld)
	}
	// Who told it, and its Body and Seq, make no difference.
	like := msg(a.Seq, a.From, "c", a.Body)
	checkOffered(t, start, like, box(4, impl.PlMerge, a, ab, b, like), impl.BxIn)
}

func TestOfferedMergesWithTheFirstOne(t *testing.T) {
	b, a1, a2, a3 := msg(5, 0, "b", 1), msg(9, 0, "a", 1), msg(2, 0, "a", 2), msg(7, 0, "a", 3)
	m := msg(8, 1, "a", 9)
	for _, most := range []int64{4, 5, 16} {
		checkOffered(t, box(most, impl.PlMerge, b, a1, a2, a3), m, more(box(most, impl.PlMerge, b, m, a2, a3), 0, 0, 1), impl.BxMerged)
		checkOffered(t, box(most, impl.PlMerge, a3, b, a2, a1), m, more(box(most, impl.PlMerge, m, b, a2, a1), 0, 0, 1), impl.BxMerged)
		checkOffered(t, box(most, impl.PlMerge, b, a1, a1, b), m, more(box(most, impl.PlMerge, b, m, a1, b), 0, 0, 1), impl.BxMerged)
		checkOffered(t, box(most, impl.PlMerge, m, m, m, m), m, more(box(most, impl.PlMerge, m, m, m, m), 0, 0, 1), impl.BxMerged)
	}
}

func TestOfferedToShutBoxes(t *testing.T) {
	for _, b := range append(roomyBoxes(), fullBoxes()...) {
		b = shut(b)
		list := []impl.Msg{msg(1, 0, "new", 0), msg(100000, 7, "new", 9999)}
		for _, one := range b.Queue {
			// It would be merged under PlMerge.
			list = append(list, msg(50, 0, one.Topic, 1))
		}
		for _, m := range list {
			checkOffered(t, b, m, b, impl.BxShut)
		}
	}
}

func TestOfferedRefusesWrongMsgs(t *testing.T) {
	// Boxes that are Shut, full ones and ones with room.
	for _, b := range rightBoxes() {
		for _, m := range []impl.Msg{
			{}, msg(0, 0, "a", 0), msg(100001, 0, "a", 0), msg(1, -1, "a", 0), msg(1, 8, "a", 0), msg(1, 0, "a", -1), msg(1, 0, "a", 10000), msg(1, 0, "", 0), msg(1, 0, "#", 0), msg(1, 0, "a/+", 0),
		} {
			checkOffered(t, b, m, b, impl.BxBad)
		}
		// Wrong but for its Topic, which is there.
		for _, one := range b.Queue {
			checkOffered(t, b, msg(0, 0, one.Topic, 1), b, impl.BxBad)
			checkOffered(t, b, msg(5, 8, one.Topic, 1), b, impl.BxBad)
		}
	}
	for _, m := range wrongMsgs() {
		for _, policy := range policies() {
			for _, b := range []impl.Box{box(1, policy), box(1, policy, told(1)...), box(3, policy, told(2, 1)...)} {
				checkOffered(t, b, m, b, impl.BxBad)
				checkOffered(t, shut(b), m, shut(b), impl.BxBad)
			}
		}
	}
}

func TestOfferedUpToMaxSeq(t *testing.T) {
	fresh, again := msg(50, 3, "new", 42), msg(50, 3, told(1)[0].Topic, 42)
	for _, b := range append(roomyBoxes(), fullBoxes()...) {
		left := 100000 - b.Offered
		for _, all := range []impl.Box{more(b, left, 0, 0), more(b, 0, left, 0), more(b, 0, 0, left), more(b, 1, 2, left-3)} {
			for _, m := range []impl.Msg{fresh, again, {}, msg(50, 8, "new", 42)} {
				// Full, with room, to be merged: nothing more is Offered, be it Shut or not.
				checkOffered(t, all, m, all, impl.BxBad)
				checkOffered(t, shut(all), m, shut(all), impl.BxBad)
			}
		}
		// One short of it one more can be.
		for _, short := range []impl.Box{more(b, left-1, 0, 0), more(b, 0, left-1, 0), more(b, 0, 0, left-1)} {
			for _, m := range []impl.Msg{fresh, again} {
				want, code := offeredForm(short, m)
				checkOffered(t, short, m, want, code)
				if code != 3 && want.Offered != 100000 {
					t.Fatalf("%v, %d of %v", want, code, short)
				}
			}
		}
	}
}

func TestNothingOfWrongBoxes(t *testing.T) {
	for _, b := range wrongBoxes() {
		list := []impl.Msg{msg(1, 0, "new", 0), msg(100000, 7, "new", 9999), {}, msg(50, 8, "new", 1), msg(0, 0, "a", 1), msg(50, 0, "#", 1)}
		for _, one := range b.Queue {
			list = append(list, msg(50, 0, one.Topic, 1))
		}
		for _, m := range list {
			checkOffered(t, b, m, impl.Box{}, impl.BxBad)
			checkOffered(t, shut(b), m, impl.Box{}, impl.BxBad)
		}
	}
}

// A boxStory is a plain list of what became of each message that was Offered.
type boxStory struct {
	queue                     []impl.Msg
	received, dropped, merged int64
}

func (s *boxStory) goesOn(code int64, m impl.Msg) {
	switch code {
	case 0:
		s.queue = append(s.queue, m)
	case 2:
		i := slices.IndexFunc(s.queue, func(one impl.Msg) bool { return one.Topic == m.Topic })
		s.queue = with(s.queue, i, m)
		s.merged++
	case 4:
		s.dropped++
	case 5:
		s.queue = append(s.queue[1:], m)
		s.dropped++
	}
}

func (s *boxStory) box(b impl.Box) impl.Box {
	own := more(box(b.Cap, b.Policy, s.queue...), s.received, s.dropped, s.merged)
	own.Shut = b.Shut
	return own
}

// codeFor tells what a right Box, neither Shut nor at MaxSeq, answers a message, right or not.
func codeFor(b impl.Box, m impl.Msg) int64 {
	there := slices.ContainsFunc(b.Queue, func(one impl.Msg) bool { return one.Topic == m.Topic })
	full := len(b.Queue) == int(b.Cap)
	switch {
	case !msgForm(m):
		return impl.BxBad
	case b.Policy == impl.PlMerge && there:
		return impl.BxMerged
	case !full:
		return impl.BxIn
	}
	return []int64{impl.BxWait, impl.BxOld, impl.BxLost, impl.BxOld}[b.Policy-1]
}

// promise 7, by many messages in any order, beside a plain list: each code is told often, and one that waits drops nothing.
func TestBoxesByManySteps(t *testing.T) {
	r := rand.New(rand.NewSource(17))
	topics := append(topicsOf(2), "abcdefghijkl", "a0", "ab")
	seen := map[int64]map[int64]int{}
	for range 600 {
		b, is := impl.NewBox(1+r.Int63n(16), 1+r.Int63n(4))
		if !is {
			t.Fatal(b)
		}
		if seen[b.Policy] == nil {
			seen[b.Policy] = map[int64]int{}
		}
		if r.Intn(2) == 0 {
			b.Cap = 1 + r.Int63n(3)
		}
		known := topics[:1+r.Intn(len(topics))]
		var s boxStory
		for range 60 {
			m := msg(1+r.Int63n(50), r.Int63n(8), known[r.Intn(len(known))], r.Int63n(10))
			if r.Intn(10) == 0 {
				m = spoiltMsg(r, m)
			}
			next, code := offeredTo(t, b, m)
			if want := codeFor(b, m); code != want {
				t.Fatalf("OfferedTo(%v, %v) = %v, %d, not %d", b, m, next, code, want)
			}
			s.goesOn(code, m)
			if !sameBox(next, s.box(b)) || !boxOk(t, next) {
				t.Fatalf("promise 7: OfferedTo(%v, %v) = %v, %d, not %v", b, m, next, code, s.box(b))
			}
			seen[b.Policy][code]++
			b = next
			// Somebody hears the first one.
			if len(b.Queue) > 0 && r.Intn(4) == 0 {
				s.queue, s.received = s.queue[1:], s.received+1
				b = s.box(b)
			}
		}
		if b.Policy == impl.PlWait && b.Dropped+b.Merged > 0 {
			t.Fatalf("promise 7: %v has dropped one", b)
		}
	}
	for policy, codes := range map[int64][]int64{1: {0, 3, 6}, 2: {0, 5, 6}, 3: {0, 4, 6}, 4: {0, 2, 5, 6}} {
		for _, code := range codes {
			if seen[policy][code] < 100 {
				t.Fatalf("too few to tell: %v", seen)
			}
		}
		if len(seen[policy]) != len(codes) {
			t.Fatalf("codes of another Policy: %v", seen)
		}
	}
}

// drawnBox tells a Box, or one of which something was changed.
func drawnBox(r *rand.Rand) impl.Box {
	var queue []impl.Msg
	for range r.Intn(6) {
		queue = append(queue, drawnMsg(r))
	}
	b := box(min(16, int64(len(queue)+r.Intn(3))), 1+r.Int63n(4), queue...)
	b.Cap = max(b.Cap, 1)
	b = more(b, r.Int63n(5), r.Int63n(5), r.Int63n(5))
	switch r.Intn(8) {
	case 0:
		b = more(b, 100000-b.Offered, 0, 0)
	case 1:
		b = more(b, 0, 0, 99999-b.Offered)
	}
	b.Shut = r.Intn(5) == 0
	if r.Intn(3) == 0 {
		return spoiltBox(r, b)
	}
	return b
}

func spoiltBox(r *rand.Rand, b impl.Box) impl.Box {
	far := farNumbers()
	n := far[r.Intn(len(far))]
	if r.Intn(2) == 0 {
		n = r.Int63n(20) - 2
	}
	switch r.Intn(8) {
	case 0:
		b.Cap = n
	case 1:
		b.Policy = n
	case 2:
		b.Offered = n
	case 3:
		b.Received = n
	case 4:
		b.Dropped = n
	case 5:
		b.Merged = n
	case 6:
		b.Offered, b.Received = b.Offered+n, b.Received+n
	case 7:
		if len(b.Queue) > 0 {
			i := r.Intn(len(b.Queue))
			b.Queue[i] = spoiltMsg(r, b.Queue[i])
		}
	}
	return b
}

func TestManyBoxes(t *testing.T) {
	r := rand.New(rand.NewSource(18))
	right, wrong := 0, 0
	seen := map[int64]int{}
	for range 60000 {
		b := drawnBox(r)
		want := boxForm(b)
		checkBox(t, want, b)
		if want {
			right++
		} else {
			wrong++
		}
		m := drawnMsg(r)
		if r.Intn(8) == 0 {
			m = spoiltMsg(r, m)
		}
		next, code := offeredForm(b, m)
		checkOffered(t, b, m, next, code)
		if want {
			seen[code]++
		}
	}
	if right < 20000 || wrong < 5000 {
		t.Fatalf("too few to tell: %d right, %d wrong", right, wrong)
	}
	for code := range int64(7) {
		if seen[code] < 500 {
			t.Fatalf("too few to tell: %v", seen)
		}
	}
}

func anyNumber(r *rand.Rand) int64 {
	if r.Intn(2) == 0 {
		return r.Int63n(6)
	}
	return int64(r.Uint64()) >> r.Intn(64)
}

func anyMsg(r *rand.Rand) impl.Msg {
	return msg(anyNumber(r), anyNumber(r), anyText(r), anyNumber(r))
}

func anyBox(r *rand.Rand) impl.Box {
	b := impl.Box{Cap: anyNumber(r), Policy: anyNumber(r), Shut: r.Intn(2) == 0}
	for range r.Intn(4) {
		b.Queue = append(b.Queue, anyMsg(r))
	}
	return withCounts(b, anyNumber(r), anyNumber(r), anyNumber(r), anyNumber(r))
}

func TestBoxAnyValues(t *testing.T) {
	r := rand.New(rand.NewSource(19))
	for range 20000 {
		b := anyBox(r)
		checkBox(t, boxForm(b), b)
		m := anyMsg(r)
		next, code := offeredForm(b, m)
		checkOffered(t, b, m, next, code)
		most, policy := anyNumber(r), anyNumber(r)
		checkNewBox(t, most, policy, boxForm(box(most, policy)))
	}
	long := strings.Repeat("a/", 1<<20) + "a"
	checkBox(t, false, box(1, impl.PlMerge, msg(1, 0, long, 1)))
	checkOffered(t, box(2, impl.PlMerge, told(1)...), msg(1, 0, long, 1), box(2, impl.PlMerge, told(1)...), impl.BxBad)
	all := toldUpTo(100000)
	for _, most := range []int64{16, 100000, math.MaxInt64} {
		checkBox(t, false, box(most, impl.PlOldest, all...))
		checkOffered(t, box(most, impl.PlOldest, all...), msg(1, 0, "a", 1), impl.Box{}, impl.BxBad)
	}
}
