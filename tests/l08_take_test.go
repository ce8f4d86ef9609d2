package tests

import (
	"math"
	"math/rand"
	"slices"
	"strings"
	"testing"

	"loop.example/g00776/impl"
)

// The words of chapter 8 once more: what the program's method value is held against.
func takenForm(b impl.Box) (impl.Box, impl.Msg, bool) {
	if !boxForm(b) {
		return impl.Box{}, impl.Msg{}, false
	}
	for i, m := range b.Queue {
		b.Queue = slices.Clone(b.Queue[i+1:])
		b.Received++
		return b, m, true
	}
	return b, impl.Msg{}, false
}

func shutForm(b impl.Box) impl.Box {
	if !boxForm(b) {
		return impl.Box{}
	}
	return shut(b)
}

func endForm(b impl.Box) bool { return boxForm(b) && b.Shut && len(b.Queue) == 0 }

// codeOf tells a flag as the code of a boxAnswer.
func codeOf(is bool) int64 {
	if is {
		return 1
	}
	return 0
}

func takenFrom(t *testing.T, b impl.Box) (impl.Box, impl.Msg, bool) {
	t.Helper()
	a := checkBoxCall(t, b, func(b impl.Box) boxAnswer {
		next, m, is := impl.TakenFrom(b)
		return boxAnswer{next, m, codeOf(is)}
	})
	return a.box, a.msg, a.code == 1
}

func shutOf(t *testing.T, b impl.Box) impl.Box {
	t.Helper()
	return checkBoxCall(t, b, func(b impl.Box) boxAnswer { return boxAnswer{box: impl.ShutOf(b)} }).box
}

func endOf(t *testing.T, b impl.Box) bool {
	t.Helper()
	return checkBoxCall(t, b, func(b impl.Box) boxAnswer { return boxAnswer{code: codeOf(impl.EndOf(b))} }).code == 1
}

// checkTaken asks as well that what is answered is right just where the Box was.
func checkTaken(t *testing.T, b, want impl.Box, wantMsg impl.Msg, wantIs bool) {
	t.Helper()
	got, m, is := takenFrom(t, b)
	if is != wantIs || m != wantMsg || !sameBox(got, want) {
		t.Errorf("TakenFrom(%v) = %v, %v, %v, not %v, %v, %v", b, got, m, is, want, wantMsg, wantIs)
	}
	if impl.BoxOk(got) != boxForm(b) {
		t.Errorf("TakenFrom(%v) = %v: BoxOk tells %v", b, got, impl.BoxOk(got))
	}
}

func checkShut(t *testing.T, b, want impl.Box) {
	t.Helper()
	got := shutOf(t, b)
	if !sameBox(got, want) {
		t.Errorf("ShutOf(%v) = %v, not %v", b, got, want)
	}
	if impl.BoxOk(got) != boxForm(b) {
		t.Errorf("ShutOf(%v) = %v: BoxOk tells %v", b, got, impl.BoxOk(got))
	}
}

func checkEnd(t *testing.T, want bool, b impl.Box) {
	t.Helper()
	if got := endOf(t, b); got != want {
		t.Errorf("EndOf(%v) = %v, not %v", b, got, want)
	}
}

func checkTakingByForm(t *testing.T, b impl.Box) {
	t.Helper()
	next, m, is := takenForm(b)
	checkTaken(t, b, next, m, is)
	checkShut(t, b, shutForm(b))
	checkEnd(t, endForm(b), b)
}

// spoiltAlone tells Boxes that would be right but for one thing, with a Queue and without one: what each count that is out of range adds to is made up for by another one, where it can be.
func spoiltAlone() []impl.Box {
	var list []impl.Box
	for _, policy := range policies() {
		for _, queue := range [][]impl.Msg{nil, {}, told(5), told(9, 2)} {
			n := int64(len(queue))
			b := box(2, policy, queue...)
			list = append(list, box(0, policy, queue...), box(17, policy, queue...), box(-2, policy, queue...), box(2, 0, queue...), box(2, 5, queue...), box(2, -policy, queue...))
			list = append(list,
				withCounts(b, n, -1, 1, 0), withCounts(b, n, 1, -1, 0), withCounts(b, n, 1, 0, -1), withCounts(b, -1, -1-n, 0, 0),
				withCounts(b, 100001, 100001-n, 0, 0), withCounts(b, 100001, 0, 100001-n, 0), withCounts(b, 100001, 0, 0, 100001-n), withCounts(b, 100001, 50000, 50000, 1-n),
				withCounts(b, n, 100001, -100001, 0), withCounts(b, n, 0, 100001, -100001), withCounts(b, n, math.MinInt64, math.MinInt64, 0),
			)
			for _, by := range []int64{-1, 1} {
				list = append(list, withCounts(b, n+5+by, 3, 1, 1), withCounts(b, n+5, 3+by, 1, 1), withCounts(b, n+5, 3, 1+by, 1), withCounts(b, n+5, 3, 1, 1+by))
			}
			list = append(list, withCounts(b, n+1, 0, 0, 0), withCounts(b, n, 1, 0, 0), withCounts(b, n, 0, 1, 0), withCounts(b, n, 0, 0, 1))
		}
		list = append(list, box(1, policy, told(9, 2)...), withCounts(box(2, policy, told(5)...), 0, 0, 0, 0))
		for _, m := range wrongMsgs() {
			list = append(list, box(2, policy, m), box(2, policy, m, told(5)[0]), box(2, policy, told(5)[0], m))
		}
	}
	return list
}

func TestTakenByHowMany(t *testing.T) {
	for _, policy := range policies() {
		for _, most := range []int64{1, 2, 3, 15, 16} {
			for count := int64(0); count <= most; count++ {
				queue := toldUpTo(count)
				for _, b := range []impl.Box{box(most, policy, queue...), more(box(most, policy, queue...), 7, 8, 9)} {
					want, m := b, impl.Msg{}
					if count > 0 {
						m = queue[0]
						want.Queue = queue[1:]
						want.Received++
					}
					checkTaken(t, b, want, m, count > 0)
					// What is Shut is emptied just so.
					checkTaken(t, shut(b), shut(want), m, count > 0)
				}
			}
		}
	}
}

func TestTakenInWords(t *testing.T) {
	first, second := msg(3, 1, "news", 5), msg(7, 2, "news/sport", 0)
	for _, policy := range policies() {
		two := impl.Box{Cap: 2, Policy: policy, Queue: []impl.Msg{first, second}, Offered: 9, Received: 1, Dropped: 4, Merged: 2}
		one := impl.Box{Cap: 2, Policy: policy, Queue: []impl.Msg{second}, Offered: 9, Received: 2, Dropped: 4, Merged: 2}
		none := impl.Box{Cap: 2, Policy: policy, Offered: 9, Received: 3, Dropped: 4, Merged: 2}
		checkTaken(t, two, one, first, true)
		checkTaken(t, one, none, second, true)
		checkTaken(t, none, none, impl.Msg{}, false)
		checkTaken(t, shut(two), shut(one), first, true)
		checkTaken(t, shut(one), shut(none), second, true)
		checkTaken(t, shut(none), shut(none), impl.Msg{}, false)
	}
}

func TestTakingTakesNilForEmpty(t *testing.T) {
	for _, queue := range [][]impl.Msg{nil, {}, make([]impl.Msg, 0, 5), toldUpTo(3)[:0]} {
		for _, policy := range policies() {
			open := impl.Box{Cap: 1, Policy: policy, Queue: queue, Offered: 6, Received: 1, Dropped: 2, Merged: 3}
			closed := shut(open)
			for _, b := range []impl.Box{open, closed} {
				if got, m, is := impl.TakenFrom(b); is || m != (impl.Msg{}) || !sameBox(got, b) {
					t.Errorf("TakenFrom(%#v) = %v, %v, %v", b, got, m, is)
				}
				if got := impl.ShutOf(b); !sameBox(got, closed) {
					t.Errorf("ShutOf(%#v) = %v", b, got)
				}
				if got := impl.EndOf(b); got != b.Shut {
					t.Errorf("EndOf(%#v) = %v", b, got)
				}
			}
		}
	}
}

// promise 8: what is taken is the first one, whatever its Seq, who told it, its Topic and Body are.
func TestTakenIsTheFirstOne(t *testing.T) {
	a, b, c := msg(9, 7, "z/a", 0), msg(1, 0, "a", 9999), msg(100000, 3, "m/m/m/m/m/m", 42)
	for _, queue := range [][]impl.Msg{
		{a, b, c}, {a, c, b}, {b, a, c}, {b, c, a}, {c, a, b}, {c, b, a}, {a, a, a}, {b, b, a}, {c, b, c},
		{msg(5, 0, "a", 1), msg(4, 0, "a", 2), msg(6, 0, "a", 3)}, {msg(5, 0, "a", 1), msg(5, 1, "a", 1), msg(5, 2, "a", 1)},
	} {
		for _, policy := range policies() {
			for _, most := range []int64{3, 4, 16} {
				for _, start := range []impl.Box{box(most, policy, queue...), more(box(most, policy, queue...), 1, 2, 3)} {
					want := start
					want.Queue = queue[1:]
					want.Received++
					checkTaken(t, start, want, queue[0], true)
					checkTaken(t, shut(start), shut(want), queue[0], true)
				}
			}
		}
	}
}

func TestTakenUpToMaxSeq(t *testing.T) {
	for _, policy := range policies() {
		for count := int64(0); count <= 2; count++ {
			b := box(2, policy, toldUpTo(count)...)
			left := 100000 - count
			for _, all := range []impl.Box{b, more(b, left, 0, 0), more(b, 0, left, 0), more(b, 0, 0, left), more(b, left-1, 0, 0), more(b, left-3, 1, 2), more(b, 1, left-3, 2)} {
				checkTakingByForm(t, all)
				checkTakingByForm(t, shut(all))
			}
		}
		// The last one that can be Received.
		last := withCounts(box(1, policy, told(8)...), 100000, 99999, 0, 0)
		all := withCounts(box(1, policy), 100000, 100000, 0, 0)
		checkTaken(t, last, all, told(8)[0], true)
		checkTaken(t, all, all, impl.Msg{}, false)
		checkEnd(t, true, shut(all))
		checkEnd(t, false, shut(last))
	}
}

func TestNothingTakenOfWrongBoxes(t *testing.T) {
	for _, b := range append(wrongBoxes(), spoiltAlone()...) {
		if boxForm(b) {
			t.Fatalf("%v is right", b)
		}
		checkTaken(t, b, impl.Box{}, impl.Msg{}, false)
		checkTaken(t, shut(b), impl.Box{}, impl.Msg{}, false)
	}
}

func TestShut(t *testing.T) {
	for _, b := range append(roomyBoxes(), fullBoxes()...) {
		checkShut(t, b, shut(b))
		// What is Shut already stays as it is.
		checkShut(t, shut(b), shut(b))
		if b.Shut {
			t.Fatalf("%v is Shut by itself", b)
		}
	}
	list := told(9, 2)
	for _, policy := range policies() {
		for _, is := range []bool{false, true} {
			checkShut(t, impl.Box{Cap: 3, Policy: policy, Queue: list, Offered: 20, Received: 5, Dropped: 6, Merged: 7, Shut: is},
				impl.Box{Cap: 3, Policy: policy, Queue: list, Offered: 20, Received: 5, Dropped: 6, Merged: 7, Shut: true})
			checkShut(t, impl.Box{Cap: 3, Policy: policy, Offered: 18, Received: 5, Dropped: 6, Merged: 7, Shut: is},
				impl.Box{Cap: 3, Policy: policy, Offered: 18, Received: 5, Dropped: 6, Merged: 7, Shut: true})
		}
	}
}

func TestWrongBoxesAreNotShut(t *testing.T) {
	for _, b := range append(wrongBoxes(), spoiltAlone()...) {
		checkShut(t, b, impl.Box{})
		checkShut(t, shut(b), impl.Box{})
	}
}

// Each of right, Shut and an empty Queue, being so or not: the end is where all three are.
func TestEndOf(t *testing.T) {
	for _, policy := range policies() {
		for _, queue := range [][]impl.Msg{nil, {}, told(4), told(4, 3)} {
			for _, b := range []impl.Box{box(2, policy, queue...), more(box(2, policy, queue...), 1, 2, 3), more(box(16, policy, queue...), 90000, 0, 0)} {
				checkEnd(t, false, b)
				checkEnd(t, len(queue) == 0, shut(b))
				b.Offered++
				checkEnd(t, false, b)
				checkEnd(t, false, shut(b))
			}
		}
	}
	for _, b := range append(roomyBoxes(), fullBoxes()...) {
		checkEnd(t, false, b)
		checkEnd(t, len(b.Queue) == 0, shut(b))
	}
	for _, b := range append(wrongBoxes(), spoiltAlone()...) {
		checkEnd(t, false, b)
		checkEnd(t, false, shut(b))
	}
}

// offeredAll tells the Box to which all of these were Offered.
func offeredAll(t *testing.T, b impl.Box, list []impl.Msg) impl.Box {
	t.Helper()
	for _, m := range list {
		next, code := impl.OfferedTo(b, m)
		if code == impl.BxShut || code == impl.BxBad {
			t.Fatalf("OfferedTo(%v, %v) = %v, %d", b, m, next, code)
		}
		b = next
	}
	return b
}

// checkEmptied takes all from a Box that is Shut: this list, one after the other, and nothing else, whatever it is offered in between.
func checkEmptied(t *testing.T, b impl.Box, list []impl.Msg) {
	t.Helper()
	received := b.Received
	for i, want := range list {
		checkShutToAll(t, b)
		checkEnd(t, false, b)
		next, m, is := takenFrom(t, b)
		if !is || m != want || !impl.BoxOk(next) || !next.Shut || next.Received != received+int64(i)+1 {
			t.Fatalf("promise 8: TakenFrom(%v) = %v, %v, %v, not %v", b, next, m, is, want)
		}
		b = next
	}
	checkShutToAll(t, b)
	checkEnd(t, true, b)
	checkTaken(t, b, b, impl.Msg{}, false)
	checkShut(t, b, b)
}

func checkShutToAll(t *testing.T, b impl.Box) {
	t.Helper()
	list := []impl.Msg{msg(1, 0, "new", 0), msg(100000, 7, "new", 9999)}
	for _, m := range append(list, b.Queue...) {
		checkOffered(t, b, m, b, impl.BxShut)
	}
}

// promise 8: what is shut is emptied, in the order of its Queue, and then ends.
func TestShutBoxesAreEmptied(t *testing.T) {
	list := []impl.Msg{msg(1, 0, "a", 1), msg(2, 1, "b", 2), msg(3, 2, "a", 3), msg(4, 0, "c", 4), msg(5, 1, "b", 5)}
	for _, c := range []struct {
		policy int64
		most   int64
		seqs   []int64
	}{
		{impl.PlWait, 1, []int64{1}}, {impl.PlWait, 3, []int64{1, 2, 3}}, {impl.PlWait, 5, []int64{1, 2, 3, 4, 5}}, {impl.PlWait, 16, []int64{1, 2, 3, 4, 5}},
		{impl.PlOldest, 1, []int64{5}}, {impl.PlOldest, 3, []int64{3, 4, 5}}, {impl.PlOldest, 16, []int64{1, 2, 3, 4, 5}},
		{impl.PlNewest, 1, []int64{1}}, {impl.PlNewest, 3, []int64{1, 2, 3}}, {impl.PlNewest, 16, []int64{1, 2, 3, 4, 5}},
		{impl.PlMerge, 1, []int64{5}}, {impl.PlMerge, 2, []int64{5, 4}}, {impl.PlMerge, 3, []int64{3, 5, 4}}, {impl.PlMerge, 16, []int64{3, 5, 4}},
	} {
		b, is := impl.NewBox(c.most, c.policy)
		if !is {
			t.Fatal(c)
		}
		b = offeredAll(t, b, list)
		var want []impl.Msg
		for _, seq := range c.seqs {
			want = append(want, list[seq-1])
		}
		checkEnd(t, false, b)
		closed := shutOf(t, b)
		if !slices.Equal(closed.Queue, want) || !impl.BoxOk(closed) {
			t.Fatalf("%v is Shut with %v", b, closed.Queue)
		}
		checkEmptied(t, closed, want)
	}
}

// promise 8, at each moment of a Box that is offered messages and taken from: it is Shut there, and emptied.
func TestBoxesShutAtEachMoment(t *testing.T) {
	list := toldUpTo(20)
	for _, policy := range policies() {
		for _, most := range []int64{1, 2, 16} {
			for taken := range 4 {
				b, _ := impl.NewBox(most, policy)
				for i := range list {
					checkEmptied(t, shutOf(t, b), b.Queue)
					b = offeredAll(t, b, list[i:i+1])
					if i%4 < taken {
						b, _, _ = takenFrom(t, b)
					}
				}
			}
		}
	}
}

// An open Box that is emptied is not at its end: it takes in more.
func TestOpenBoxesDoNotEnd(t *testing.T) {
	for _, policy := range policies() {
		b, _ := impl.NewBox(1, policy)
		for i, m := range toldUpTo(5) {
			checkEnd(t, false, b)
			checkTaken(t, b, b, impl.Msg{}, false)
			full, code := impl.OfferedTo(b, m)
			if code != impl.BxIn {
				t.Fatalf("OfferedTo(%v, %v) = %v, %d", b, m, full, code)
			}
			checkEnd(t, false, full)
			n := int64(i) + 1
			b = withCounts(box(1, policy), n, n, 0, 0)
			checkTaken(t, full, b, m, true)
		}
		checkEnd(t, true, shutOf(t, b))
	}
}

// checkTakingStep takes one, or tries to, beside the plain list, and tells whether there was one.
func checkTakingStep(t *testing.T, b impl.Box, s *boxStory) (impl.Box, bool) {
	t.Helper()
	next, m, is := takenFrom(t, b)
	if is != (len(s.queue) > 0) || is && m != s.queue[0] || !is && m != (impl.Msg{}) {
		t.Fatalf("promise 8: TakenFrom(%v) = %v, %v, %v beside %v", b, next, m, is, s.queue)
	}
	if is {
		s.queue, s.received = s.queue[1:], s.received+1
	}
	if !sameBox(next, s.box(b)) || !boxOk(t, next) {
		t.Fatalf("promise 8: TakenFrom(%v) = %v, not %v", b, next, s.box(b))
	}
	return next, is
}

// promise 8, by many steps in any order, beside a plain list.
func TestTakingByManySteps(t *testing.T) {
	r := rand.New(rand.NewSource(20))
	topics := append(topicsOf(2), "abcdefghijkl", "a0", "ab")
	took, none, ends := 0, 0, 0
	for range 500 {
		b, _ := impl.NewBox(1+r.Int63n(16), 1+r.Int63n(4))
		var s boxStory
		for range 50 {
			switch r.Intn(20) {
			case 0:
				b = shutOf(t, b)
			case 1, 2, 3, 4, 5, 6, 7, 8, 9:
				next, is := checkTakingStep(t, b, &s)
				took += int(codeOf(is))
				none += int(codeOf(!is))
				b = next
			default:
				m := msg(1+r.Int63n(50), r.Int63n(8), topics[r.Intn(len(topics))], r.Int63n(10))
				want := codeFor(b, m)
				if b.Shut {
					want = impl.BxShut
				}
				next, code := impl.OfferedTo(b, m)
				if code != want {
					t.Fatalf("OfferedTo(%v, %v) = %v, %d, not %d", b, m, next, code, want)
				}
				s.goesOn(code, m)
				b = next
			}
			isEnd := b.Shut && len(s.queue) == 0
			checkEnd(t, isEnd, b)
			ends += int(codeOf(isEnd))
		}
		checkEmptied(t, shutOf(t, b), s.queue)
	}
	if took < 3000 || none < 1000 || ends < 1000 {
		t.Fatalf("too few to tell: %d taken, %d times none, %d times the end", took, none, ends)
	}
}

func TestTakingByForm(t *testing.T) {
	for _, b := range rightBoxes() {
		if !boxForm(b) {
			t.Fatalf("%v is not right", b)
		}
		checkTakingByForm(t, b)
	}
	r := rand.New(rand.NewSource(21))
	wrong, took, none, ends := 0, 0, 0, 0
	for range 30000 {
		b := drawnBox(r)
		checkTakingByForm(t, b)
		_, _, is := takenForm(b)
		wrong += int(codeOf(!boxForm(b)))
		took += int(codeOf(is))
		none += int(codeOf(boxForm(b) && !is))
		ends += int(codeOf(endForm(b)))
	}
	if wrong < 2500 || took < 10000 || none < 2000 || ends < 400 {
		t.Fatalf("too few to tell: %d wrong, %d taken, %d times none, %d times the end", wrong, took, none, ends)
	}
}

// An answer stays as it is when another one is made of the same Box, and of the answer itself.
func TestTakingIsNewMemory(t *testing.T) {
	for _, policy := range policies() {
		b := shut(box(16, policy, toldUpTo(12)...))
		taken, _, _ := impl.TakenFrom(b)
		again, _, _ := impl.TakenFrom(b)
		next, _, _ := impl.TakenFrom(taken)
		closed, closedAgain := impl.ShutOf(b), impl.ShutOf(b)
		lists := [][]impl.Msg{b.Queue, taken.Queue, again.Queue, next.Queue, closed.Queue, closedAgain.Queue}
		for i, list := range lists {
			for k := range list {
				list[k] = msg(int64(i)+1, 0, "written", 1)
			}
		}
		for i, list := range lists {
			for _, m := range list {
				if m.Seq != int64(i)+1 {
					t.Fatalf("list %d is shared with list %d: %v", i, m.Seq-1, lists)
				}
			}
		}
		if len(taken.Queue) != 11 || len(next.Queue) != 10 || len(closed.Queue) != 12 {
			t.Fatal(lists)
		}
	}
}

func TestTakeAnyValues(t *testing.T) {
	r := rand.New(rand.NewSource(22))
	for range 20000 {
		checkTakingByForm(t, anyBox(r))
	}
	checkTakingByForm(t, box(1, impl.PlMerge, msg(1, 0, strings.Repeat("a/", 1<<20)+"a", 1)))
	all := toldUpTo(100000)
	for _, most := range []int64{16, 100000, math.MaxInt64} {
		b := box(most, impl.PlOldest, all...)
		checkTaken(t, b, impl.Box{}, impl.Msg{}, false)
		checkShut(t, b, impl.Box{})
		checkEnd(t, false, shut(b))
	}
}
