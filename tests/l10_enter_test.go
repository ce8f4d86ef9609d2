package tests

import (
	"fmt"
	"math"
	"math/rand"
	"reflect"
	"slices"
	"strings"
	"testing"

	"loop.example/g00776/impl"
)

// A changed is what a call of chapter 10 answers; what a function does not answer is zero.
type changed struct {
	broker impl.Broker
	msg    impl.Msg
	number int64
	code   int64
}

func (a changed) same(b changed) bool {
	return a.code == b.code && a.number == b.number && a.msg == b.msg && sameBroker(a.broker, b.broker)
}

func asItIs(b impl.Broker, code int64) changed { return changed{broker: b, code: code} }

// An act is a call of chapter 10, and the words of the chapter once more: what the program is held against.
type act struct {
	name string
	call func(b impl.Broker) changed
	form func(b impl.Broker) changed
}

func entering(filter string, most, policy, back int64) act {
	return act{
		fmt.Sprintf("Entered(%q, %d, %d, %d)", filter, most, policy, back),
		func(b impl.Broker) changed {
			next, code, number := impl.Entered(b, filter, most, policy, back)
			return changed{broker: next, code: code, number: number}
		},
		func(b impl.Broker) changed {
			if b.Closed {
				return asItIs(b, 2)
			}
			if !filterForm.MatchString(filter) || !boxForm(box(most, policy)) || back < 0 {
				return asItIs(b, 8)
			}
			if len(b.Subs) == int(b.MaxSubs) {
				return asItIs(b, 3)
			}
			queue := heardForm(b, filter, back)
			for len(queue) > int(most) {
				queue = queue[1:]
			}
			return changed{broker: withSubs(b, append(slices.Clone(b.Subs), impl.Sub{Filter: filter, Box: box(most, policy, queue...), Live: true})...), code: 1, number: int64(len(b.Subs))}
		},
	}
}

func leaving(number int64) act {
	return act{
		fmt.Sprintf("Left(%d)", number),
		func(b impl.Broker) changed {
			next, code := impl.Left(b, number)
			return changed{broker: next, code: code}
		},
		func(b impl.Broker) changed {
			s, is := subOf(b, number)
			if !is {
				return asItIs(b, 4)
			}
			if !s.Live {
				return asItIs(b, 5)
			}
			return asItIs(withSub(b, number, left(s)), 1)
		},
	}
}

func closing() act {
	return act{
		"ClosedBy()",
		func(b impl.Broker) changed {
			next, code := impl.ClosedBy(b)
			return changed{broker: next, code: code}
		},
		func(b impl.Broker) changed {
			if b.Closed {
				return asItIs(b, 2)
			}
			b = closed(b)
			for i, s := range b.Subs {
				b = withSub(b, int64(i), shutOff(s))
			}
			return asItIs(b, 1)
		},
	}
}

func committing(from int64, topic string, body int64) act {
	return act{
		fmt.Sprintf("Committed(%d, %q, %d)", from, topic, body),
		func(b impl.Broker) changed {
			next, m, code := impl.Committed(b, from, topic, body)
			return changed{broker: next, msg: m, code: code}
		},
		func(b impl.Broker) changed {
			if b.Closed {
				return asItIs(b, 2)
			}
			if !msgForm(msg(1, from, topic, body)) {
				return asItIs(b, 8)
			}
			m := msg(b.Seq+1, from, topic, body)
			keep, is := keptForm(b.Keep, m)
			if b.Seq == 100000 || !is {
				return asItIs(b, 3)
			}
			b.Seq, b.Keep = m.Seq, keep
			b.Ring, _ = recordedForm(b.Ring, m)
			return changed{broker: b, msg: m, code: 1}
		},
	}
}

func handing(number int64, m impl.Msg) act {
	return act{
		fmt.Sprintf("Handed(%d, %v)", number, m),
		func(b impl.Broker) changed {
			next, code := impl.Handed(b, number, m)
			return changed{broker: next, code: code}
		},
		func(b impl.Broker) changed {
			s, is := subOf(b, number)
			if !is || m.Seq > b.Seq {
				return asItIs(b, 6)
			}
			next, code := offeredForm(s.Box, m)
			s.Box = next
			return asItIs(withSub(b, number, s), code)
		},
	}
}

func fetching(number int64) act {
	return act{
		fmt.Sprintf("Fetched(%d)", number),
		func(b impl.Broker) changed {
			next, m, code := impl.Fetched(b, number)
			return changed{broker: next, msg: m, code: code}
		},
		func(b impl.Broker) changed {
			s, is := subOf(b, number)
			if !is {
				return asItIs(b, 4)
			}
			next, m, is := takenForm(s.Box)
			switch {
			case is:
				s.Box = next
				return changed{broker: withSub(b, number, s), msg: m, code: 7}
			case s.Box.Shut:
				return asItIs(b, 6)
			}
			return asItIs(b, 5)
		},
	}
}

// heardForm tells all that one who comes would hear first, had its Box room for it.
func heardForm(b impl.Broker, filter string, back int64) []impl.Msg {
	list := keptForForm(b.Keep, filter)
	kept := slices.Clone(list)
	for _, m := range latestForm(b.Ring, back, filter) {
		if !slices.Contains(kept, m) {
			list = append(list, m)
		}
	}
	return list
}

func subOf(b impl.Broker, number int64) (impl.Sub, bool) {
	for i, s := range b.Subs {
		if int64(i) == number {
			return s, true
		}
	}
	return impl.Sub{}, false
}

// withSubs tells the Broker with these Subs in place of its own, and with the Trie of those who are Live.
func withSubs(b impl.Broker, subs ...impl.Sub) impl.Broker {
	b.Subs = subs
	b.Trie = trieOf(liveRow(b))
	return b
}

func withSub(b impl.Broker, number int64, s impl.Sub) impl.Broker {
	subs := slices.Clone(b.Subs)
	subs[number] = s
	return withSubs(b, subs...)
}

func withKeep(b impl.Broker, keep ...impl.Msg) impl.Broker {
	b.Keep = keep
	return settled(b)
}

func withRing(b impl.Broker, r impl.Ring) impl.Broker {
	b.Ring = r
	return settled(b)
}

func actForm(a act, b impl.Broker) changed {
	if !brokerForm(b) {
		return changed{code: 8}
	}
	return a.form(b)
}

// checkOwnBroker writes over all of an answer, spare rooms too: no list of it is seen to change by what is written into another one.
func checkOwnBroker(t *testing.T, b impl.Broker) {
	t.Helper()
	lists := [][]impl.Msg{b.Keep, b.Ring.Items}
	for _, s := range b.Subs {
		lists = append(lists, s.Box.Queue)
	}
	for i, list := range lists {
		list = list[:cap(list)]
		for k := range list {
			list[k] = msg(int64(i), -82, "written", -83)
		}
	}
	for i, list := range lists {
		for _, m := range list[:cap(list)] {
			if m.Seq != int64(i) {
				t.Fatalf("lists %d and %d of an answer are one", i, m.Seq)
			}
		}
	}
	checkOwn(t, b.Trie)
	subs := b.Subs[:cap(b.Subs)]
	for i := range subs {
		subs[i] = sub("written", msg(1, 0, "written", 1))
	}
}

// checkChange makes a call twice at a Broker with spare rooms, writes all over the first answer in between, spare rooms too, and then makes it at one without: the argument stays, and so do the other answers.
func checkChange(t *testing.T, b impl.Broker, a act) changed {
	t.Helper()
	given := roomyBroker(b)
	before := wholeBroker(given)
	first := a.call(given)
	kept := first
	kept.broker = bareBroker(first.broker)
	checkOwnBroker(t, first.broker)
	if !reflect.DeepEqual(wholeBroker(given), before) {
		t.Fatalf("%s: the argument was written, or is shared: %v", a.name, before)
	}
	second := a.call(given)
	if !second.same(kept) {
		t.Fatalf("%s: %v at first, then %v", a.name, kept, second)
	}
	if !reflect.DeepEqual(wholeBroker(given), before) {
		t.Fatalf("%s: the argument was written: %v", a.name, before)
	}
	if third := a.call(bareBroker(b)); !third.same(kept) {
		t.Fatalf("%s: %v with spare rooms, %v without", a.name, kept, third)
	}
	return second
}

// checkAct asks as well that what is answered is right just where the Broker was (promise 10).
func checkAct(t *testing.T, b impl.Broker, a act, want changed) changed {
	t.Helper()
	got := checkChange(t, b, a)
	if !got.same(want) {
		t.Errorf("%s of %v = %v, not %v", a.name, b, got, want)
	}
	if impl.BrokerOk(got.broker) != brokerForm(b) {
		t.Errorf("promise 10: %s of %v = %v: BrokerOk tells %v", a.name, b, got, impl.BrokerOk(got.broker))
	}
	return got
}

func checkActByForm(t *testing.T, b impl.Broker, a act) changed {
	t.Helper()
	return checkAct(t, b, a, actForm(a, b))
}

func checkAsItIs(t *testing.T, b impl.Broker, a act, code int64) {
	t.Helper()
	checkAct(t, b, a, asItIs(b, code))
}

// checkEntry asks which Seqs one who comes hears first.
func checkEntry(t *testing.T, b impl.Broker, a act, most, policy int64, filter string, want ...int64) {
	t.Helper()
	got := checkActByForm(t, b, a)
	n := int64(len(b.Subs))
	if got.code != impl.RpOk || got.number != n || len(got.broker.Subs) != len(b.Subs)+1 {
		t.Fatalf("%s of %v = %v", a.name, b, got)
	}
	s := got.broker.Subs[n]
	wantSub := impl.Sub{Filter: filter, Box: box(most, policy, s.Box.Queue...), Live: true}
	if !slices.Equal(seqsIn(s.Box.Queue), want) || !sameBox(s.Box, wantSub.Box) || s.Filter != filter || !s.Live {
		t.Errorf("promise 10: %s of %v: %v, not with %v", a.name, b, s, want)
	}
}

func seqsIn(list []impl.Msg) []int64 {
	var seqs []int64
	for _, m := range list {
		seqs = append(seqs, m.Seq)
	}
	return seqs
}

// someActs tells acts of all six functions, which can be done and can't.
func someActs() []act {
	return []act{
		entering("a", 1, impl.PlWait, 0), entering("#", 16, impl.PlMerge, 32), entering("A", 1, 1, 0), entering("a", 0, 5, -1),
		leaving(0), leaving(2), leaving(-1), leaving(100), closing(),
		committing(0, "a", 1), committing(7, "a/b", 0), committing(8, "A", -1),
		handing(0, msg(1, 0, "a", 1)), handing(2, msg(1, 0, "a", 1)), handing(-1, msg(1, 0, "a", 1)), handing(0, impl.Msg{}), handing(0, msg(100000, 0, "a", 1)),
		fetching(0), fetching(2), fetching(-1), fetching(100),
	}
}

func TestReplyNumbers(t *testing.T) {
	replies := []int64{impl.RpOk, impl.RpClosed, impl.RpFull, impl.RpNone, impl.RpNo, impl.RpEnd, impl.RpMsg, impl.RpBad}
	if !slices.Equal(replies, []int64{1, 2, 3, 4, 5, 6, 7, 8}) {
		t.Fatal(replies)
	}
}

func TestNothingIsDoneWithWrongBrokers(t *testing.T) {
	for _, b := range wrongBrokers() {
		for _, a := range someActs() {
			checkAct(t, b, a, changed{code: impl.RpBad})
		}
	}
}

func TestActsOfRightBrokers(t *testing.T) {
	for _, b := range rightBrokers() {
		for _, a := range someActs() {
			checkActByForm(t, b, a)
		}
	}
}

// What would have to be right of one who comes, and each of these that is not.
func wrongEntries() []act {
	list := []act{}
	for _, filter := range []string{"", "/", "A", "a#", "a/", "/a", "a//b", "#/a", "a b", "\xff", "abcdefghijklm", "a/b/c/d/e/f/g", "a/b/c/d/e/f/#"} {
		list = append(list, entering(filter, 1, 1, 0))
	}
	for _, n := range append(farNumbers(), 0, 17, 18) {
		list = append(list, entering("a", n, 1, 0))
	}
	for _, n := range append(farNumbers(), 0, 5, 6) {
		list = append(list, entering("a", 1, n, 0))
	}
	for _, n := range farNumbers() {
		if n < 0 {
			list = append(list, entering("a", 1, 1, n))
		}
	}
	// Each two of them.
	return append(list, entering("A", 0, 1, 0), entering("A", 1, 0, 0), entering("A", 1, 1, -1), entering("a", 0, 5, 0), entering("a", 17, 1, -1), entering("a", 1, 0, -1), entering("", 0, 0, -1))
}

func TestEnteredRefuses(t *testing.T) {
	isRoom := withKeep(broker(sub("a"), left(sub("b"))), keptOf("a", "b")...)
	isFull := withMaxSubs(isRoom, 2)
	isClosed := closed(withSubs(isRoom, shutOff(sub("a")), left(sub("b"))))
	isBoth := withMaxSubs(isClosed, 2)
	fits := []act{entering("a", 1, 1, 0), entering("#", 16, 4, math.MaxInt64), entering("+/#", 16, 2, 32)}
	for _, a := range fits {
		checkAct(t, isRoom, a, a.form(isRoom))
		checkAsItIs(t, isFull, a, impl.RpFull)
		checkAsItIs(t, isClosed, a, impl.RpClosed)
		checkAsItIs(t, isBoth, a, impl.RpClosed)
	}
	for _, a := range wrongEntries() {
		checkAsItIs(t, isRoom, a, impl.RpBad)
		checkAsItIs(t, isFull, a, impl.RpBad)
		checkAsItIs(t, isClosed, a, impl.RpClosed)
		checkAsItIs(t, isBoth, a, impl.RpClosed)
	}
}

func TestEnteredEdges(t *testing.T) {
	b := withRing(broker(), ring(3, told(1, 2, 3)...))
	for most := int64(-2); most <= 19; most++ {
		for policy := int64(-2); policy <= 7; policy++ {
			for _, back := range []int64{-2, -1, 0, 1, 2, 3, 4, 32, 33, math.MaxInt64} {
				a := entering("#", most, policy, back)
				if most < 1 || most > 16 || policy < 1 || policy > 4 || back < 0 {
					checkAsItIs(t, b, a, impl.RpBad)
					continue
				}
				n := min(most, back, 3)
				checkEntry(t, b, a, most, policy, "#", seqsIn(told(1, 2, 3)[3-n:])...)
			}
		}
	}
}

func TestEnteredFilters(t *testing.T) {
	for _, filter := range append(filtersOf(3), "abcdefghijkl", "a/b/c/d/e/f", "+/+/+/+/+/#", words(6, "abcdefghijkl")) {
		for _, b := range []impl.Broker{broker(), broker(sub(filter)), broker(left(sub(filter))), threeSubs()} {
			n := int64(len(b.Subs))
			want := withSubs(b, append(slices.Clone(b.Subs), impl.Sub{Filter: filter, Box: box(2, impl.PlNewest, heardForm(b, filter, 0)...), Live: true})...)
			checkAct(t, b, entering(filter, 2, impl.PlNewest, 0), changed{broker: want, code: impl.RpOk, number: n})
		}
	}
}

// Who left is one of MaxSubs still, and a number is not given again.
func TestEnteredUpToMaxSubs(t *testing.T) {
	for _, most := range []int64{1, 2, 3, 50, 99, 100} {
		for _, one := range []impl.Sub{sub("a"), left(sub("a")), shutOff(sub("+"))} {
			short := withMaxSubs(broker(manySubs(int(most)-1, one)...), most)
			a := entering("b", 1, impl.PlWait, 0)
			got := checkAct(t, short, a, changed{broker: withSubs(short, append(slices.Clone(short.Subs), impl.Sub{Filter: "b", Box: box(1, impl.PlWait), Live: true})...), code: impl.RpOk, number: most - 1})
			checkAsItIs(t, got.broker, a, impl.RpFull)
			checkTargets(t, got.broker, "b", targetsForm(got.broker, "b")...)
			if !slices.Contains(impl.TargetsOf(got.broker, "b"), most-1) {
				t.Errorf("not told: %v", got)
			}
			all := withMaxSubs(broker(manySubs(int(most), one)...), most)
			checkAsItIs(t, all, a, impl.RpFull)
			checkAsItIs(t, all, entering("b", 0, impl.PlWait, 0), impl.RpBad)
		}
	}
}

func TestEnteredInWords(t *testing.T) {
	first, second, third := msg(1, 2, "news", 5), msg(2, 0, "news/sport", 6), msg(3, 1, "games", 7)
	b := impl.Broker{
		MaxSubs: 5,
		Subs:    []impl.Sub{{Filter: "news", Box: shut(box(1, impl.PlMerge))}, {Filter: "news/+", Box: box(4, impl.PlOldest, second), Live: true}},
		Trie:    []impl.Knot{knot(""), knot("news"), knot("news/+", 1)},
		Keep:    []impl.Msg{third, second},
		Ring:    ring(2, second, third),
		Seq:     4,
	}
	want := b
	want.Subs = append(slices.Clone(b.Subs), impl.Sub{Filter: "news/+", Box: impl.Box{Cap: 16, Policy: impl.PlMerge, Queue: []impl.Msg{second}, Offered: 1}, Live: true})
	want.Trie = []impl.Knot{knot(""), knot("news"), knot("news/+", 1, 2)}
	checkAct(t, b, entering("news/+", 16, impl.PlMerge, 2), changed{broker: want, code: impl.RpOk, number: 2})
	b.Ring, b.Keep = ring(2, first, third), nil
	want.Ring, want.Keep = b.Ring, nil
	want.Subs = append(slices.Clone(b.Subs), impl.Sub{Filter: "news/#", Box: impl.Box{Cap: 1, Policy: impl.PlWait, Queue: []impl.Msg{first}, Offered: 1}, Live: true})
	want.Trie = []impl.Knot{knot(""), knot("news"), knot("news/#", 2), knot("news/+", 1)}
	checkAct(t, b, entering("news/#", 1, impl.PlWait, 2), changed{broker: want, code: impl.RpOk, number: 2})
	want.Subs[2].Box = impl.Box{Cap: 1, Policy: impl.PlWait}
	checkAct(t, b, entering("news/#", 1, impl.PlWait, 1), changed{broker: want, code: impl.RpOk, number: 2})
}

// promise 10: who comes hears first what is kept, by Seq, and then of the ring what is not among these, in order; of all these the last ones.
func TestWhoComesHears(t *testing.T) {
	old, a, c := msg(1, 0, "a", 1), msg(7, 1, "a", 2), msg(5, 2, "c", 3)
	ab, b0 := msg(6, 3, "a/b", 4), msg(3, 0, "b", 0)
	items := []impl.Msg{old, b0, c, ab, a}
	b := withRing(withKeep(broker(), a, ab, c), ring(5, items...))
	for _, e := range []struct {
		filter     string
		most, back int64
		want       []int64
	}{
		// All from the keep, as back is 0 or nothing else matches.
		{"#", 16, 0, []int64{5, 6, 7}}, {"+", 16, 0, []int64{5, 7}}, {"a/#", 16, 0, []int64{6, 7}}, {"c", 1, 0, []int64{5}}, {"c", 16, 5, []int64{5}}, {"a/b", 16, 5, []int64{6}},
		// The last ones of the ring are among what is kept.
		{"#", 16, 1, []int64{5, 6, 7}}, {"#", 16, 2, []int64{5, 6, 7}}, {"#", 16, 3, []int64{5, 6, 7}},
		// From both; what is kept comes first, though its Seqs are greater.
		{"#", 16, 4, []int64{5, 6, 7, 3}}, {"#", 16, 5, []int64{5, 6, 7, 1, 3}}, {"#", 16, 6, []int64{5, 6, 7, 1, 3}}, {"#", 16, math.MaxInt64, []int64{5, 6, 7, 1, 3}},
		{"+", 16, 5, []int64{5, 7, 1, 3}}, {"a", 16, 5, []int64{7, 1}}, {"a/#", 16, 5, []int64{6, 7, 1}}, {"a", 16, 4, []int64{7}},
		// All from the ring.
		{"b", 16, 5, []int64{3}}, {"b", 1, 4, []int64{3}}, {"b/#", 4, 32, []int64{3}},
		// None.
		{"b", 16, 3, nil}, {"b", 16, 0, nil}, {"d", 16, 5, nil}, {"a/+/b", 16, 5, nil}, {"+/+/#", 16, 0, []int64{6}}, {"+/a", 1, 5, nil},
		// As many as Cap, and more.
		{"#", 5, 5, []int64{5, 6, 7, 1, 3}}, {"#", 4, 5, []int64{6, 7, 1, 3}}, {"#", 3, 5, []int64{7, 1, 3}}, {"#", 2, 5, []int64{1, 3}}, {"#", 1, 5, []int64{3}},
		{"#", 3, 0, []int64{5, 6, 7}}, {"#", 2, 0, []int64{6, 7}}, {"#", 1, 0, []int64{7}}, {"#", 1, 3, []int64{7}}, {"a", 1, 5, []int64{1}}, {"a", 2, 5, []int64{7, 1}},
	} {
		for _, policy := range policies() {
			checkEntry(t, b, entering(e.filter, e.most, policy, e.back), e.most, policy, e.filter, e.want...)
		}
	}
}

func TestWhoComesHearsUpToCap(t *testing.T) {
	for _, kept := range []int{0, 1, 2, 15, 16, 17, 24} {
		for _, inRing := range []int64{0, 1, 2, 15, 16, 17, 32} {
			b := withRing(withKeep(broker(sub("#")), keptUpTo(kept)...), ring(32, toldUpTo(inRing)...))
			all := slices.Clone(b.Keep)
			slices.Reverse(all)
			all = append(all, b.Ring.Items...)
			for _, most := range []int64{1, 2, 15, 16} {
				want := all[max(0, len(all)-int(most)):]
				checkEntry(t, b, entering("#", most, impl.PlOldest, 32), most, impl.PlOldest, "#", seqsIn(want)...)
			}
		}
	}
}

// What is among these is known by all that it is, not by its Seq or Topic alone.
func TestWhoComesHearsWhatIsNotAmongThese(t *testing.T) {
	m := msg(5, 3, "a", 7)
	for _, other := range []impl.Msg{msg(4, 3, "a", 7), msg(6, 3, "a", 7), msg(5, 2, "a", 7), msg(5, 3, "a/b", 7), msg(5, 3, "a", 8), msg(5, 3, "a", 0)} {
		b := withRing(withKeep(broker(), m), ring(1, other))
		checkEntry(t, b, entering("#", 16, impl.PlWait, 1), 16, impl.PlWait, "#", m.Seq, other.Seq)
		checkEntry(t, b, entering("#", 1, impl.PlWait, 1), 1, impl.PlWait, "#", other.Seq)
	}
	b := withRing(withKeep(broker(), m), ring(1, m))
	checkEntry(t, b, entering("#", 16, impl.PlWait, 1), 16, impl.PlWait, "#", 5)
	// What is kept, but does not match, is not heard, and what matches in the ring alone is.
	b = withRing(withKeep(broker(), msg(2, 0, "a", 1), msg(5, 3, "b", 7)), ring(4, msg(1, 0, "b", 1), msg(2, 0, "a", 1), msg(5, 3, "b", 7)))
	checkEntry(t, b, entering("a", 16, impl.PlWait, 3), 16, impl.PlWait, "a", 2)
	checkEntry(t, b, entering("b", 16, impl.PlWait, 3), 16, impl.PlWait, "b", 5, 1)
	// Those that are kept with one Seq come by Topic.
	b = withKeep(broker(), msg(5, 3, "a", 7), msg(2, 0, "b", 1), msg(5, 1, "c", 2))
	got, _, _ := impl.Entered(b, "#", 16, impl.PlWait, 3)
	if !slices.Equal(got.Subs[0].Box.Queue, []impl.Msg{b.Keep[1], b.Keep[0], b.Keep[2]}) {
		t.Errorf("in another order: %v", got)
	}
}

func TestLeft(t *testing.T) {
	b := threeSubs()
	want := b
	want.Subs = []impl.Sub{left(b.Subs[0]), b.Subs[1], b.Subs[2]}
	want.Trie = []impl.Knot{knot(""), knot("a"), knot("a/+", 2)}
	checkAct(t, b, leaving(0), asItIs(want, impl.RpOk))
	checkAsItIs(t, b, leaving(1), impl.RpNo)
	checkAsItIs(t, want, leaving(0), impl.RpNo)
	// The last one of its Filter, with which all the way to it goes.
	last := want
	last.Subs = []impl.Sub{left(b.Subs[0]), b.Subs[1], left(b.Subs[2])}
	last.Trie = []impl.Knot{knot("")}
	checkAct(t, want, leaving(2), asItIs(last, impl.RpOk))
	want.Subs = []impl.Sub{b.Subs[0], b.Subs[1], left(b.Subs[2])}
	want.Trie = []impl.Knot{knot(""), knot("a"), knot("a/+", 0)}
	checkAct(t, b, leaving(2), asItIs(want, impl.RpOk))
	checkAct(t, want, leaving(0), asItIs(last, impl.RpOk))
	for n := range int64(3) {
		checkAsItIs(t, last, leaving(n), impl.RpNo)
	}
	// What is in the Box stays there, to be heard.
	if got, _ := impl.Left(b, 0); !slices.Equal(got.Subs[0].Box.Queue, told(3, 4)) || got.Subs[0].Live || !got.Subs[0].Box.Shut {
		t.Errorf("Left(%v, 0) = %v", b, got)
	}
	// From one that is Closed, and with a Box that is Shut already, too.
	gone := closed(broker(shutOff(sub("a", told(2)...)), left(sub("b")), shutOff(sub("a"))))
	checkAct(t, gone, leaving(0), asItIs(withSub(gone, 0, left(sub("a", told(2)...))), impl.RpOk))
	checkAsItIs(t, gone, leaving(1), impl.RpNo)
	checkAsItIs(t, gone, leaving(3), impl.RpNone)
	off := broker(sub("a"), shutOff(sub("b")))
	checkAct(t, off, leaving(1), asItIs(withSub(off, 1, left(sub("b"))), impl.RpOk))
}

func TestNoSuchSub(t *testing.T) {
	m := msg(1, 0, "a", 1)
	for _, b := range append(rightBrokers(), threeSubs()) {
		n := int64(len(b.Subs))
		numbers := append(farNumbers(), n, n+1, 100, 101)
		for _, number := range numbers {
			checkAsItIs(t, b, leaving(number), impl.RpNone)
			checkAsItIs(t, b, fetching(number), impl.RpNone)
			checkAsItIs(t, b, handing(number, m), impl.BxBad)
			checkAsItIs(t, b, handing(number, impl.Msg{}), impl.BxBad)
		}
		if n > 0 {
			for _, a := range []act{leaving(0), leaving(n - 1), fetching(0), fetching(n - 1), handing(0, m), handing(n-1, m)} {
				checkActByForm(t, b, a)
			}
		}
	}
}

// promise 10: who left is not told any more, and all others are as before.
func TestWhoLeftIsNotTold(t *testing.T) {
	topics := append(topicsOf(2), "c", "a/b/c")
	subs := []impl.Sub{sub("a"), sub("#"), sub("a"), sub("+"), left(sub("a")), sub("a/#"), sub("+/b"), sub("b"), sub("a/b"), sub("a/b")}
	start := broker(subs...)
	r := rand.New(rand.NewSource(27))
	for range 30 {
		b := start
		for _, i := range r.Perm(len(subs)) {
			number := int64(i)
			wasLive := b.Subs[i].Live
			got := checkActByForm(t, b, leaving(number))
			if wasLive != (got.code == impl.RpOk) || impl.LiveIn(got.broker) != impl.LiveIn(b)-codeOf(wasLive) {
				t.Fatalf("Left(%v, %d) = %v", b, number, got)
			}
			for _, topic := range topics {
				before, after := impl.TargetsOf(b, topic), impl.TargetsOf(got.broker, topic)
				want := slices.DeleteFunc(before, func(id int64) bool { return id == number })
				if !slices.Equal(after, want) {
					t.Fatalf("promise 10: TargetsOf %q are %v when %d has left, not %v", topic, after, number, want)
				}
			}
			b = got.broker
		}
		if !sameTrie(b.Trie, impl.NewTrie()) || impl.LiveIn(b) != 0 {
			t.Fatalf("all have left: %v", b)
		}
	}
}

func TestClosedBy(t *testing.T) {
	in := told(5, 2)
	for _, c := range []struct{ before, after []impl.Sub }{
		{nil, nil},
		{[]impl.Sub{sub("a", in...)}, []impl.Sub{shutOff(sub("a", in...))}},
		{[]impl.Sub{left(sub("a", in...))}, []impl.Sub{left(sub("a", in...))}},
		{[]impl.Sub{shutOff(sub("a", in...))}, []impl.Sub{shutOff(sub("a", in...))}},
		{[]impl.Sub{sub("a"), left(sub("a")), sub("b", in...), shutOff(sub("#")), sub("a")}, []impl.Sub{shutOff(sub("a")), left(sub("a")), shutOff(sub("b", in...)), shutOff(sub("#")), shutOff(sub("a"))}},
		{manySubs(100, sub("a", in...)), manySubs(100, shutOff(sub("a", in...)))},
	} {
		b := withRing(withKeep(broker(c.before...), keptOf("a", "b")...), ring(2, told(7, 8)...))
		want := b
		want.Subs, want.Closed = c.after, true
		got := checkAct(t, b, closing(), asItIs(want, impl.RpOk))
		checkAsItIs(t, want, closing(), impl.RpClosed)
		// Who is Live stays so, and is a target still.
		if impl.LiveIn(got.broker) != impl.LiveIn(b) || !slices.Equal(impl.TargetsOf(got.broker, "a"), impl.TargetsOf(b, "a")) {
			t.Errorf("ClosedBy(%v) = %v", b, got)
		}
		for n := range int64(len(c.after)) {
			checkAsItIs(t, got.broker, handing(n, in[0]), impl.BxShut)
		}
	}
}

func TestCommitted(t *testing.T) {
	b := withRing(withKeep(broker(sub("#", told(2)...)), msg(3, 1, "a", 5)), ring(2, msg(3, 1, "a", 5)))
	first, second, third := msg(4, 7, "b", 9999), msg(5, 0, "a", 0), msg(6, 2, "c", 1)
	// It goes into no Box yet.
	want := b
	want.Seq, want.Keep, want.Ring = 4, []impl.Msg{b.Keep[0], first}, ring(2, b.Keep[0], first)
	checkAct(t, b, committing(7, "b", 9999), changed{broker: want, msg: first, code: impl.RpOk})
	b, want.Seq, want.Keep, want.Ring = want, 5, []impl.Msg{first}, ring(2, first, second)
	checkAct(t, b, committing(0, "a", 0), changed{broker: want, msg: second, code: impl.RpOk})
	b, want.Seq, want.Keep, want.Ring = want, 6, []impl.Msg{first, third}, ring(2, second, third)
	checkAct(t, b, committing(2, "c", 1), changed{broker: want, msg: third, code: impl.RpOk})
	// Seq may be far ahead of what is there.
	b, want.Seq = withSeq(b, 99999), 100000
	third.Seq = 100000
	want.Keep, want.Ring = []impl.Msg{first, third}, ring(2, second, third)
	checkAct(t, b, committing(2, "c", 1), changed{broker: want, msg: third, code: impl.RpOk})
	checkAsItIs(t, want, committing(2, "c", 1), impl.RpFull)
}

func TestCommittedEdges(t *testing.T) {
	b := withRing(withKeep(broker(), keptOf("a", "b")...), ring(3, told(1, 2)...))
	last := withSeq(b, 99999)
	full := withSeq(b, 100000)
	many := withKeep(broker(), keptUpTo(24)...)
	for _, c := range []struct {
		from  int64
		topic string
		body  int64
		fits  bool
	}{
		{0, "c", 0, true}, {7, "c", 9999, true}, {0, "a", 0, true}, {7, "abcdefghijkl", 1, true}, {3, words(6, "abcdefghijkl"), 42, true}, {3, "a/b/c/d/e/f", 42, true},
		{-1, "c", 1, false}, {8, "c", 1, false}, {math.MinInt64, "c", 1, false}, {math.MaxInt64, "c", 1, false}, {1 << 32, "c", 1, false},
		{0, "c", -1, false}, {0, "c", 10000, false}, {0, "c", math.MinInt64, false}, {0, "c", math.MaxInt64, false}, {0, "c", 1 << 32, false},
		{0, "", 1, false}, {0, "+", 1, false}, {0, "c/#", 1, false}, {0, "abcdefghijklm", 1, false}, {0, "a/b/c/d/e/f/g", 1, false}, {0, "C", 1, false},
		// Each two of these, and all.
		{-1, "", 1, false}, {8, "c", -1, false}, {0, "#", 10000, false}, {8, "+", 10000, false},
	} {
		a := committing(c.from, c.topic, c.body)
		for _, one := range []impl.Broker{b, last} {
			got := checkActByForm(t, one, a)
			if c.fits != (got.code == impl.RpOk) || c.fits && got.msg != msg(one.Seq+1, c.from, c.topic, c.body) {
				t.Errorf("%s of %v = %v", a.name, one, got)
			}
		}
		if !c.fits {
			for _, one := range []impl.Broker{b, last, full, many, withSeq(many, 100000)} {
				checkAsItIs(t, one, a, impl.RpBad)
				checkAsItIs(t, closed(one), a, impl.RpClosed)
			}
			continue
		}
		checkAsItIs(t, full, a, impl.RpFull)
		for _, one := range []impl.Broker{b, last, full, many, withSeq(many, 100000)} {
			checkAsItIs(t, closed(one), a, impl.RpClosed)
		}
	}
}

func TestCommittedWhereMuchIsKept(t *testing.T) {
	for _, seq := range []int64{240, 241, 99998, 99999, 100000} {
		for _, count := range []int{0, 1, 22, 23, 24} {
			b := withKeep(broker(), keptUpTo(count)...)
			b.Seq = seq
			for _, c := range []struct {
				topic string
				body  int64
				fits  bool
			}{{"t00", 1, true}, {"t00", 0, true}, {"t23", 1, true}, {"t23", 0, true}, {"new", 0, true}, {"new", 1, count < 24}, {"zz", 9999, count < 24}, {"0", 1, count < 24}} {
				a := committing(1, c.topic, c.body)
				if !c.fits || seq == 100000 {
					checkAsItIs(t, b, a, impl.RpFull)
					continue
				}
				m := msg(seq+1, 1, c.topic, c.body)
				want := withSeq(b, seq+1)
				want.Keep, _ = keptForm(b.Keep, m)
				want.Ring.Items = []impl.Msg{m}
				checkAct(t, b, a, changed{broker: want, msg: m, code: impl.RpOk})
			}
		}
	}
}

func TestCommittedToRings(t *testing.T) {
	for _, most := range []int64{0, 1, 2, 31, 32} {
		for count := max(0, most-2); count <= most; count++ {
			b := withSeq(withRing(broker(), ring(most, toldUpTo(count)...)), 50)
			m := msg(51, 3, "new", 0)
			want := withSeq(b, 51)
			items := append(toldUpTo(count), m)
			want.Ring.Items = items[max(0, len(items)-int(most)):]
			got := checkAct(t, b, committing(3, "new", 0), changed{broker: want, msg: m, code: impl.RpOk})
			want = withSeq(got.broker, 52)
			items = append(items, msg(52, 0, "a", 0))
			want.Ring.Items = items[max(0, len(items)-int(most)):]
			checkAct(t, got.broker, committing(0, "a", 0), changed{broker: want, msg: msg(52, 0, "a", 0), code: impl.RpOk})
		}
	}
}

// boxesAt tells Brokers that have this Box at the first, a middle and the last place.
func boxesAt(b impl.Box, number int64) impl.Broker {
	subs := []impl.Sub{sub("a", told(3)...), sub("#"), left(sub("b", told(1, 2)...))}
	subs[number] = impl.Sub{Filter: "+", Box: b, Live: true}
	return withSeq(broker(subs...), 100000)
}

func TestHanded(t *testing.T) {
	m, again := msg(9, 3, "new", 42), msg(9, 3, "a", 0)
	for number := range int64(3) {
		for _, c := range []struct {
			box  impl.Box
			m    impl.Msg
			want impl.Box
			code int64
		}{
			{box(1, impl.PlWait), m, box(1, impl.PlWait, m), impl.BxIn},
			{box(16, impl.PlMerge, toldUpTo(15)...), m, box(16, impl.PlMerge, append(toldUpTo(15), m)...), impl.BxIn},
			{shut(box(2, impl.PlOldest, told(5)...)), m, shut(box(2, impl.PlOldest, told(5)...)), impl.BxShut},
			{box(2, impl.PlMerge, told(1, 2)...), again, more(box(2, impl.PlMerge, again, told(1, 2)[1]), 0, 0, 1), impl.BxMerged},
			{box(2, impl.PlWait, told(1, 2)...), m, box(2, impl.PlWait, told(1, 2)...), impl.BxWait},
			{box(2, impl.PlNewest, told(1, 2)...), m, more(box(2, impl.PlNewest, told(1, 2)...), 0, 1, 0), impl.BxLost},
			{box(2, impl.PlOldest, told(1, 2)...), m, more(box(2, impl.PlOldest, told(1, 2)[1], m), 0, 1, 0), impl.BxOld},
			{box(2, impl.PlMerge, told(1, 2)...), m, more(box(2, impl.PlMerge, told(1, 2)[1], m), 0, 1, 0), impl.BxOld},
			{more(box(2, impl.PlOldest), 100000, 0, 0), m, more(box(2, impl.PlOldest), 100000, 0, 0), impl.BxBad},
		} {
			b := boxesAt(c.box, number)
			s := b.Subs[number]
			s.Box = c.want
			checkAct(t, b, handing(number, c.m), asItIs(withSub(b, number, s), c.code))
			for _, wrong := range wrongMsgs() {
				checkAsItIs(t, b, handing(number, wrong), impl.BxBad)
			}
		}
	}
	// Nothing comes to who left.
	checkAsItIs(t, boxesAt(box(1, 1), 0), handing(2, m), impl.BxShut)
}

// Whether it would be told to this Box or not, be it right or not, is not asked of a message with a Seq of more than the Broker's.
func TestHandedUpToSeq(t *testing.T) {
	for _, seq := range []int64{1, 2, 50, 99999, 100000} {
		b := withSeq(broker(sub("a"), shutOff(sub("a")), left(sub("a"))), seq)
		for _, from := range []int64{0, 7, 8, -1} {
			isRight := from == 0 || from == 7
			m := msg(seq, from, "b", 1)
			if !isRight {
				checkAsItIs(t, b, handing(0, m), impl.BxBad)
				checkAsItIs(t, b, handing(1, m), impl.BxBad)
				continue
			}
			checkAct(t, b, handing(0, m), asItIs(withSub(b, 0, sub("a", m)), impl.BxIn))
			checkAsItIs(t, b, handing(1, m), impl.BxShut)
			checkAsItIs(t, b, handing(2, m), impl.BxShut)
			checkAsItIs(t, b, handing(3, m), impl.BxBad)
			for _, later := range []int64{seq + 1, 100001, math.MaxInt64} {
				m.Seq = later
				for number := range int64(4) {
					checkAsItIs(t, b, handing(number, m), impl.BxBad)
				}
			}
		}
	}
	none := broker(sub("a"))
	checkAsItIs(t, none, handing(0, msg(1, 0, "a", 1)), impl.BxBad)
	checkAsItIs(t, none, handing(0, msg(0, 0, "a", 1)), impl.BxBad)
	checkAsItIs(t, none, handing(0, impl.Msg{}), impl.BxBad)
}

func TestFetched(t *testing.T) {
	for number := range int64(3) {
		for _, policy := range policies() {
			for _, isShut := range []bool{false, true} {
				two := more(box(3, policy, told(9, 2)...), 1, 2, 3)
				two.Shut = isShut
				b := boxesAt(two, number)
				for i, m := range told(9, 2) {
					s := b.Subs[number]
					s.Box = more(box(3, policy, told(9, 2)[i+1:]...), int64(i)+2, 2, 3)
					s.Box.Shut = isShut
					want := withSub(b, number, s)
					checkAct(t, b, fetching(number), changed{broker: want, msg: m, code: impl.RpMsg})
					b = want
				}
				if isShut {
					checkAsItIs(t, b, fetching(number), impl.RpEnd)
				} else {
					checkAsItIs(t, b, fetching(number), impl.RpNo)
				}
			}
		}
	}
	// Who left hears what is in its Box yet, and then the end; so does everybody when all is Closed.
	b := closed(broker(left(sub("a", told(4)...)), shutOff(sub("b", told(5)...)), shutOff(sub("b"))))
	for number, m := range []impl.Msg{told(4)[0], told(5)[0]} {
		s := b.Subs[number]
		s.Box = shut(withCounts(box(16, impl.PlWait), 1, 1, 0, 0))
		b = checkAct(t, b, fetching(int64(number)), changed{broker: withSub(b, int64(number), s), msg: m, code: impl.RpMsg}).broker
	}
	for number := range int64(3) {
		checkAsItIs(t, b, fetching(number), impl.RpEnd)
	}
	checkAsItIs(t, b, fetching(3), impl.RpNone)
}

func TestChangesTakeNilForEmpty(t *testing.T) {
	for _, list := range [][]impl.Msg{nil, {}, make([]impl.Msg, 0, 5), toldUpTo(3)[:0]} {
		for _, subs := range [][]impl.Sub{nil, {}, make([]impl.Sub, 0, 5), manySubs(3, sub("A"))[:0]} {
			b := impl.Broker{MaxSubs: 2, Subs: subs, Trie: []impl.Knot{{Ids: make([]int64, 0, 3)}}, Keep: list, Ring: impl.Ring{Items: list}}
			one := b
			one.Subs = append(subs[:0:0], impl.Sub{Filter: "a", Box: impl.Box{Cap: 1, Policy: impl.PlWait, Queue: list}, Live: true})
			one.Trie = []impl.Knot{{Ids: []int64{}}, knot("a", 0)}
			for _, a := range someActs() {
				for _, x := range []impl.Broker{b, one} {
					if got, want := a.call(x), actForm(a, x); !got.same(want) {
						t.Errorf("%s of %#v = %v, not %v", a.name, x, got, want)
					}
				}
			}
		}
	}
}

// drawnAct tells an act with arguments that are right most times.
func drawnAct(r *rand.Rand, b impl.Broker) act {
	filters := []string{"a", "a/b", "+", "a/+", "#", "+/#", "a/#", "b7", "abcdefghijkl", "a/b/c/d/e/#"}
	topics := []string{"a", "a/b", "b7", "abcdefghijkl", "a/b/c/d/e/f", "c", "d"}
	number := int64(r.Intn(len(b.Subs)+2)) - codeOf(r.Intn(5) == 0)
	switch r.Intn(12) {
	case 0, 1, 2:
		filter, most, policy, back := filters[r.Intn(len(filters))], 1+r.Int63n(16), 1+r.Int63n(4), r.Int63n(33)
		switch r.Intn(20) {
		case 0:
			filter = anyText(r)
		case 1:
			most = anyNumber(r)
		case 2:
			policy = anyNumber(r)
		case 3:
			back = anyNumber(r)
		}
		if r.Intn(2) == 0 {
			most = 1 + most%2
		}
		return entering(filter, most, policy, back)
	case 3:
		return leaving(number)
	case 4:
		if r.Intn(12) > 0 {
			return fetching(number)
		}
		return closing()
	case 5, 6:
		m := msg(1, r.Int63n(8), topics[r.Intn(len(topics))], r.Int63n(3))
		if r.Intn(8) == 0 {
			m = spoiltMsg(r, m)
		}
		return committing(m.From, m.Topic, m.Body)
	case 7, 8, 9, 10:
		m := drawnMsg(r)
		if r.Intn(4) > 0 {
			m.Seq = 1 + m.Seq%max(1, b.Seq)
		}
		if r.Intn(8) == 0 {
			m = spoiltMsg(r, m)
		}
		return handing(number, m)
	}
	return fetching(number)
}

// seenOften asks that each of these codes was told of a function often enough.
func seenOften(t *testing.T, seen map[string]int, least int) {
	t.Helper()
	for name, codes := range map[string][]int64{
		"Entered": {1, 2, 3, 8}, "Left": {1, 4, 5}, "ClosedBy": {1, 2}, "Committed": {1, 2, 3, 8}, "Handed": {0, 1, 2, 3, 4, 5, 6}, "Fetched": {4, 5, 6, 7},
	} {
		for _, code := range codes {
			if seen[fmt.Sprint(name, code)] < least {
				t.Fatalf("too few to tell: %s with %d: %v", name, code, seen)
			}
		}
	}
}

func nameOf(a act, code int64) string {
	name, _, _ := strings.Cut(a.name, "(")
	return fmt.Sprint(name, code)
}

func TestManyChanges(t *testing.T) {
	r := rand.New(rand.NewSource(28))
	seen := map[string]int{}
	for range 20000 {
		b := drawnBroker(r)
		a := drawnAct(r, b)
		got := checkActByForm(t, b, a)
		seen[nameOf(a, got.code)]++
		if b = spoiltBroker(r, b); r.Intn(4) == 0 {
			checkActByForm(t, b, a)
		}
	}
	seenOften(t, seen, 20)
}

// promise 10, by many acts in any order: what is answered is right, and the next one is done with it.
func TestBrokersByManySteps(t *testing.T) {
	r := rand.New(rand.NewSource(29))
	seen := map[string]int{}
	for range 400 {
		b, _ := impl.NewBroker(1+r.Int63n(8), r.Int63n(9))
		if r.Intn(10) == 0 {
			b = withKeep(b, keptUpTo(24)...)
		}
		if r.Intn(10) == 0 {
			b.Seq = 99990
		}
		for range 60 {
			a := drawnAct(r, b)
			got := checkActByForm(t, b, a)
			seen[nameOf(a, got.code)]++
			if !brokerForm(got.broker) {
				t.Fatalf("promise 10: %s of %v = %v", a.name, b, got)
			}
			b = got.broker
		}
	}
	seenOften(t, seen, 20)
}

// An enterStory is a plain list of all that was told, and of who has left.
type enterStory struct {
	all  []impl.Msg
	gone []int64
}

// heard tells what one who comes hears first: the last word on each topic, and then of the last ones that the ring has what was not heard yet.
func (s enterStory) heard(b impl.Broker, filter string, most, back int64) []impl.Msg {
	form := matchForm(filter)
	matches := func(m impl.Msg) bool { return form.MatchString("/" + m.Topic) }
	isKept := func(m impl.Msg) bool { return slices.Contains(lastOf(s.all), m) }
	var list []impl.Msg
	for _, m := range s.all {
		if matches(m) && isKept(m) {
			list = append(list, m)
		}
	}
	count := min(int(back), int(b.Ring.Cap), len(s.all))
	for _, m := range s.all[len(s.all)-count:] {
		if matches(m) && !isKept(m) {
			list = append(list, m)
		}
	}
	return list[max(0, len(list)-int(most)):]
}

func TestStoryOfComingAndGoing(t *testing.T) {
	r := rand.New(rand.NewSource(30))
	filters, topics := filtersOf(2), append(topicsOf(2), "c")
	heard, gone := 0, 0
	for range 100 {
		b, _ := impl.NewBroker(100, r.Int63n(12))
		var s enterStory
		for range 60 {
			switch r.Intn(4) {
			case 0:
				filter, most, policy, back := filters[r.Intn(len(filters))], 1+r.Int63n(16), 1+r.Int63n(4), r.Int63n(14)
				next, code, number := impl.Entered(b, filter, most, policy, back)
				want := s.heard(b, filter, most, back)
				if code != impl.RpOk || number != int64(len(b.Subs)) || !sameBox(next.Subs[number].Box, box(most, policy, want...)) {
					t.Fatalf("promise 10: Entered(%v, %q, %d, %d, %d) = %v, %d, %d, not %v", b, filter, most, policy, back, next, code, number, want)
				}
				heard += len(want)
				b = next
			case 1:
				number := int64(r.Intn(len(b.Subs) + 1))
				next, code := impl.Left(b, number)
				if code == impl.RpOk {
					s.gone = append(s.gone, number)
				}
				b = next
			default:
				next, m, code := impl.Committed(b, r.Int63n(8), topics[r.Intn(len(topics))], r.Int63n(4))
				if code != impl.RpOk || m.Seq != int64(len(s.all))+1 {
					t.Fatalf("Committed of %v = %v, %v, %d", b, next, m, code)
				}
				s.all = append(s.all, m)
				b = next
			}
			if !impl.BrokerOk(b) || impl.LiveIn(b) != int64(len(b.Subs)-len(s.gone)) {
				t.Fatalf("promise 10: %v when %v have left", b, s.gone)
			}
			for _, topic := range topics {
				if slices.ContainsFunc(impl.TargetsOf(b, topic), func(id int64) bool { return slices.Contains(s.gone, id) }) {
					t.Fatalf("promise 10: TargetsOf %q are %v when %v have left", topic, impl.TargetsOf(b, topic), s.gone)
				}
			}
		}
		gone += len(s.gone)
	}
	if heard < 1000 || gone < 200 {
		t.Fatalf("too few to tell: %d heard, %d gone", heard, gone)
	}
}

// An answer stays as it is when the Broker, or another answer made of it or of the answer itself, is written into.
func TestChangesAreNewMemory(t *testing.T) {
	for _, a := range someActs() {
		for _, start := range []impl.Broker{threeSubs(), withRing(withKeep(broker(sub("#", told(1)...)), keptUpTo(24)...), ring(32, toldUpTo(32)...))} {
			b := bareBroker(start)
			one := a.call(b)
			other, next := a.call(b), a.call(one.broker)
			keptOther, keptNext := bareBroker(other.broker), bareBroker(next.broker)
			checkOwnBroker(t, one.broker)
			checkOwnBroker(t, b)
			if !sameBroker(other.broker, keptOther) || !sameBroker(next.broker, keptNext) {
				t.Fatalf("%s: shared", a.name)
			}
		}
	}
}

func TestEnterAnyValues(t *testing.T) {
	r := rand.New(rand.NewSource(31))
	for range 4000 {
		b := anyBroker(r)
		if r.Intn(2) == 0 {
			b = drawnBroker(r)
		}
		for _, a := range []act{
			entering(anyText(r), anyNumber(r), anyNumber(r), anyNumber(r)), leaving(anyNumber(r)), closing(),
			committing(anyNumber(r), anyText(r), anyNumber(r)), handing(anyNumber(r), anyMsg(r)), fetching(anyNumber(r)),
		} {
			checkActByForm(t, b, a)
		}
	}
	long := strings.Repeat("a/", 1<<20) + "a"
	for _, b := range []impl.Broker{broker(), threeSubs()} {
		checkAsItIs(t, b, entering(long, 1, 1, 0), impl.RpBad)
		checkAsItIs(t, b, committing(0, long, 1), impl.RpBad)
		checkAsItIs(t, b, handing(0, msg(1, 0, long, 1)), impl.BxBad)
	}
	large := impl.Broker{MaxSubs: 100000, Subs: manySubs(100000, sub("a")), Trie: []impl.Knot{knot(""), knot("a", 0)}}
	for _, a := range someActs() {
		if got := a.call(large); !got.same(changed{code: impl.RpBad}) {
			t.Errorf("%s of 100000 Subs: %d", a.name, got.code)
		}
	}
}
