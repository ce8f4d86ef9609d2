package tests

import (
	"fmt"
	"math"
	"math/rand"
	"reflect"
	"regexp"
	"slices"
	"strings"
	"testing"

	"loop.example/g00776/impl"
)

// sub tells one who is Live at this filter, with these in the Queue of its Box.
func sub(filter string, queue ...impl.Msg) impl.Sub {
	return impl.Sub{Filter: filter, Box: box(16, impl.PlWait, queue...), Live: true}
}

// left tells that one when it has left.
func left(s impl.Sub) impl.Sub {
	s.Live, s.Box = false, shut(s.Box)
	return s
}

// shutOff tells that one when all was closed: it is Live, but its Box is Shut.
func shutOff(s impl.Sub) impl.Sub {
	s.Box = shut(s.Box)
	return s
}

// msgsIn tells all messages that there are, wherever they are.
func msgsIn(b impl.Broker) []impl.Msg {
	all := slices.Concat(b.Keep, b.Ring.Items)
	for _, s := range b.Subs {
		all = append(all, s.Box.Queue...)
	}
	return all
}

func liveRow(b impl.Broker) idRow {
	row := idRow{}
	for i, s := range b.Subs {
		if s.Live {
			row[s.Filter] = append(row[s.Filter], int64(i))
		}
	}
	return row
}

// settled tells the Broker with the Trie of its Subs, and with the least Seq that its messages allow.
func settled(b impl.Broker) impl.Broker {
	b.Trie, b.Seq = trieOf(liveRow(b)), 0
	for _, m := range msgsIn(b) {
		b.Seq = max(b.Seq, m.Seq)
	}
	return b
}

// broker tells a right Broker of these Subs, if they are right.
func broker(subs ...impl.Sub) impl.Broker {
	return settled(impl.Broker{MaxSubs: 100, Subs: subs, Ring: ring(32)})
}

func withSeq(b impl.Broker, seq int64) impl.Broker {
	b.Seq = seq
	return b
}

func withTrie(b impl.Broker, trie []impl.Knot) impl.Broker {
	b.Trie = trie
	return b
}

func withMaxSubs(b impl.Broker, most int64) impl.Broker {
	b.MaxSubs = most
	return b
}

func closed(b impl.Broker) impl.Broker {
	b.Closed = true
	return b
}

// manySubs tells this many, all Live at one filter.
func manySubs(count int, s impl.Sub) []impl.Sub { return slices.Repeat([]impl.Sub{s}, count) }

func sameBroker(a, b impl.Broker) bool {
	sameRest := a.MaxSubs == b.MaxSubs && a.Seq == b.Seq && a.Closed == b.Closed && sameTrie(a.Trie, b.Trie) && slices.Equal(a.Keep, b.Keep) && sameRing(a.Ring, b.Ring)
	return sameRest && slices.EqualFunc(a.Subs, b.Subs, func(x, y impl.Sub) bool {
		return x.Filter == y.Filter && x.Live == y.Live && sameBox(x.Box, y.Box)
	})
}

// The numbers of a right Broker, as MaxSubs and Seq are written with a blank between: what the program's comparisons are held against.
var brokerNumbersForm = regexp.MustCompile(`\A(?:[1-9][0-9]?|100) (?:0|[1-9][0-9]{0,4}|100000)\z`)

// The words of chapter 9 once more, by the one trie that is right for those who are Live: what the program's places are held against.
func brokerForm(b impl.Broker) bool {
	if !brokerNumbersForm.MatchString(fmt.Sprint(b.MaxSubs, b.Seq)) || len(b.Subs) > int(b.MaxSubs) {
		return false
	}
	for _, s := range b.Subs {
		mustBeShut := b.Closed || !s.Live
		if !filterForm.MatchString(s.Filter) || !boxForm(s.Box) || mustBeShut && !s.Box.Shut {
			return false
		}
	}
	for _, m := range msgsIn(b) {
		if m.Seq > b.Seq {
			return false
		}
	}
	return keepForm(b.Keep) && ringForm(b.Ring) && sameTrie(b.Trie, trieOf(liveRow(b)))
}

func targetsForm(b impl.Broker, topic string) []int64 {
	if !brokerForm(b) || !topicForm.MatchString(topic) {
		return nil
	}
	var list []int64
	for i, s := range b.Subs {
		if s.Live && matchForm(s.Filter).MatchString("/"+topic) {
			list = append(list, int64(i))
		}
	}
	return list
}

func liveForm(b impl.Broker) int64 {
	if !brokerForm(b) {
		return -1
	}
	count := int64(0)
	for _, s := range b.Subs {
		count += codeOf(s.Live)
	}
	return count
}

// With others in all spare rooms, a write behind any list is seen.
func roomyBroker(b impl.Broker) impl.Broker {
	var subs []impl.Sub
	for _, s := range b.Subs {
		s.Box.Queue = roomyMsgs(s.Box.Queue)
		subs = append(subs, s)
	}
	subs = append(subs, sub("behind", told(9)...), left(sub("it")))
	b.Subs, b.Trie = subs[:len(b.Subs)], roomy(b.Trie)
	b.Keep, b.Ring.Items = roomyMsgs(b.Keep), roomyMsgs(b.Ring.Items)
	return b
}

func wholeBroker(b impl.Broker) impl.Broker {
	var subs []impl.Sub
	for _, s := range b.Subs[:cap(b.Subs)] {
		s.Filter, s.Box.Queue = strings.Clone(s.Filter), wholeMsgs(s.Box.Queue)
		subs = append(subs, s)
	}
	b.Subs, b.Trie = subs, whole(b.Trie)
	b.Keep, b.Ring.Items = wholeMsgs(b.Keep), wholeMsgs(b.Ring.Items)
	return b
}

func bareBroker(b impl.Broker) impl.Broker {
	b.Subs = slices.Clip(slices.Clone(b.Subs))
	for i, s := range b.Subs {
		b.Subs[i].Box.Queue = slices.Clip(slices.Clone(s.Box.Queue))
	}
	b.Trie = slices.Clip(slices.Clone(b.Trie))
	for i, k := range b.Trie {
		b.Trie[i].Ids = slices.Clip(slices.Clone(k.Ids))
	}
	b.Keep, b.Ring.Items = slices.Clip(slices.Clone(b.Keep)), slices.Clip(slices.Clone(b.Ring.Items))
	return b
}

type brokerAnswer struct {
	ids   []int64
	count int64
}

func (a brokerAnswer) same(b brokerAnswer) bool {
	return a.count == b.count && slices.Equal(a.ids, b.ids)
}

// checkBrokerCall makes a call twice at a Broker with spare rooms, writes all over the first answer in between, spare room too, and then makes it at one without: the argument stays, and so do the other answers.
func checkBrokerCall(t *testing.T, b impl.Broker, call func(b impl.Broker) brokerAnswer) brokerAnswer {
	t.Helper()
	given := roomyBroker(b)
	before := wholeBroker(given)
	first := call(given)
	kept := brokerAnswer{slices.Clone(first.ids), first.count}
	answer := first.ids[:cap(first.ids)]
	for i := range answer {
		answer[i] = -91
	}
	if !reflect.DeepEqual(wholeBroker(given), before) {
		t.Fatalf("the argument was written, or is shared: %v", before)
	}
	second := call(given)
	if !second.same(kept) {
		t.Fatalf("%v at first, then %v", kept, second)
	}
	if !reflect.DeepEqual(wholeBroker(given), before) {
		t.Fatalf("the argument was written: %v", before)
	}
	if third := call(bareBroker(b)); !third.same(kept) {
		t.Fatalf("%v with spare rooms, %v without", kept, third)
	}
	return second
}

func brokerOk(t *testing.T, b impl.Broker) bool {
	t.Helper()
	return checkBrokerCall(t, b, func(b impl.Broker) brokerAnswer { return brokerAnswer{count: codeOf(impl.BrokerOk(b))} }).count == 1
}

func targetsOf(t *testing.T, b impl.Broker, topic string) []int64 {
	t.Helper()
	return checkBrokerCall(t, b, func(b impl.Broker) brokerAnswer { return brokerAnswer{ids: impl.TargetsOf(b, topic)} }).ids
}

func liveIn(t *testing.T, b impl.Broker) int64 {
	t.Helper()
	return checkBrokerCall(t, b, func(b impl.Broker) brokerAnswer { return brokerAnswer{count: impl.LiveIn(b)} }).count
}

func checkBroker(t *testing.T, want bool, b impl.Broker) {
	t.Helper()
	if got := brokerOk(t, b); got != want {
		t.Errorf("BrokerOk(%v) = %v, not %v", b, got, want)
	}
}

func checkTargets(t *testing.T, b impl.Broker, topic string, want ...int64) {
	t.Helper()
	if got := targetsOf(t, b, topic); !slices.Equal(got, want) {
		t.Errorf("TargetsOf(%v, %q) = %v, not %v", b, topic, got, want)
	}
}

func checkLive(t *testing.T, want int64, b impl.Broker) {
	t.Helper()
	if got := liveIn(t, b); got != want {
		t.Errorf("LiveIn(%v) = %d, not %d", b, got, want)
	}
}

func checkBrokerByForm(t *testing.T, b impl.Broker, topics ...string) {
	t.Helper()
	checkBroker(t, brokerForm(b), b)
	checkLive(t, liveForm(b), b)
	for _, topic := range topics {
		checkTargets(t, b, topic, targetsForm(b, topic)...)
	}
}

// threeSubs tells a Broker of two who are Live at one filter, with one who left between them, a keep and a ring.
func threeSubs() impl.Broker {
	b := broker(sub("a/+", told(3, 4)...), left(sub("b", told(9)...)), sub("a/+"))
	b.Keep, b.Ring = keptOf("a", "a/b"), ring(2, told(11, 12)...)
	return settled(b)
}

func rightBrokers() []impl.Broker {
	many := broker()
	for i := range 100 {
		s := sub([]string{"a", "a/+", "#", "b/#", "+"}[i%5], told(int64(i)+1)...)
		if i%3 == 0 {
			s = left(s)
		}
		many.Subs = append(many.Subs, s)
	}
	many.Keep, many.Ring = keptUpTo(24), ring(32, toldUpTo(32)...)
	full := broker(manySubs(100, sub("#", toldUpTo(16)...))...)
	three := threeSubs()
	return []impl.Broker{
		broker(), withMaxSubs(broker(), 1), closed(broker()), withSeq(broker(), 100000),
		broker(sub("a")), broker(left(sub("a"))), broker(shutOff(sub("a"))), closed(broker(shutOff(sub("a")))), closed(broker(left(sub("a")))),
		withMaxSubs(broker(sub("+/a/#", told(5, 2)...)), 1),
		broker(sub("a"), sub("b"), sub("a")), broker(left(sub("a")), sub("a")), broker(sub("a"), left(sub("a"))),
		closed(broker(shutOff(sub("a", told(2)...)), left(sub("b", told(3)...)), shutOff(sub("#")))),
		three, withSeq(three, 100000), withMaxSubs(three, 3), settled(many), withSeq(settled(many), 4711), full, broker(manySubs(100, left(sub("a")))...),
	}
}

// wrongBrokers tells Brokers that would be right but for one thing.
func wrongBrokers() []impl.Broker {
	three := threeSubs()
	list := []impl.Broker{
		{}, {MaxSubs: 1}, {Trie: impl.NewTrie()}, withTrie(broker(), nil), withTrie(three, nil),
		withMaxSubs(broker(), 0), withMaxSubs(broker(), 101), withMaxSubs(broker(), -1), withMaxSubs(three, 2),
		withMaxSubs(broker(manySubs(101, left(sub("a")))...), 101), broker(manySubs(101, left(sub("a")))...),
		withSeq(three, three.Seq-1), withSeq(three, -1), withSeq(three, 100001), withSeq(broker(), -1), withSeq(broker(), 100001),
		closed(three), closed(broker(sub("a"))), closed(broker(left(sub("a")), sub("a"))),
		withTrie(three, impl.NewTrie()), withTrie(broker(), three.Trie),
		broker(left(sub("A"))), broker(left(sub(""))), broker(left(sub("#/a"))), broker(sub("a//b")), broker(sub("")),
	}
	for i := range three.Subs {
		for _, s := range []impl.Sub{{}, {Filter: "a/+", Live: true}, {Filter: "b", Box: shut(box(1, 5))}, {Filter: "b", Box: box(1, impl.PlWait)}, {Box: shut(box(1, impl.PlWait))}} {
			b := three
			b.Subs = slices.Clone(three.Subs)
			b.Subs[i] = s
			list = append(list, b, withTrie(b, trieOf(liveRow(b))))
		}
	}
	for i, b := range slices.Repeat([]impl.Broker{three}, 4) {
		b.Keep = [][]impl.Msg{keptOf("b", "a"), {msg(0, 0, "a", 1)}, {msg(1, 0, "a", 0)}, keptUpTo(25)}[i]
		list = append(list, withSeq(b, 100000))
		b = three
		b.Ring = []impl.Ring{ring(1, told(1, 2)...), ring(33), ring(-1), ring(2, told(2, 1)...)}[i]
		list = append(list, withSeq(b, 100000))
	}
	return list
}

func TestBrokerMaxSubsEdges(t *testing.T) {
	for _, c := range []struct {
		most        int64
		none, three bool
	}{
		{math.MinInt64, false, false}, {-1 << 32, false, false}, {1 - 1<<32, false, false}, {-100, false, false}, {-1, false, false}, {0, false, false},
		{1, true, false}, {2, true, false}, {3, true, true}, {4, true, true}, {99, true, true}, {100, true, true},
		{101, false, false}, {102, false, false}, {1 << 32, false, false}, {1<<32 + 50, false, false}, {math.MaxInt64, false, false},
	} {
		checkBroker(t, c.none, withMaxSubs(broker(), c.most))
		checkBroker(t, c.none, closed(withMaxSubs(broker(), c.most)))
		checkBroker(t, c.three, withMaxSubs(threeSubs(), c.most))
	}
}

// No Subs, up to just MaxSubs of them, and more; who left is still one of them.
func TestBrokerSubsUpToMaxSubs(t *testing.T) {
	for _, most := range []int64{-1, 0, 1, 2, 3, 99, 100, 101, 200} {
		for _, count := range []int64{0, 1, 2, 3, 4, 98, 99, 100, 101, 102} {
			want := most >= 1 && most <= 100 && count <= most
			gone := manySubs(int(count), left(sub("a")))
			checkBroker(t, want, withMaxSubs(broker(gone...), most))
			checkBroker(t, want, closed(withMaxSubs(broker(gone...), most)))
			checkBroker(t, want, withMaxSubs(broker(manySubs(int(count), sub("a"))...), most))
			if count > 0 {
				checkBroker(t, want, withMaxSubs(broker(append([]impl.Sub{sub("a")}, gone[1:]...)...), most))
			}
		}
	}
}

func TestBrokerTakesNilForEmpty(t *testing.T) {
	for _, list := range [][]impl.Msg{nil, {}, make([]impl.Msg, 0, 5), toldUpTo(3)[:0]} {
		for _, subs := range [][]impl.Sub{nil, {}, make([]impl.Sub, 0, 5), manySubs(3, sub("A"))[:0]} {
			b := impl.Broker{MaxSubs: 1, Subs: subs, Trie: []impl.Knot{{Ids: make([]int64, 0, 3)}}, Keep: list, Ring: impl.Ring{Items: list}}
			if !impl.BrokerOk(b) || impl.LiveIn(b) != 0 || len(impl.TargetsOf(b, "a")) != 0 {
				t.Errorf("not right, or has somebody: %#v", b)
			}
			b.Subs = append(subs[:0:0], impl.Sub{Filter: "a", Box: impl.Box{Cap: 1, Policy: impl.PlWait, Queue: list}, Live: true})
			b.Trie = []impl.Knot{{Ids: []int64{}}, knot("a", 0)}
			if !impl.BrokerOk(b) || impl.LiveIn(b) != 1 || !slices.Equal(impl.TargetsOf(b, "a"), []int64{0}) {
				t.Errorf("not right, or not of one: %#v", b)
			}
		}
	}
}

func TestBrokerFilters(t *testing.T) {
	for _, filter := range append(filtersOf(3), "abcdefghijkl", "a/b/c/d/e/f", "+/+/+/+/+/#", words(6, "abcdefghijkl")) {
		for _, s := range []impl.Sub{sub(filter), left(sub(filter)), shutOff(sub(filter))} {
			checkBroker(t, true, broker(s))
			checkBroker(t, true, broker(sub("a"), s))
			checkBroker(t, true, broker(left(sub(filter)), s, sub("b")))
		}
	}
	for _, filter := range []string{"", "/", "A", "a#", "a+", "a/", "/a", "a//b", "#/a", "a/#/b", "a b", "a\n", "\xff", "abcdefghijklm", "a/b/c/d/e/f/g", "a/b/c/d/e/f/#", "##", "++"} {
		// Nothing else is wrong with one who left; of one who is Live no trie is right.
		checkBroker(t, false, broker(left(sub(filter))))
		checkBroker(t, false, broker(sub("a"), left(sub(filter))))
		checkBroker(t, false, broker(left(sub(filter)), sub("a")))
		checkBroker(t, false, closed(broker(left(sub(filter)))))
		checkBroker(t, false, broker(sub(filter)))
		checkBroker(t, false, withTrie(broker(sub(filter)), impl.NewTrie()))
		checkBroker(t, false, withTrie(broker(sub(filter)), []impl.Knot{knot(""), knot(filter, 0)}))
	}
}

func TestBrokerBoxes(t *testing.T) {
	check := func(want bool, s impl.Sub) {
		t.Helper()
		for _, subs := range [][]impl.Sub{{s}, {sub("b"), s}, {s, left(sub("b"))}} {
			checkBroker(t, want, withSeq(broker(subs...), 100000))
		}
	}
	for _, b := range rightBoxes() {
		check(true, impl.Sub{Filter: "a", Box: b, Live: true})
		check(b.Shut, impl.Sub{Filter: "a", Box: b})
	}
	for _, b := range append([]impl.Box{{}}, spoiltAlone()...) {
		for _, live := range []bool{false, true} {
			check(false, impl.Sub{Filter: "a", Box: b, Live: live})
			check(false, impl.Sub{Filter: "a", Box: shut(b), Live: live})
		}
	}
}

// Who is not Live has a Box that is Shut; who is Live may have one, be all Closed or not.
func TestBrokerShutWhereNotLive(t *testing.T) {
	for _, queue := range [][]impl.Msg{nil, told(5, 2)} {
		for i := range 3 {
			for kind := range 8 {
				isLive, isShut, isClosed := kind&1 > 0, kind&2 > 0, kind&4 > 0
				s := sub("a/b", queue...)
				s.Live, s.Box.Shut = isLive, isShut
				subs := []impl.Sub{shutOff(sub("#")), left(sub("a/b"))}
				b := broker(slices.Insert(subs, i, s)...)
				b.Closed = isClosed
				checkBroker(t, isShut || isLive && !isClosed, b)
			}
		}
	}
}

func TestBrokerClosed(t *testing.T) {
	// Without Subs, and with all Boxes Shut, whoever is Live: Closed or not.
	for _, subs := range [][]impl.Sub{
		nil, {shutOff(sub("a"))}, {left(sub("a"))}, {shutOff(sub("a", told(1, 2)...)), left(sub("b", told(3)...))}, manySubs(100, shutOff(sub("#"))), manySubs(100, left(sub("#"))),
	} {
		checkBroker(t, true, broker(subs...))
		checkBroker(t, true, closed(broker(subs...)))
		checkLive(t, liveForm(broker(subs...)), closed(broker(subs...)))
		// With one that is not, wherever it is.
		for _, i := range []int{0, len(subs) / 2, len(subs) - 1} {
			if len(subs) == 0 {
				break
			}
			some := slices.Clone(subs)
			some[i] = sub("a", told(7)...)
			checkBroker(t, true, broker(some...))
			checkBroker(t, false, closed(broker(some...)))
			checkLive(t, -1, closed(broker(some...)))
		}
	}
}

func TestBrokerTriesThatAreNotRight(t *testing.T) {
	for _, trie := range wrongTries() {
		for _, b := range append(rightBrokers(), broker(sub("a"), sub("a"), sub("b"))) {
			checkBroker(t, false, withTrie(b, trie))
			checkLive(t, -1, withTrie(b, trie))
		}
	}
	// Those who are Live are all in it, but it is not right.
	one := broker(sub("a/b"))
	for _, trie := range [][]impl.Knot{
		{knot("a/b", 0)}, {knot(""), knot("a/b", 0)}, {knot(""), knot("a"), knot("a/b", 0), knot("b")}, {knot(""), knot("a"), knot("a/b", 0), knot("a/c")},
		{knot(""), knot("a"), knot("a/b", 0, 0)}, {knot(""), knot("a"), knot("a/b", 0), knot("a/b")}, {knot("a"), knot("a/b", 0)}, {knot(""), knot("a/b", 0), knot("a")},
	} {
		checkBroker(t, false, withTrie(one, trie))
	}
	// So it is of those who left alone: nothing but the first Knot.
	for _, trie := range [][]impl.Knot{nil, {}, {knot("", 0)}, {knot(""), knot("")}, {knot(""), knot("a")}} {
		checkBroker(t, false, withTrie(broker(left(sub("a"))), trie))
		checkBroker(t, false, withTrie(broker(), trie))
	}
}

func TestBrokerTriesOfTheLive(t *testing.T) {
	b := broker(sub("a/+"), left(sub("b")), sub("a/+"), sub("#"))
	checkBroker(t, true, withTrie(b, []impl.Knot{knot(""), knot("#", 3), knot("a"), knot("a/+", 0, 2)}))
	for _, trie := range [][]impl.Knot{
		// It lacks a Filter, or a number at one, of somebody who is Live.
		{knot("")},
		{knot(""), knot("#", 3)},
		{knot(""), knot("a"), knot("a/+", 0, 2)},
		{knot(""), knot("#", 3), knot("a"), knot("a/+", 0)},
		{knot(""), knot("#", 3), knot("a"), knot("a/+", 2)},
		// It has one of somebody who is not Live.
		{knot(""), knot("#", 3), knot("a"), knot("a/+", 0, 2), knot("b", 1)},
		{knot(""), knot("#", 3), knot("a"), knot("a/+", 0, 1, 2)},
		{knot(""), knot("#", 1, 3), knot("a"), knot("a/+", 0, 2)},
		// It has a number that nobody has.
		{knot(""), knot("#", 3, 4), knot("a"), knot("a/+", 0, 2)},
		{knot(""), knot("#", 3), knot("a"), knot("a/+", 0, 2, 99)},
		{knot(""), knot("#", 3), knot("a"), knot("a/+", 0, 2), knot("c", 4)},
		{knot(""), knot("#", 4), knot("a"), knot("a/+", 0, 2)},
		// It has a number at another Filter: too, or instead.
		{knot(""), knot("#", 0, 3), knot("a"), knot("a/+", 0, 2)},
		{knot(""), knot("#", 3), knot("a", 0), knot("a/+", 0, 2)},
		{knot(""), knot("#", 3), knot("a"), knot("a/+", 0, 2), knot("b", 0)},
		{knot(""), knot("#", 0), knot("a"), knot("a/+", 2, 3)},
		{knot(""), knot("#", 3), knot("a"), knot("a/+", 0), knot("a/b", 2)},
		{knot(""), knot("#", 3), knot("a"), knot("a/#", 0, 2)},
		{knot(""), knot("#", 3), knot("+"), knot("+/+", 0, 2)},
		{knot(""), knot("+", 3), knot("a"), knot("a/+", 0, 2)},
	} {
		if !trieForm(trie) {
			t.Fatalf("%v is wrong by itself", trie)
		}
		checkBroker(t, false, withTrie(b, trie))
		checkLive(t, -1, withTrie(b, trie))
		checkTargets(t, withTrie(b, trie), "a/b")
	}
	// The one at a word is not at a sign that matches it, nor the other way round.
	checkBroker(t, false, withTrie(broker(sub("a")), []impl.Knot{knot(""), knot("+", 0)}))
	checkBroker(t, false, withTrie(broker(sub("+")), []impl.Knot{knot(""), knot("a", 0)}))
	checkBroker(t, false, withTrie(broker(sub("#")), []impl.Knot{knot(""), knot("+"), knot("+/#", 0)}))
	// Whose Box is Shut is in it as long as it is Live.
	checkBroker(t, true, closed(broker(shutOff(sub("a")))))
	checkBroker(t, false, withTrie(closed(broker(shutOff(sub("a")))), impl.NewTrie()))
	checkBroker(t, false, withTrie(broker(shutOff(sub("a"))), impl.NewTrie()))
	checkBroker(t, false, withTrie(closed(broker(left(sub("a")))), []impl.Knot{knot(""), knot("a", 0)}))
	// The Filters do not rise with the numbers: the last number is at the first one.
	back := broker(sub("z"), sub("b/+"), sub("a0"), sub("a/b"), sub("+"), sub("#"))
	checkBroker(t, true, withTrie(back, []impl.Knot{knot(""), knot("#", 5), knot("+", 4), knot("a"), knot("a/b", 3), knot("a0", 2), knot("b"), knot("b/+", 1), knot("z", 0)}))
	checkBroker(t, false, withTrie(back, []impl.Knot{knot(""), knot("#", 0), knot("+", 1), knot("a"), knot("a/b", 2), knot("a0", 3), knot("b"), knot("b/+", 4), knot("z", 5)}))
}

// Two at one of two filters or at each, Live or not, against all tries of these and one that nobody has.
func TestAllSmallBrokers(t *testing.T) {
	filters := []string{"+", "a"}
	right := 0
	for who := range 16 {
		subs := []impl.Sub{sub(filters[who&1]), sub(filters[who>>1&1])}
		for i := range subs {
			if who>>(2+i)&1 > 0 {
				subs[i] = left(subs[i])
			}
		}
		b := broker(subs...)
		for places := range 64 {
			row := idRow{}
			for k := range 6 {
				if places>>k&1 > 0 {
					row[filters[k/3]] = append(row[filters[k/3]], int64(k%3))
				}
			}
			want := reflect.DeepEqual(row, liveRow(b))
			right += int(codeOf(want))
			one := withTrie(b, trieOf(row))
			checkBroker(t, want, one)
			checkLive(t, liveForm(one), one)
		}
	}
	if right != 16 {
		t.Fatalf("%d are right", right)
	}
}

func TestBrokerKeepsAndRings(t *testing.T) {
	for _, b := range []impl.Broker{broker(), threeSubs(), closed(broker(shutOff(sub("#"))))} {
		b.Seq = 100000
		for _, keep := range rightKeeps() {
			one := b
			one.Keep = keep
			checkBroker(t, true, one)
		}
		for _, keep := range wrongKeeps() {
			one := b
			one.Keep = keep
			checkBroker(t, false, one)
		}
		for _, r := range rightRings() {
			one := b
			one.Ring = r
			checkBroker(t, true, one)
		}
		for _, r := range wrongRings() {
			one := b
			one.Ring = r
			checkBroker(t, false, one)
		}
	}
}

func TestBrokerSeqEdges(t *testing.T) {
	for _, c := range []struct {
		seq int64
		is  bool
	}{
		{math.MinInt64, false}, {-1 << 32, false}, {-100000, false}, {-2, false}, {-1, false}, {0, true}, {1, true}, {2, true}, {99999, true}, {100000, true},
		{100001, false}, {100002, false}, {1 << 32, false}, {1<<32 + 1, false}, {math.MaxInt64, false},
	} {
		for _, b := range []impl.Broker{broker(), closed(broker()), broker(sub("a")), broker(left(sub("a")), sub("#"))} {
			checkBroker(t, c.is, withSeq(b, c.seq))
		}
		checkBroker(t, c.is && c.seq >= 12, withSeq(threeSubs(), c.seq))
	}
}

// withMsg tells Brokers that have this one, each at another place, with others that are not later beside it.
func withMsg(m impl.Msg) []impl.Broker {
	first := msg(1, 0, "0", 1)
	var list []impl.Broker
	for _, keep := range [][]impl.Msg{{m}, {first, m}, {m, msg(1, 0, "z", 1)}, {first, m, msg(1, 0, "z", 1)}} {
		b := broker()
		b.Keep = keep
		list = append(list, b)
	}
	for _, items := range [][]impl.Msg{{m}, {first, m}} {
		b := broker()
		b.Ring.Items = items
		list = append(list, b)
	}
	for _, queue := range [][]impl.Msg{{m}, {first, m}, {m, first}, {first, m, first}} {
		s := sub("a", queue...)
		list = append(list, broker(s), broker(left(s)), broker(shutOff(s)), closed(broker(shutOff(s))), broker(sub("#"), s), broker(s, sub("#")), broker(sub("a", first), s, left(sub("b", first))))
	}
	return list
}

func TestBrokerSeqOfMsgs(t *testing.T) {
	for _, seq := range []int64{2, 3, 50, 99998, 99999, 100000} {
		for _, b := range withMsg(msg(seq, 3, "m", 42)) {
			for _, c := range []struct {
				seq int64
				is  bool
			}{{0, false}, {1, false}, {seq - 1, false}, {seq, true}, {seq + 1, seq < 100000}, {100000, true}, {100001, false}} {
				checkBroker(t, c.is, withSeq(b, c.seq))
			}
		}
	}
	// One is as late as another one in each place, and one is later in one of them.
	b := broker(sub("a", told(7)...))
	b.Keep, b.Ring.Items, b.Seq = []impl.Msg{msg(7, 0, "a", 1)}, told(7), 7
	checkBroker(t, true, b)
	for i, one := range []impl.Broker{b, b, b} {
		later := msg(8, 0, "b", 1)
		switch i {
		case 0:
			one.Keep = []impl.Msg{later}
		case 1:
			one.Ring.Items = []impl.Msg{later}
		case 2:
			one.Subs = []impl.Sub{sub("a", later)}
		}
		checkBroker(t, false, one)
		checkBroker(t, true, withSeq(one, 8))
	}
}

func TestBrokerOkByForm(t *testing.T) {
	for _, b := range rightBrokers() {
		if !brokerForm(b) || !brokerOk(t, b) {
			t.Errorf("BrokerOk(%v) = %v", b, brokerOk(t, b))
		}
		checkBrokerByForm(t, b, "a", "a/b", "b", "", "#")
	}
	for _, b := range wrongBrokers() {
		if brokerForm(b) || brokerOk(t, b) {
			t.Errorf("BrokerOk(%v) = %v", b, brokerOk(t, b))
		}
	}
}

func newBroker(t *testing.T, subs, ring int64) (impl.Broker, bool) {
	t.Helper()
	first, is := impl.NewBroker(subs, ring)
	kept := wholeBroker(first)
	checkOwn(t, first.Trie)
	for i := range first.Subs[:cap(first.Subs)] {
		first.Subs[:cap(first.Subs)][i] = sub("written")
	}
	for _, list := range [][]impl.Msg{first.Keep[:cap(first.Keep)], first.Ring.Items[:cap(first.Ring.Items)]} {
		for i := range list {
			list[i] = msg(1, 0, "written", 1)
		}
	}
	second, isAgain := impl.NewBroker(subs, ring)
	if isAgain != is || !reflect.DeepEqual(wholeBroker(second), kept) {
		t.Fatalf("NewBroker(%d, %d) = %v, %v at first, then %v, %v", subs, ring, kept, is, second, isAgain)
	}
	return second, is
}

func checkNewBroker(t *testing.T, subs, most int64, want bool) {
	t.Helper()
	got, is := newBroker(t, subs, most)
	wantBroker := impl.Broker{}
	if want {
		wantBroker = impl.Broker{MaxSubs: subs, Trie: []impl.Knot{{}}, Ring: impl.Ring{Cap: most}}
	}
	if is != want || !sameBroker(got, wantBroker) || brokerOk(t, got) != want {
		t.Errorf("NewBroker(%d, %d) = %v, %v, not %v, %v", subs, most, got, is, wantBroker, want)
	}
}

func TestNewBrokers(t *testing.T) {
	subs := append(farNumbers(), 0, 1, 2, 3, 10, 50, 98, 99, 100, 101, 102, 200)
	rings := append(farNumbers(), 0, 1, 2, 16, 31, 32, 33, 34, 64, 100)
	for _, n := range subs {
		for _, most := range rings {
			checkNewBroker(t, n, most, n >= 1 && n <= 100 && most >= 0 && most <= 32)
		}
	}
	for n := int64(-2); n <= 103; n++ {
		for most := int64(-2); most <= 35; most++ {
			got, is := impl.NewBroker(n, most)
			if want := n >= 1 && n <= 100 && most >= 0 && most <= 32; is != want || impl.BrokerOk(got) != want {
				t.Errorf("NewBroker(%d, %d) = %v, %v", n, most, got, is)
			}
		}
	}
}

// promise 9: a new broker is right and has nobody.
func TestNewBrokersHaveNobody(t *testing.T) {
	topics := append(topicsOf(3), "abcdefghijkl", "a/b/c/d/e/f", words(6, "abcdefghijkl"))
	topics = append(topics, wrongTopics()...)
	for _, n := range []int64{1, 2, 10, 99, 100} {
		for _, most := range []int64{0, 1, 8, 31, 32} {
			b, is := newBroker(t, n, most)
			if !is || !brokerOk(t, b) {
				t.Fatalf("promise 9: NewBroker(%d, %d) = %v, %v", n, most, b, is)
			}
			checkLive(t, 0, b)
			for _, topic := range topics {
				checkTargets(t, b, topic)
			}
		}
	}
	for _, c := range [][2]int64{{0, 0}, {101, 32}, {1, -1}, {100, 33}, {-1, -1}} {
		b, _ := impl.NewBroker(c[0], c[1])
		checkLive(t, -1, b)
		checkTargets(t, b, "a")
	}
}

func TestTargets(t *testing.T) {
	b := broker(sub("news"), sub("news/+"), left(sub("news/+")), sub("#"), sub("news/+"), sub("games/#"), left(sub("games")), sub("+"))
	checkTargets(t, b, "news", 0, 3, 7)
	checkTargets(t, b, "news/sport", 1, 3, 4)
	checkTargets(t, b, "games", 3, 5, 7)
	checkTargets(t, b, "games/chess/blitz", 3, 5)
	checkTargets(t, b, "else", 3, 7)
	checkTargets(t, b, "else/where", 3)
	// Nobody.
	some := broker(sub("a/b"), left(sub("c")), left(sub("#")), sub("b/+"))
	for _, topic := range []string{"a", "b", "c", "a/c", "a/b/c", "b/a/c", "ab", "0"} {
		checkTargets(t, some, topic)
	}
	// One.
	checkTargets(t, some, "a/b", 0)
	checkTargets(t, some, "b/b", 3)
	// One who left and one who stays, at one filter.
	checkTargets(t, broker(left(sub("a")), sub("a")), "a", 1)
	checkTargets(t, broker(sub("a"), left(sub("a"))), "a", 0)
	checkTargets(t, broker(left(sub("a")), left(sub("a"))), "a")
	checkTargets(t, broker(left(sub("a")), sub("a"), left(sub("a")), sub("a"), left(sub("a"))), "a", 1, 3)
	// Rising, though the filters are in another order.
	checkTargets(t, broker(sub("a"), sub("+"), sub("#"), sub("a/#"), sub("+/#"), sub("a")), "a", 0, 1, 2, 3, 4, 5)
	// Who is Live with a Box that is Shut, as all are when all is Closed.
	checkTargets(t, closed(broker(shutOff(sub("a")), left(sub("a")), shutOff(sub("#")))), "a", 0, 2)
	checkTargets(t, broker(shutOff(sub("a")), sub("a")), "a", 0, 1)
	// A full Box, and what is in it, makes no difference.
	full := sub("a", toldUpTo(16)...)
	checkTargets(t, broker(full, sub("b"), full), "a", 0, 2)
	var all []int64
	for i := range int64(100) {
		all = append(all, i)
	}
	checkTargets(t, broker(manySubs(100, sub("a/#"))...), "a", all...)
}

func TestTargetsOfNoTopic(t *testing.T) {
	b := broker(sub("#"), sub("+"), sub("a"), sub("+/#"), sub("a/+"), sub("a/#"), sub("a/b/c/d/e/#"))
	for _, topic := range wrongTopics() {
		checkTargets(t, b, topic)
		checkTargets(t, broker(), topic)
	}
	checkTargets(t, b, "a", 0, 1, 2, 3, 5)
}

func TestNothingOfWrongBrokers(t *testing.T) {
	for _, b := range wrongBrokers() {
		checkLive(t, -1, b)
		for _, topic := range []string{"a", "a/b", "b", "", "#", "A"} {
			checkTargets(t, b, topic)
		}
	}
}

func TestLiveIn(t *testing.T) {
	// Nobody, some, all.
	checkLive(t, 0, broker())
	checkLive(t, 0, closed(broker()))
	checkLive(t, 0, broker(left(sub("a"))))
	checkLive(t, 0, broker(manySubs(100, left(sub("a")))...))
	checkLive(t, 1, broker(sub("a")))
	checkLive(t, 1, broker(left(sub("a")), sub("a")))
	checkLive(t, 1, broker(sub("a"), left(sub("b")), left(sub("c"))))
	checkLive(t, 2, threeSubs())
	checkLive(t, 3, broker(sub("a"), sub("a"), sub("#")))
	checkLive(t, 100, broker(manySubs(100, sub("a"))...))
	// Who is Live stays so when all is Closed.
	checkLive(t, 2, closed(broker(shutOff(sub("a")), left(sub("a")), shutOff(sub("b")))))
	checkLive(t, 2, broker(shutOff(sub("a")), left(sub("a")), sub("b")))
	checkLive(t, 100, closed(broker(manySubs(100, shutOff(sub("a")))...)))
	for count := range 101 {
		subs := slices.Concat(manySubs(count, sub("a/+")), manySubs(100-count, left(sub("a/+"))))
		checkLive(t, int64(count), broker(subs...))
		slices.Reverse(subs)
		checkLive(t, int64(count), broker(subs...))
	}
}

// Those whom TargetsOf tells are just those who are Live and whose Filter Matches, rising.
func TestTargetsByMatches(t *testing.T) {
	filters := append(filtersOf(3), "abcdefghijkl", "a/b/c/#", "c/+", "c")
	topics := append(topicsOf(4), "abcdefghijkl", "a/b/c/a/b/c")
	r := rand.New(rand.NewSource(23))
	for range 20 {
		var subs []impl.Sub
		for range 1 + r.Intn(100) {
			s := sub(filters[r.Intn(len(filters))])
			if r.Intn(3) == 0 {
				s = left(s)
			}
			subs = append(subs, s)
		}
		b := broker(subs...)
		for _, topic := range topics {
			var want []int64
			for i, s := range subs {
				if s.Live && impl.Matches(s.Filter, topic) {
					want = append(want, int64(i))
				}
			}
			if got := impl.TargetsOf(b, topic); !slices.Equal(got, want) {
				t.Fatalf("TargetsOf(%v, %q) = %v, not %v", b, topic, got, want)
			}
		}
	}
}

// drawnRight draws until what is drawn is right.
func drawnRight[T any](r *rand.Rand, draw func(r *rand.Rand) T, isRight func(one T) bool) T {
	for {
		if one := draw(r); isRight(one) {
			return one
		}
	}
}

// drawnBroker tells a right Broker.
func drawnBroker(r *rand.Rand) impl.Broker {
	filters := []string{"a", "a/b", "+", "a/+", "#", "+/#", "a/#", "b7", "abcdefghijkl", "a/b/c/d/e/#"}
	b := impl.Broker{Closed: r.Intn(5) == 0}
	for range r.Intn(6) {
		s := impl.Sub{Filter: filters[r.Intn(len(filters))], Box: drawnRight(r, drawnBox, boxForm), Live: r.Intn(4) > 0}
		s.Box.Shut = s.Box.Shut || b.Closed || !s.Live
		b.Subs = append(b.Subs, s)
	}
	b.MaxSubs = max(1, int64(len(b.Subs)+r.Intn(3)))
	if r.Intn(4) == 0 {
		b.MaxSubs = 100
	}
	if r.Intn(2) == 0 {
		b.Keep = drawnRight(r, drawnKeep, keepForm)
	}
	b.Ring = drawnRight(r, drawnRing, ringForm)
	b = settled(b)
	if r.Intn(3) == 0 {
		b.Seq += r.Int63n(100001 - b.Seq)
	}
	return b
}

// spoiltBroker tells a Broker with one thing of it changed, which makes it wrong most times.
func spoiltBroker(r *rand.Rand, b impl.Broker) impl.Broker {
	b = bareBroker(b)
	if n := len(b.Subs); n > 0 && r.Intn(2) == 0 {
		s := &b.Subs[r.Intn(n)]
		switch r.Intn(5) {
		case 0:
			s.Live = !s.Live
		case 1:
			s.Box.Shut = !s.Box.Shut
		case 2:
			s.Box = spoiltBox(r, s.Box)
		case 3:
			s.Filter = []string{"a", "+", "#", anyText(r)}[r.Intn(4)]
		case 4:
			b.Subs = append(b.Subs, *s)
		}
		return b
	}
	far := farNumbers()
	switch r.Intn(7) {
	case 0:
		b.MaxSubs = far[r.Intn(len(far))]
	case 1:
		b.MaxSubs = int64(r.Intn(8) - 1)
	case 2:
		b.Seq += int64(r.Intn(3) - 1)
	case 3:
		b.Closed = !b.Closed
	case 4:
		b.Trie = spoilt(r, b.Trie)
	case 5:
		b.Keep = drawnKeep(r)
	case 6:
		b.Ring = drawnRing(r)
	}
	return b
}

func TestManyBrokers(t *testing.T) {
	r := rand.New(rand.NewSource(24))
	topics := []string{"a", "a/b", "b7", "a/c", "a/b/c/d/e/f", "abcdefghijkl", "A", "#"}
	right, wrong, some, nobody := 0, 0, 0, 0
	for range 6000 {
		b := drawnBroker(r)
		checkBroker(t, true, b)
		topic := topics[r.Intn(len(topics))]
		checkBrokerByForm(t, b, topic)
		if len(targetsForm(b, topic)) > 0 {
			some++
		} else {
			nobody++
		}
		b = spoiltBroker(r, b)
		checkBrokerByForm(t, b, topic)
		if brokerForm(b) {
			right++
		} else {
			wrong++
		}
	}
	if right < 500 || wrong < 2000 || some < 1000 || nobody < 1000 {
		t.Fatalf("too few to tell: %d right, %d wrong, %d with targets, %d with none", right, wrong, some, nobody)
	}
}

// Tries that are right, of one who came or left more or less than the Broker has.
func TestManyTriesOfBrokers(t *testing.T) {
	r := rand.New(rand.NewSource(25))
	filters := []string{"a", "a/b", "+", "a/+", "#", "+/#"}
	right, wrong := 0, 0
	for range 6000 {
		b := drawnBroker(r)
		for range r.Intn(3) {
			filter, id := filters[r.Intn(len(filters))], int64(r.Intn(len(b.Subs)+2))
			if r.Intn(2) == 0 {
				b.Trie, _ = impl.WithId(b.Trie, filter, id)
			} else {
				b.Trie, _ = impl.WithoutId(b.Trie, filter, id)
			}
		}
		checkBrokerByForm(t, b, "a", "a/b")
		if brokerForm(b) {
			right++
		} else {
			wrong++
		}
	}
	if right < 1000 || wrong < 1000 {
		t.Fatalf("too few to tell: %d right, %d wrong", right, wrong)
	}
}

// An answer stays as it is when the Broker, or another answer, is written into.
func TestTargetsAreNewMemory(t *testing.T) {
	b := broker(manySubs(50, sub("a"))...)
	one, other := impl.TargetsOf(b, "a"), impl.TargetsOf(b, "a")
	for i := range one {
		one[i] = -1
	}
	for _, k := range b.Trie {
		for i := range k.Ids {
			k.Ids[i] = -2
		}
	}
	for i, id := range other {
		if id != int64(i) {
			t.Fatalf("shared: %v", other)
		}
	}
	first, _ := impl.NewBroker(5, 5)
	second, _ := impl.NewBroker(5, 5)
	first.Trie[0] = knot("written", 1)
	if !impl.BrokerOk(second) {
		t.Fatalf("shared: %v", second)
	}
}

func anyBroker(r *rand.Rand) impl.Broker {
	b := impl.Broker{MaxSubs: anyNumber(r), Seq: anyNumber(r), Ring: impl.Ring{Cap: anyNumber(r)}, Closed: r.Intn(2) == 0}
	for range r.Intn(3) {
		b.Subs = append(b.Subs, impl.Sub{Filter: anyText(r), Box: anyBox(r), Live: r.Intn(2) == 0})
		b.Trie = append(b.Trie, knot(anyText(r), make([]int64, r.Intn(3))...))
		b.Keep = append(b.Keep, anyMsg(r))
		b.Ring.Items = append(b.Ring.Items, anyMsg(r))
	}
	if r.Intn(2) == 0 {
		b.Trie = trieOf(liveRow(b))
	}
	return b
}

func TestBrokerAnyValues(t *testing.T) {
	r := rand.New(rand.NewSource(26))
	for range 10000 {
		checkBrokerByForm(t, anyBroker(r), anyText(r))
		n, most := anyNumber(r), anyNumber(r)
		checkNewBroker(t, n, most, n >= 1 && n <= 100 && most >= 0 && most <= 32)
	}
	long := strings.Repeat("a/", 1<<20) + "a"
	checkTargets(t, broker(sub("#")), long)
	checkBroker(t, false, broker(left(sub(long))))
	checkBroker(t, false, withTrie(broker(), []impl.Knot{knot(""), knot(long, 0)}))
	for _, most := range []int64{100, 100000, math.MaxInt64} {
		b := withTrie(impl.Broker{MaxSubs: most, Subs: manySubs(100000, sub("a"))}, []impl.Knot{knot(""), knot("a", 0)})
		if impl.BrokerOk(b) || impl.LiveIn(b) != -1 || len(impl.TargetsOf(b, "a")) != 0 {
			t.Errorf("right with 100000 Subs, and MaxSubs %d", most)
		}
	}
	var trie []impl.Knot
	for i := range 100000 {
		trie = append(trie, knot(fmt.Sprintf("%06d", i), 0))
	}
	if b := withTrie(broker(sub("000000")), append(impl.NewTrie(), trie...)); impl.BrokerOk(b) || len(impl.TargetsOf(b, "000000")) != 0 {
		t.Error("right with 100000 Knots")
	}
}
