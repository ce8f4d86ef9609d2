package tests

import (
	"fmt"
	"math"
	"math/rand"
	"slices"
	"strings"
	"testing"

	"loop.example/g00776/impl"
)

// keptOf tells right messages of these Topics, none with a Body of 0, whose Seqs fall.
func keptOf(topics ...string) []impl.Msg {
	var list []impl.Msg
	for i, topic := range topics {
		left := int64(len(topics) - i)
		list = append(list, msg(10*left, left%8, topic, 100+left))
	}
	return list
}

// keptUpTo tells a keep of this many Topics: t00, t01 and so on.
func keptUpTo(count int) []impl.Msg {
	var topics []string
	for i := range count {
		topics = append(topics, fmt.Sprintf("t%02d", i))
	}
	return keptOf(topics...)
}

// with tells the list with this one in the place of another.
func with(list []impl.Msg, i int, m impl.Msg) []impl.Msg {
	list = slices.Clone(list)
	list[i] = m
	return list
}

// The words of chapter 6 once more, asked of all pairs and done by a list: what the program's map is held against.
func keepForm(keep []impl.Msg) bool {
	for i, m := range keep {
		if !msgForm(m) || m.Body == 0 {
			return false
		}
		for _, later := range keep[i+1:] {
			if later.Topic <= m.Topic {
				return false
			}
		}
	}
	return len(keep) <= 24
}

func keptForm(keep []impl.Msg, m impl.Msg) ([]impl.Msg, bool) {
	if !keepForm(keep) {
		return nil, false
	}
	if !msgForm(m) {
		return keep, false
	}
	var next []impl.Msg
	for _, one := range keep {
		if one.Topic != m.Topic {
			next = append(next, one)
		}
	}
	if m.Body != 0 {
		next = append(next, m)
	}
	if len(next) > 24 {
		return keep, false
	}
	slices.SortFunc(next, func(a, b impl.Msg) int { return strings.Compare(a.Topic, b.Topic) })
	return next, true
}

// The Topics rise in a keep, so that to sort by Seq alone and leave those that have the same one as they are is to sort by both.
func keptForForm(keep []impl.Msg, filter string) []impl.Msg {
	if !keepForm(keep) || !filterForm.MatchString(filter) {
		return nil
	}
	form := matchForm(filter)
	var list []impl.Msg
	for _, m := range keep {
		if form.MatchString("/" + m.Topic) {
			list = append(list, m)
		}
	}
	slices.SortStableFunc(list, func(a, b impl.Msg) int { return int(a.Seq - b.Seq) })
	return list
}

// checkKeepCall makes the calls that checkRingCall makes of a Ring, whose Items are the keep here: the argument stays, its spare room too, and so do the other answers.
func checkKeepCall(t *testing.T, keep []impl.Msg, call func(keep []impl.Msg) ([]impl.Msg, bool)) ([]impl.Msg, bool) {
	t.Helper()
	a := checkRingCall(t, ring(0, keep...), func(r impl.Ring) ringAnswer {
		list, is := call(r.Items)
		return ringAnswer{ring(0, list...), is}
	})
	return a.ring.Items, a.is
}

func keepOk(t *testing.T, keep []impl.Msg) bool {
	t.Helper()
	_, is := checkKeepCall(t, keep, func(keep []impl.Msg) ([]impl.Msg, bool) { return nil, impl.KeepOk(keep) })
	return is
}

func kept(t *testing.T, keep []impl.Msg, m impl.Msg) ([]impl.Msg, bool) {
	t.Helper()
	return checkKeepCall(t, keep, func(keep []impl.Msg) ([]impl.Msg, bool) { return impl.Kept(keep, m) })
}

func keptFor(t *testing.T, keep []impl.Msg, filter string) []impl.Msg {
	t.Helper()
	list, _ := checkKeepCall(t, keep, func(keep []impl.Msg) ([]impl.Msg, bool) { return impl.KeptFor(keep, filter), false })
	return list
}

func checkKeep(t *testing.T, want bool, keep ...impl.Msg) {
	t.Helper()
	if got := keepOk(t, keep); got != want {
		t.Errorf("KeepOk(%v) = %v, not %v", keep, got, want)
	}
}

func checkKept(t *testing.T, keep []impl.Msg, m impl.Msg, want []impl.Msg, wantIs bool) {
	t.Helper()
	got, is := kept(t, keep, m)
	if is != wantIs || !slices.Equal(got, want) {
		t.Errorf("Kept(%v, %v) = %v, %v, not %v, %v", keep, m, got, is, want, wantIs)
	}
}

func checkKeptFor(t *testing.T, keep []impl.Msg, filter string, want ...impl.Msg) {
	t.Helper()
	if got := keptFor(t, keep, filter); !slices.Equal(got, want) {
		t.Errorf("KeptFor(%v, %q) = %v, not %v", keep, filter, got, want)
	}
}

func rightKeeps() [][]impl.Msg {
	list := [][]impl.Msg{
		nil,
		{msg(1, 0, "a", 1)},
		{msg(100000, 7, words(6, "abcdefghijkl"), 9999)},
		keptOf("a", "a/b", "a0", "aa", "b"),
		{msg(5, 3, "a", 7), msg(5, 3, "b", 7), msg(5, 3, "c", 7)},
	}
	for _, count := range []int{1, 2, 3, 22, 23, 24} {
		list = append(list, keptUpTo(count))
	}
	return list
}

// wrongMsgsWithBody tells wrong messages, none with a Body of 0, as that alone is wrong in a keep.
func wrongMsgsWithBody() []impl.Msg {
	list := wrongMsgs()
	for i, m := range list {
		if m.Body == 0 {
			list[i].Body = 5
		}
	}
	return list
}

func wrongKeeps() [][]impl.Msg {
	var list [][]impl.Msg
	for _, count := range []int{25, 26, 48, 100} {
		list = append(list, keptUpTo(count))
	}
	for _, m := range wrongMsgsWithBody() {
		list = append(list, []impl.Msg{m}, []impl.Msg{msg(1, 0, "0", 1), m}, with(keptUpTo(3), 1, m))
	}
	for _, count := range []int{1, 2, 3, 24} {
		for _, i := range []int{0, count / 2, count - 1} {
			cleared := keptUpTo(count)
			cleared[i].Body = 0
			list = append(list, cleared)
		}
	}
	return append(list,
		keptOf("a", "a"), keptOf("b", "a"), keptOf("a", "b", "a"), keptOf("a", "b", "b"), keptOf("ab", "a"), keptOf("a/b", "a"), keptOf("a0", "a/b"),
		// All that may be wrong, together.
		append(keptUpTo(25), msg(0, 8, "+", 10000), msg(1, 0, "a", 0)),
	)
}

func TestKeepLimit(t *testing.T) {
	if impl.MaxKeep != 24 {
		t.Fatal(impl.MaxKeep)
	}
}

func TestKeepSizes(t *testing.T) {
	for count := range 60 {
		checkKeep(t, count <= 24, keptUpTo(count)...)
	}
}

func TestEmptyKeeps(t *testing.T) {
	for _, keep := range [][]impl.Msg{nil, {}, make([]impl.Msg, 0, 5), keptUpTo(3)[:0]} {
		if !impl.KeepOk(keep) {
			t.Errorf("not right: %#v", keep)
		}
		m := msg(3, 2, "a", 1)
		if next, is := impl.Kept(keep, m); !is || !slices.Equal(next, []impl.Msg{m}) {
			t.Errorf("Kept(%#v, %v) = %v, %v", keep, m, next, is)
		}
		m.Body = 0
		if next, is := impl.Kept(keep, m); !is || len(next) != 0 {
			t.Errorf("Kept(%#v, %v) = %v, %v", keep, m, next, is)
		}
		m.Seq = 0
		if next, is := impl.Kept(keep, m); is || len(next) != 0 {
			t.Errorf("Kept(%#v, %v) = %v, %v", keep, m, next, is)
		}
		if list := impl.KeptFor(keep, "#"); len(list) != 0 {
			t.Errorf("KeptFor(%#v) = %v", keep, list)
		}
	}
}

func TestKeepTopicsRise(t *testing.T) {
	for _, c := range []struct {
		topics []string
		rise   bool
	}{
		{[]string{"a", "b"}, true},
		{[]string{"a", "b", "c"}, true},
		{[]string{"0", "9", "a", "z"}, true},
		// Two that are the same.
		{[]string{"a", "a"}, false},
		{[]string{"a/b", "a/b"}, false},
		{[]string{"a", "a", "b"}, false},
		{[]string{"a", "b", "b"}, false},
		// They fall: all of them, at first, in the middle, last.
		{[]string{"b", "a"}, false},
		{[]string{"c", "b", "a"}, false},
		{[]string{"b", "a", "c"}, false},
		{[]string{"a", "c", "b", "d"}, false},
		{[]string{"a", "c", "b"}, false},
		// Not the same as its neighbour, but as an earlier one.
		{[]string{"a", "b", "a"}, false},
		{[]string{"a", "b", "c", "a", "b", "c"}, false},
		// One that begins another one is ahead of it.
		{[]string{"a", "ab"}, true},
		{[]string{"ab", "a"}, false},
		{[]string{"a", "a/b"}, true},
		{[]string{"a/b", "a"}, false},
		{[]string{"a", "a/b", "a/b/c"}, true},
		{[]string{"a", "a/b/c", "a/b"}, false},
		// Byte by byte: a slash is ahead of all that a word goes on with, digits of letters, and what is short or few is not ahead by that.
		{[]string{"a/b", "a0"}, true},
		{[]string{"a0", "a/b"}, false},
		{[]string{"a/z", "aa"}, true},
		{[]string{"aa", "a/z"}, false},
		{[]string{"a9", "aa"}, true},
		{[]string{"a", "9"}, false},
		{[]string{"10", "9"}, true},
		{[]string{"9", "10"}, false},
		{[]string{"aa", "b"}, true},
		{[]string{"b", "aa"}, false},
		{[]string{"a/b/c/d/e/f", "b"}, true},
		{[]string{"b", "a/b/c/d/e/f"}, false},
	} {
		checkKeep(t, c.rise, keptOf(c.topics...)...)
	}
}

// Nothing but the Topics is asked to rise: Seqs, tellers and bodies come in any order, and again.
func TestKeepTopicsAloneRise(t *testing.T) {
	checkKeep(t, true, msg(1, 0, "a", 1), msg(2, 1, "b", 2), msg(3, 2, "c", 3))
	checkKeep(t, true, msg(3, 2, "a", 3), msg(2, 1, "b", 2), msg(1, 0, "c", 1))
	checkKeep(t, true, msg(7, 4, "a", 5), msg(7, 4, "b", 5), msg(7, 4, "c", 5))
	checkKeep(t, true, msg(100000, 7, "a", 9999), msg(1, 0, "b", 1), msg(100000, 7, "c", 9999))
	checkKeep(t, false, msg(1, 0, "c", 1), msg(2, 1, "b", 2), msg(3, 2, "a", 3))
	checkKeep(t, false, msg(1, 0, "a", 1), msg(2, 1, "a", 2))
}

func TestKeepBodies(t *testing.T) {
	for _, c := range []struct {
		body int64
		is   bool
	}{
		{math.MinInt64, false}, {-9999, false}, {-1, false}, {0, false}, {1, true}, {2, true}, {9998, true}, {9999, true}, {10000, false}, {1 << 32, false}, {1<<32 + 1, false}, {math.MaxInt64, false},
	} {
		checkKeep(t, c.is, msg(1, 0, "a", c.body))
		for _, count := range []int{2, 3, 24} {
			for i := range count {
				keep := keptUpTo(count)
				keep[i].Body = c.body
				checkKeep(t, c.is, keep...)
			}
		}
	}
}

func TestKeepsAreMsgs(t *testing.T) {
	for _, m := range wrongMsgsWithBody() {
		checkKeep(t, false, m)
		for i := range 3 {
			checkKeep(t, false, with(keptOf("0", "a", "z"), i, m)...)
		}
		checkKeep(t, false, with(keptUpTo(24), 23, m)...)
	}
	// Wrong but for its Topic, which is where it should be.
	for _, m := range []impl.Msg{msg(0, 0, "t01", 1), msg(100001, 0, "t01", 1), msg(1, -1, "t01", 1), msg(1, 8, "t01", 1), msg(1, 0, "t01", -1), msg(1, 0, "t01", 10000), msg(1, 0, "t01/+", 1), msg(1, 0, "t01/#", 1), msg(1, 0, "t01/", 1), msg(1, 0, "t01A", 1), msg(1, 0, "t01abcdefghij", 1)} {
		checkKeep(t, false, with(keptUpTo(3), 1, m)...)
		m.Seq, m.From, m.Topic, m.Body = 1, 0, "t01", 1
		checkKeep(t, true, with(keptUpTo(3), 1, m)...)
	}
}

func TestKeepOkByForm(t *testing.T) {
	for _, keep := range rightKeeps() {
		if !keepForm(keep) || !keepOk(t, keep) {
			t.Errorf("KeepOk(%v) = %v", keep, keepOk(t, keep))
		}
	}
	for _, keep := range wrongKeeps() {
		if keepForm(keep) || keepOk(t, keep) {
			t.Errorf("KeepOk(%v) = %v", keep, keepOk(t, keep))
		}
	}
}

// All lists of up to four of these, right and wrong ones.
func TestAllShortKeeps(t *testing.T) {
	known := []impl.Msg{
		msg(3, 0, "a", 1), msg(1, 7, "a/b", 9999), msg(1, 1, "a0", 3), msg(100000, 2, "b", 1),
		msg(4, 0, "a/b", 1), msg(4, 0, "a0", 0), msg(2, 8, "a/b", 1), msg(5, 0, "a/+", 1), msg(0, 0, "b", 1),
	}
	right := 0
	row := [][]impl.Msg{nil}
	for range 4 {
		var longer [][]impl.Msg
		for _, list := range row {
			for _, m := range known {
				longer = append(longer, append(slices.Clone(list), m))
			}
		}
		row = longer
		for _, list := range row {
			want := keepForm(list)
			checkKeep(t, want, list...)
			if want {
				right++
			}
		}
	}
	// Of five right ones two have one Topic: of one, two, three and four in order there are 5, 9, 7 and 2.
	if right != 5+9+7+2 {
		t.Fatalf("%d lists are right", right)
	}
}

func TestKeptOfNewTopics(t *testing.T) {
	keep := keptOf("b", "b/c", "d", "f")
	for _, c := range []struct {
		topic string
		place int
	}{
		{"a", 0}, {"0", 0}, {"a/z", 0}, {"azzzzzzzzzzz", 0},
		{"b/a", 1}, {"b/0/c", 1},
		{"b/c/d", 2}, {"b/c0", 2}, {"b/d", 2}, {"b0", 2}, {"ba", 2}, {"c", 2},
		{"d/a", 3}, {"e", 3},
		{"f/a", 4}, {"f0", 4}, {"ff", 4}, {"g", 4}, {"z", 4},
	} {
		// Its Seq says nothing of where it is: there are some with a lower one, and some with a greater one.
		for _, m := range []impl.Msg{msg(1, 0, c.topic, 1), msg(25, 3, c.topic, 42), msg(40, 5, c.topic, 7), msg(100000, 7, c.topic, 9999)} {
			checkKept(t, keep, m, slices.Insert(slices.Clone(keep), c.place, m), true)
			checkKept(t, nil, m, []impl.Msg{m}, true)
		}
	}
}

func TestKeptOfTopicsThatAreThere(t *testing.T) {
	for _, keep := range rightKeeps() {
		for i, one := range keep {
			for _, m := range []impl.Msg{
				msg(1, one.From, one.Topic, one.Body), msg(100000, one.From, one.Topic, one.Body), msg(one.Seq, (one.From+1)%8, one.Topic, one.Body), msg(one.Seq, one.From, one.Topic, 1), msg(one.Seq, one.From, one.Topic, 9999), msg(4711, 5, one.Topic, 4711), one,
			} {
				checkKept(t, keep, m, with(keep, i, m), true)
			}
		}
	}
}

func TestKeptClears(t *testing.T) {
	for _, keep := range rightKeeps() {
		for i, one := range keep {
			for _, m := range []impl.Msg{msg(one.Seq, one.From, one.Topic, 0), msg(1, 0, one.Topic, 0), msg(100000, 7, one.Topic, 0)} {
				checkKept(t, keep, m, slices.Delete(slices.Clone(keep), i, i+1), true)
			}
		}
		for _, topic := range []string{"0", "a/b/c", "az", "b/a", "q/r/s", "t00/a", "t001", "zz"} {
			checkKept(t, keep, msg(7, 3, topic, 0), keep, true)
		}
	}
	// Its Topic alone: neither what is below it nor what begins like it.
	keep := keptOf("a", "a/b", "a/b/c", "a0", "aa", "b")
	checkKept(t, keep, msg(9, 0, "a", 0), keep[1:], true)
	checkKept(t, keep, msg(9, 0, "a/b", 0), []impl.Msg{keep[0], keep[2], keep[3], keep[4], keep[5]}, true)
}

func TestKeptInFullKeep(t *testing.T) {
	full, short := keptUpTo(24), keptUpTo(23)
	for _, topic := range []string{"a", "t00/a", "t11/b", "t23a", "t24", "z"} {
		m := msg(50, 3, topic, 42)
		checkKept(t, full, m, full, false)
		next := append(slices.Clone(short), m)
		slices.SortFunc(next, func(a, b impl.Msg) int { return strings.Compare(a.Topic, b.Topic) })
		checkKept(t, short, m, next, true)
		// One to clear takes no room, be there something or not.
		m.Body = 0
		checkKept(t, full, m, full, true)
		checkKept(t, short, m, short, true)
	}
	for i, one := range full {
		checkKept(t, full, msg(50, 3, one.Topic, 42), with(full, i, msg(50, 3, one.Topic, 42)), true)
		without := slices.Delete(slices.Clone(full), i, i+1)
		checkKept(t, full, msg(50, 3, one.Topic, 0), without, true)
		// And there is room again.
		m := msg(51, 3, "z", 42)
		checkKept(t, without, m, append(without, m), true)
	}
}

func TestKeptRefusesWrongMsgs(t *testing.T) {
	for _, keep := range rightKeeps() {
		for _, m := range append(wrongMsgs(), wrongMsgsWithBody()...) {
			checkKept(t, keep, m, keep, false)
		}
		// Wrong but for its Topic, which is there: nothing of it is taken, nor cleared.
		for _, one := range keep {
			for _, m := range []impl.Msg{
				msg(0, 0, one.Topic, 1), msg(100001, 0, one.Topic, 1), msg(5, -1, one.Topic, 1), msg(5, 8, one.Topic, 1), msg(5, 0, one.Topic, -1), msg(5, 0, one.Topic, 10000),
				msg(0, 0, one.Topic, 0), msg(100001, 0, one.Topic, 0), msg(5, -1, one.Topic, 0), msg(5, 8, one.Topic, 0),
			} {
				checkKept(t, keep, m, keep, false)
			}
		}
	}
}

func TestNothingOfWrongKeeps(t *testing.T) {
	for _, keep := range wrongKeeps() {
		for _, m := range []impl.Msg{msg(50, 7, "news", 9999), msg(50, 7, "news", 0), msg(50, 0, "a", 1), msg(50, 0, "a", 0), {}, msg(50, 8, "a", 1), msg(50, 0, "#", 1), msg(0, 0, "a", 0), msg(50, 0, "a", 10000)} {
			checkKept(t, keep, m, nil, false)
		}
		// Not even one that would mend it.
		for _, one := range keep {
			checkKept(t, keep, msg(50, 0, one.Topic, 0), nil, false)
			checkKept(t, keep, msg(50, 0, one.Topic, 5), nil, false)
		}
		for _, filter := range []string{"#", "+", "a", "+/#", "", "A"} {
			checkKeptFor(t, keep, filter)
		}
	}
}

func TestKeptForByFilter(t *testing.T) {
	a, ab, abc, a0, b, bc := msg(30, 0, "a", 1), msg(10, 1, "a/b", 2), msg(60, 2, "a/b/c", 3), msg(20, 3, "a0", 4), msg(50, 4, "b", 5), msg(40, 5, "b/c", 6)
	keep := []impl.Msg{a, ab, abc, a0, b, bc}
	// All.
	checkKeptFor(t, keep, "#", ab, a0, a, bc, b, abc)
	checkKeptFor(t, keep, "+/#", ab, a0, a, bc, b, abc)
	// Some.
	checkKeptFor(t, keep, "+", a0, a, b)
	checkKeptFor(t, keep, "a/#", ab, a, abc)
	checkKeptFor(t, keep, "+/+", ab, bc)
	checkKeptFor(t, keep, "+/+/#", ab, bc, abc)
	checkKeptFor(t, keep, "+/c", bc)
	checkKeptFor(t, keep, "a/+/c", abc)
	checkKeptFor(t, keep, "b/#", bc, b)
	for _, m := range keep {
		checkKeptFor(t, keep, m.Topic, m)
	}
	// None.
	for _, filter := range []string{"c", "a/c", "aa", "c/#", "a/b/c/d", "+/+/+/+", "+/a", "a0/+", "0"} {
		checkKeptFor(t, keep, filter)
		checkKeptFor(t, nil, filter)
	}
	for _, filter := range []string{"#", "+", "a"} {
		checkKeptFor(t, nil, filter)
	}
}

func TestKeptForNoFilter(t *testing.T) {
	keep := keptOf("a", "a/b", "ab", "abcdefghijkl", "b")
	for _, filter := range []string{"", "/", "A", "a#", "a+", "a/", "/a", "a//b", "#/a", "#/#", "#/b", "a/#/b", "a b", "a\n", "\xff", "abcdefghijklm", "a/b/c/d/e/f/g", "a/b/c/d/e/f/#"} {
		checkKeptFor(t, keep, filter)
		checkKeptFor(t, keptUpTo(24), filter)
	}
}

func TestKeptForBySeqThenTopic(t *testing.T) {
	keep := []impl.Msg{msg(9, 7, "a", 1), msg(5, 6, "a/b", 9), msg(9, 5, "a0", 2), msg(5, 4, "b", 8), msg(1, 3, "c", 3), msg(9, 2, "c/d", 7), msg(5, 1, "d", 4)}
	checkKeptFor(t, keep, "#", keep[4], keep[1], keep[3], keep[6], keep[0], keep[2], keep[5])
	checkKeptFor(t, keep, "+", keep[4], keep[3], keep[6], keep[0], keep[2])
	checkKeptFor(t, keep, "a/#", keep[1], keep[0])
	checkKeptFor(t, keep, "+/+", keep[1], keep[5])
	// By numbers, not by how they are written.
	keep = []impl.Msg{msg(100000, 0, "a", 1), msg(10, 0, "b", 1), msg(9, 0, "c", 1), msg(99999, 0, "d", 1), msg(1, 0, "e", 1)}
	checkKeptFor(t, keep, "#", keep[4], keep[2], keep[1], keep[3], keep[0])
	// One Seq of all: the Topics rise, whoever told and whatever, and so again and again.
	full := keptUpTo(24)
	for i := range full {
		full[i].Seq = 4711
	}
	for range 100 {
		checkKeptFor(t, full, "#", full...)
	}
	// Two Seqs, in turn.
	var odd, even []impl.Msg
	for i := range full {
		full[i].Seq = int64(4711 - i%2)
		if i%2 == 0 {
			even = append(even, full[i])
		} else {
			odd = append(odd, full[i])
		}
	}
	for range 100 {
		checkKeptFor(t, full, "#", slices.Concat(odd, even)...)
	}
	// The Seqs fall while the Topics rise.
	full = keptUpTo(24)
	checkKeptFor(t, full, "t10", full[10])
	slices.Reverse(full)
	checkKeptFor(t, keptUpTo(24), "#", full...)
}

// lastOf goes back over all that was told: what was told last of each Topic, where there was something to tell.
func lastOf(all []impl.Msg) []impl.Msg {
	var last []impl.Msg
	known := map[string]bool{}
	for i := len(all) - 1; i >= 0; i-- {
		m := all[i]
		if !known[m.Topic] && m.Body != 0 {
			last = append(last, m)
		}
		known[m.Topic] = true
	}
	slices.SortFunc(last, func(a, b impl.Msg) int { return strings.Compare(a.Topic, b.Topic) })
	return last
}

func topicsToKeep() []string {
	list := append(topicsOf(3), "0", "a0", "a0/b", "ab", "zz", "abcdefghijkl", "a/b/c/a/b/c")
	slices.Sort(list)
	return list
}

// Right and wrong messages in any order, beside a plain list of all that was kept.
func TestKeepsByManySteps(t *testing.T) {
	r := rand.New(rand.NewSource(14))
	filters := append(filtersOf(3), "", "A", "abcdefghijkl", "a/b/c/#", "c/+")
	topics := topicsToKeep()
	put, replaced, cleared, idle, wrong, full, found := 0, 0, 0, 0, 0, 0, 0
	for range 300 {
		// From few topics the same one is drawn often; from many, the keep is full soon.
		known := topics
		if r.Intn(2) == 0 {
			at := r.Intn(len(topics) - 26)
			known = topics[at : at+2+r.Intn(24)]
		}
		// Where one is cleared as often as told, no keep of many topics is ever full.
		tells := 2 + r.Int63n(20)
		var keep, all []impl.Msg
		for range 80 {
			m := msg(1+r.Int63n(30), r.Int63n(8), known[r.Intn(len(known))], r.Int63n(tells))
			if r.Intn(10) == 0 {
				m = spoiltMsg(r, m)
			}
			there := slices.ContainsFunc(keep, func(one impl.Msg) bool { return one.Topic == m.Topic })
			fits := msgForm(m) && (m.Body == 0 || there || len(keep) < 24)
			before := keep
			var is bool
			keep, is = kept(t, keep, m)
			if is != fits || !is && !slices.Equal(keep, before) {
				t.Fatalf("Kept(%v, %v) = %v, %v", before, m, keep, is)
			}
			switch {
			case !is && msgForm(m):
				full++
			case !is:
				wrong++
			case m.Body == 0 && there:
				cleared++
			case m.Body == 0:
				idle++
			case there:
				replaced++
			default:
				put++
			}
			if is {
				all = append(all, m)
			}
			if want := lastOf(all); !slices.Equal(keep, want) || !impl.KeepOk(keep) {
				t.Fatalf("promise 6: %v, not %v", keep, want)
			}
			filter := filters[r.Intn(len(filters))]
			want := keptForForm(keep, filter)
			checkKeptFor(t, keep, filter, want...)
			found += len(want)
		}
	}
	for _, count := range []int{put, replaced, cleared, idle, wrong, full, found} {
		if count < 500 {
			t.Fatalf("too few to tell: %d put, %d replaced, %d cleared, %d idle, %d wrong, %d without room, %d found", put, replaced, cleared, idle, wrong, full, found)
		}
	}
}

// drawnKeep tells a keep, or one of which something was changed.
func drawnKeep(r *rand.Rand) []impl.Msg {
	topics := topicsToKeep()
	count := r.Intn(5)
	if r.Intn(4) == 0 {
		count = 22 + r.Intn(4)
	}
	at := r.Perm(len(topics))[:count]
	slices.Sort(at)
	var keep []impl.Msg
	for _, i := range at {
		keep = append(keep, msg(1+r.Int63n(10), r.Int63n(8), topics[i], 1+r.Int63n(9999)))
	}
	if count == 0 || r.Intn(3) > 0 {
		return keep
	}
	i, j := r.Intn(count), r.Intn(count)
	switch r.Intn(4) {
	case 0:
		keep[i], keep[j] = keep[j], keep[i]
	case 1:
		keep[i].Body = 0
	case 2:
		keep[i].Topic = keep[j].Topic
	case 3:
		keep[i] = spoiltMsg(r, keep[i])
	}
	return keep
}

func TestManyKeeps(t *testing.T) {
	r := rand.New(rand.NewSource(15))
	topics := topicsToKeep()
	filters := []string{"#", "a/#", "+", "a/+", "+/b/#", "b", "", "#/a", "A"}
	right, wrong, done, refused := 0, 0, 0, 0
	for range 20000 {
		keep := drawnKeep(r)
		want := keepForm(keep)
		checkKeep(t, want, keep...)
		if want {
			right++
		} else {
			wrong++
		}
		m := msg(1+r.Int63n(10), r.Int63n(8), topics[r.Intn(len(topics))], r.Int63n(3))
		if len(keep) > 0 && r.Intn(2) == 0 {
			m.Topic = keep[r.Intn(len(keep))].Topic
		}
		if r.Intn(8) == 0 {
			m = spoiltMsg(r, m)
		}
		next, is := keptForm(keep, m)
		checkKept(t, keep, m, next, is)
		if is {
			done++
		} else if want {
			refused++
		}
		filter := filters[r.Intn(len(filters))]
		checkKeptFor(t, keep, filter, keptForForm(keep, filter)...)
		if got, _ := impl.Kept(keep, m); want && !keepForm(got) {
			t.Fatalf("Kept(%v, %v) = %v", keep, m, got)
		}
	}
	if right < 5000 || wrong < 2000 || done < 5000 || refused < 1000 {
		t.Fatalf("too few to tell: %d right, %d wrong, %d kept, %d refused", right, wrong, done, refused)
	}
}

func TestKeepAnyValues(t *testing.T) {
	r := rand.New(rand.NewSource(16))
	for range 20000 {
		var keep []impl.Msg
		for range r.Intn(4) {
			keep = append(keep, msg(r.Int63n(100)-5, r.Int63n(9), anyText(r), int64(r.Uint64())>>r.Intn(64)))
		}
		if r.Intn(2) == 0 {
			slices.SortFunc(keep, func(a, b impl.Msg) int { return strings.Compare(a.Topic, b.Topic) })
		}
		checkKeep(t, keepForm(keep), keep...)
		m := msg(r.Int63n(200)-20, r.Int63n(12)-2, anyText(r), r.Int63n(12000)-1000)
		next, is := keptForm(keep, m)
		checkKept(t, keep, m, next, is)
		filter := anyText(r)
		checkKeptFor(t, keep, filter, keptForForm(keep, filter)...)
	}
	long := strings.Repeat("a/", 1<<20) + "a"
	checkKeep(t, false, msg(1, 0, long, 1))
	checkKept(t, keptUpTo(3), msg(1, 0, long, 1), keptUpTo(3), false)
	checkKeptFor(t, keptUpTo(3), long)
	var all []impl.Msg
	for i := range 100000 {
		all = append(all, msg(1, 0, fmt.Sprintf("%06d", i), 1))
	}
	checkKeep(t, false, all...)
	checkKept(t, all, msg(1, 0, "000000", 0), nil, false)
	checkKeptFor(t, all, "#")
}
