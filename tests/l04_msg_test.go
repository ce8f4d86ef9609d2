package tests

import (
	"fmt"
	"math"
	"math/rand"
	"regexp"
	"slices"
	"strings"
	"testing"

	"loop.example/g00776/impl"
)

// The numbers of a right message, as Seq, From and Body are written with a blank between: what the program's comparisons are held against.
var numbersForm = regexp.MustCompile(`\A(?:[1-9][0-9]{0,4}|100000) [0-7] (?:0|[1-9][0-9]{0,3})\z`)

func msg(seq, from int64, topic string, body int64) impl.Msg {
	return impl.Msg{Seq: seq, From: from, Topic: topic, Body: body}
}

func msgForm(m impl.Msg) bool {
	return numbersForm.MatchString(fmt.Sprint(m.Seq, m.From, m.Body)) && topicForm.MatchString(m.Topic)
}

// msgsForm asks of all pairs, not of neighbours alone.
func msgsForm(list []impl.Msg) bool {
	for i, m := range list {
		if !msgForm(m) {
			return false
		}
		for _, later := range list[i+1:] {
			if later.Seq <= m.Seq {
				return false
			}
		}
	}
	return true
}

// roomyMsgs tells the list with others in its spare room, where a write behind it is seen.
func roomyMsgs(list []impl.Msg) []impl.Msg {
	return append(slices.Clone(list), msg(-71, -72, "behind", -73), msg(3, 3, "it", 3))[:len(list)]
}

func wholeMsgs(list []impl.Msg) []impl.Msg {
	all := slices.Clone(list[:cap(list)])
	for i := range all {
		all[i].Topic = strings.Clone(all[i].Topic)
	}
	return all
}

func msgsOk(t *testing.T, list []impl.Msg) bool {
	t.Helper()
	given := roomyMsgs(list)
	before := wholeMsgs(given)
	first, second := impl.MsgsOk(given), impl.MsgsOk(given)
	if !slices.Equal(wholeMsgs(given), before) {
		t.Fatalf("the argument was written: %v", before)
	}
	if first != second || first != impl.MsgsOk(slices.Clip(slices.Clone(list))) {
		t.Fatalf("MsgsOk(%v): another answer at the same list", list)
	}
	return first
}

func checkMsgs(t *testing.T, want bool, list ...impl.Msg) {
	t.Helper()
	if got := msgsOk(t, list); got != want {
		t.Errorf("MsgsOk(%v) = %v, not %v", list, got, want)
	}
}

// checkMsg asks of the message, and of the list that has it alone.
func checkMsg(t *testing.T, want bool, m impl.Msg) {
	t.Helper()
	if got := impl.MsgOk(m); got != want {
		t.Errorf("MsgOk(%v) = %v, not %v", m, got, want)
	}
	checkMsgs(t, want, m)
}

// Numbers whose lowest bits alone would be a right Seq, From or Body are among these.
func farNumbers() []int64 {
	return []int64{
		math.MinInt64, math.MinInt64 + 1, math.MinInt64 + 7, -1 << 32, 1 - 1<<32, -100000, -10000, -9999, -8, -7, -2, -1,
		100001, 100002, 1 << 31, 1<<31 - 1, 1 << 32, 1<<32 + 1, 1<<32 + 7, 1<<40 + 1, math.MaxInt64 - 7, math.MaxInt64 - 1, math.MaxInt64,
	}
}

func wrongTopics() []string {
	return []string{
		// Filters.
		"+", "#", "a/+", "+/a", "a/#", "+/#", "a/+/b", "a/b/c/d/e/#", "+/+/+/+/+/+",
		// Neither.
		"", "/", "a/", "/a", "a//b", "A", "a/B", "a b", " a", "a ", "a-b", "a\n", "a\x00", "\xff", "a/\xc3", "\u00e9", "\u0161",
		"a/b/c/d/e/f/g", words(7, "abcdefghijkl"), "abcdefghijklm", "a/abcdefghijklm/b", words(5, "a") + "/abcdefghijklm", "a#", "a+", "#/a",
	}
}

func wrongMsgs() []impl.Msg {
	list := []impl.Msg{
		{},
		msg(0, 0, "a", 0), msg(100001, 0, "a", 0),
		msg(1, -1, "a", 0), msg(1, 8, "a", 0),
		msg(1, 0, "a", -1), msg(1, 0, "a", 10000),
		// All that may be wrong, together.
		msg(-1, -1, "", -1), msg(0, 8, "+", 10000),
	}
	for _, n := range farNumbers() {
		list = append(list, msg(n, 0, "a", 0), msg(1, n, "a", 0), msg(1, 0, "a", n), msg(n, n, "a", n))
	}
	for _, topic := range wrongTopics() {
		list = append(list, msg(1, 0, topic, 0), msg(100000, 7, topic, 9999))
	}
	return list
}

func TestMsgLimits(t *testing.T) {
	if impl.MaxSeq != 100000 || impl.MaxTasks != 8 || impl.MaxBody != 9999 {
		t.Fatal(impl.MaxSeq, impl.MaxTasks, impl.MaxBody)
	}
}

func TestOrdinaryMsgs(t *testing.T) {
	checkMsg(t, true, msg(1, 0, "news", 0))
	checkMsg(t, true, msg(17, 3, "news/sport", 42))
	checkMsg(t, true, msg(4711, 7, "news/sport/2026", 1))
	checkMsg(t, true, msg(99999, 1, "0/1/2", 9998))
	checkMsgs(t, true, msg(1, 0, "news", 5), msg(2, 1, "news", 5), msg(3, 0, "games", 0))
	checkMsgs(t, true, msg(4, 2, "news/sport", 9), msg(90, 2, "news", 8), msg(1234, 2, "a/b/c", 7), msg(99000, 2, "news", 6))
	checkMsgs(t, false, msg(1, 0, "news", 5), msg(3, 1, "news", 5), msg(2, 0, "games", 0))
}

func TestMsgNumberEdges(t *testing.T) {
	for _, c := range []struct {
		n               int64
		seq, from, body bool
	}{
		{-1, false, false, false},
		{0, false, true, true},
		{1, true, true, true},
		{2, true, true, true},
		{6, true, true, true},
		{7, true, true, true},
		{8, true, false, true},
		{9, true, false, true},
		{9998, true, false, true},
		{9999, true, false, true},
		{10000, true, false, false},
		{10001, true, false, false},
		{99999, true, false, false},
		{100000, true, false, false},
		{100001, false, false, false},
	} {
		checkMsg(t, c.seq, msg(c.n, 0, "a", 0))
		checkMsg(t, c.seq, msg(c.n, 7, "a/b", 9999))
		checkMsg(t, c.from, msg(1, c.n, "a", 0))
		checkMsg(t, c.from, msg(100000, c.n, "a/b", 9999))
		checkMsg(t, c.body, msg(1, 0, "a", c.n))
		checkMsg(t, c.body, msg(100000, 7, "a/b", c.n))
	}
	// Each number at its end, all together.
	checkMsg(t, true, msg(1, 0, "a", 0))
	checkMsg(t, true, msg(100000, 7, words(6, "abcdefghijkl"), 9999))
	for from := int64(-20); from < 20; from++ {
		checkMsg(t, from >= 0 && from < 8, msg(5, from, "a", 5))
	}
}

func TestMsgTopicEdges(t *testing.T) {
	for _, topic := range []string{
		"a", "z", "0", "9", "a/b", "abcdefghijkl", "0123456789az", "a/abcdefghijkl", "a/b/c/d/e/f", words(6, "abcdefghijkl"),
	} {
		checkMsg(t, true, msg(1, 0, topic, 0))
		checkMsg(t, true, msg(100000, 7, topic, 9999))
	}
	for n := 1; n <= 20; n++ {
		checkMsg(t, n <= 6, msg(1, 0, words(n, "a"), 1))
		checkMsg(t, n <= 12, msg(1, 0, strings.Repeat("z", n), 1))
	}
	for _, topic := range wrongTopics() {
		checkMsg(t, false, msg(1, 0, topic, 1))
	}
}

func TestWrongMsgs(t *testing.T) {
	for _, m := range wrongMsgs() {
		checkMsg(t, false, m)
	}
}

func TestFewMsgs(t *testing.T) {
	if !impl.MsgsOk(nil) || !impl.MsgsOk([]impl.Msg{}) || !impl.MsgsOk(make([]impl.Msg, 0, 5)) {
		t.Fatal("no message at all")
	}
	checkMsgs(t, true)
	checkMsgs(t, true, msg(1, 0, "a", 0))
	checkMsgs(t, true, msg(100000, 7, "a", 9999))
	checkMsgs(t, false, msg(0, 0, "a", 0))
	checkMsgs(t, false, msg(100001, 0, "a", 0))
}

func TestSeqsRise(t *testing.T) {
	for _, c := range []struct {
		seqs []int64
		rise bool
	}{
		{[]int64{1, 2}, true},
		{[]int64{1, 100000}, true},
		{[]int64{99999, 100000}, true},
		{[]int64{1, 2, 3}, true},
		{[]int64{5, 50, 500, 5000, 50000}, true},
		// Two that are the same.
		{[]int64{1, 1}, false},
		{[]int64{100000, 100000}, false},
		{[]int64{1, 1, 2}, false},
		{[]int64{1, 2, 2}, false},
		{[]int64{1, 2, 2, 3}, false},
		// They fall: all of them, at first, in the middle, last.
		{[]int64{2, 1}, false},
		{[]int64{100000, 1}, false},
		{[]int64{3, 2, 1}, false},
		{[]int64{2, 1, 3}, false},
		{[]int64{1, 3, 2}, false},
		{[]int64{1, 3, 2, 4}, false},
		{[]int64{1, 2, 4, 3}, false},
		// Not the same as its neighbour, but as an earlier one.
		{[]int64{1, 2, 1}, false},
		{[]int64{5, 9, 5, 9}, false},
		{[]int64{1, 2, 3, 1, 2, 3}, false},
	} {
		var list []impl.Msg
		for i, seq := range c.seqs {
			list = append(list, msg(seq, int64(i%8), "a", int64(i)))
		}
		checkMsgs(t, c.rise, list...)
	}
}

// Nothing but Seq is asked to rise: who tells, the topics and the bodies may come in any order, and again.
func TestSeqsAloneRise(t *testing.T) {
	checkMsgs(t, true, msg(1, 7, "z", 9999), msg(2, 3, "b/c", 50), msg(3, 0, "a", 0))
	checkMsgs(t, true, msg(1, 0, "a", 0), msg(2, 3, "b/c", 50), msg(3, 7, "z", 9999))
	checkMsgs(t, true, msg(1, 4, "a", 5), msg(2, 4, "a", 5), msg(3, 4, "a", 5))
	checkMsgs(t, false, msg(3, 0, "a", 0), msg(2, 3, "b/c", 50), msg(1, 7, "z", 9999))
	checkMsgs(t, false, msg(2, 0, "a", 0), msg(2, 7, "z", 9999))
}

func TestWrongMsgAmongOthers(t *testing.T) {
	right := func(seq int64) impl.Msg { return msg(seq, seq%8, "a/b", seq) }
	for _, wrong := range []impl.Msg{
		msg(50, -1, "a", 0), msg(50, 8, "a", 0), msg(50, 0, "a", -1), msg(50, 0, "a", 10000),
		msg(50, 0, "", 0), msg(50, 0, "+", 0), msg(50, 0, "a/#", 0), msg(50, 0, "a/b/c/d/e/f/g", 0), msg(50, 0, "abcdefghijklm", 0),
	} {
		checkMsgs(t, false, wrong)
		checkMsgs(t, false, wrong, right(60))
		checkMsgs(t, false, wrong, right(60), right(70))
		checkMsgs(t, false, right(10), wrong)
		checkMsgs(t, false, right(10), right(20), wrong)
		checkMsgs(t, false, right(10), wrong, right(60))
		checkMsgs(t, false, right(10), right(20), wrong, right(60), right(70))
		mended := msg(50, 5, "a", 5)
		checkMsgs(t, true, right(10), right(20), mended, right(60), right(70))
	}
	// Seqs that rise, and of which one is out of range: ahead or last, as it can't be in the middle.
	for _, seq := range []int64{math.MinInt64, -1, 0} {
		checkMsgs(t, false, msg(seq, 0, "a", 0), right(1))
		checkMsgs(t, false, msg(seq, 0, "a", 0), right(1), right(2))
	}
	for _, seq := range []int64{100001, 1 << 32, math.MaxInt64} {
		checkMsgs(t, false, right(1), msg(seq, 0, "a", 0))
		checkMsgs(t, false, right(1), right(2), msg(seq, 0, "a", 0))
	}
	// One in the middle whose Seq is none.
	for _, seq := range farNumbers() {
		checkMsgs(t, false, right(1), msg(seq, 0, "a", 0), right(3))
	}
}

// All lists of up to four of these, right and wrong ones.
func TestAllShortMsgLists(t *testing.T) {
	known := []impl.Msg{
		msg(1, 0, "a", 0), msg(2, 7, "b", 9999), msg(2, 1, "a/b", 3), msg(3, 2, "a", 1), msg(100000, 0, "a", 0),
		msg(0, 0, "a", 0), msg(2, 8, "a", 0), msg(3, 0, "+", 0), msg(2, 0, "a", -1), msg(100001, 0, "a", 0),
	}
	right := 0
	row := [][]impl.Msg{nil}
	for range 4 {
		var longer [][]impl.Msg
		for _, list := range row {
			for _, m := range known {
				longer = append(longer, append(slices.Clone(list), m))
			}
		}
		row = longer
		for _, list := range row {
			want := msgsForm(list)
			checkMsgs(t, want, list...)
			if want {
				right++
			}
		}
	}
	// Of five right ones two have one Seq: of one, two, three and four in order there are 5, 9, 7 and 2.
	if right != 5+9+7+2 {
		t.Fatalf("%d lists are right", right)
	}
}

func TestLongMsgLists(t *testing.T) {
	var all []impl.Msg
	for seq := int64(1); seq <= impl.MaxSeq; seq++ {
		all = append(all, msg(seq, seq%8, "a", seq%10000))
	}
	checkMsgs(t, true, all...)
	checkMsgs(t, false, append(slices.Clone(all), msg(100001, 0, "a", 0))...)
	checkMsgs(t, false, append(slices.Clone(all), msg(100000, 0, "a", 0))...)
	for _, i := range []int{0, 1, len(all) / 2, len(all) - 2, len(all) - 1} {
		list := slices.Clone(all)
		list[i].Body = 10000
		checkMsgs(t, false, list...)
		list = slices.Delete(slices.Clone(all), i, i+1)
		checkMsgs(t, true, list...)
		list[len(list)/2].Seq = list[len(list)/2-1].Seq
		checkMsgs(t, false, list...)
	}
}

func drawnMsg(r *rand.Rand) impl.Msg {
	topics := []string{"a", "a/b", "b7", "abcdefghijkl", "a/b/c/d/e/f"}
	m := msg(1+r.Int63n(100000), r.Int63n(8), topics[r.Intn(len(topics))], r.Int63n(10000))
	if r.Intn(3) == 0 {
		ends := []int64{1, 2, 99999, 100000}
		m.Seq = ends[r.Intn(len(ends))]
	}
	return m
}

// spoiltMsg tells a message with one thing of it changed, which makes it wrong most times.
func spoiltMsg(r *rand.Rand, m impl.Msg) impl.Msg {
	far := farNumbers()
	n := far[r.Intn(len(far))]
	switch r.Intn(3) {
	case 0:
		n = r.Int63n(20) - 10
	case 1:
		n = []int64{9990, 99990}[r.Intn(2)] + r.Int63n(20)
	}
	switch r.Intn(4) {
	case 0:
		m.Seq = n
	case 1:
		m.From = n
	case 2:
		m.Body = n
	case 3:
		m.Topic = anyText(r)
	}
	return m
}

func TestManyMsgs(t *testing.T) {
	r := rand.New(rand.NewSource(8))
	right, wrong := 0, 0
	for range 60000 {
		m := drawnMsg(r)
		checkMsg(t, true, m)
		m = spoiltMsg(r, m)
		want := msgForm(m)
		checkMsg(t, want, m)
		if want {
			right++
		} else {
			wrong++
		}
	}
	if right < 5000 || wrong < 20000 {
		t.Fatalf("too few to tell: %d right, %d wrong", right, wrong)
	}
}

// drawnMsgs tells right messages, in order for the most part.
func drawnMsgs(r *rand.Rand, most int) []impl.Msg {
	var list []impl.Msg
	for range r.Intn(most + 1) {
		list = append(list, drawnMsg(r))
	}
	slices.SortFunc(list, func(a, b impl.Msg) int { return int(a.Seq - b.Seq) })
	if r.Intn(4) > 0 {
		list = slices.CompactFunc(list, func(a, b impl.Msg) bool { return a.Seq == b.Seq })
	}
	return list
}

func TestManyMsgLists(t *testing.T) {
	r := rand.New(rand.NewSource(9))
	right, wrong, behind := 0, 0, 0
	for range 30000 {
		list := drawnMsgs(r, 8)
		if n := len(list); n > 0 && r.Intn(3) == 0 {
			i, j := r.Intn(n), r.Intn(n)
			list[i], list[j] = list[j], list[i]
		}
		if n := len(list); n > 0 && r.Intn(3) == 0 {
			i := r.Intn(n)
			list[i] = spoiltMsg(r, list[i])
		}
		want := msgsForm(list)
		checkMsgs(t, want, list...)
		if !want {
			wrong++
			continue
		}
		right++
		// What is right together is so one by one, and without any of it.
		for i, m := range list {
			checkMsg(t, true, m)
			checkMsgs(t, true, list[:i]...)
			checkMsgs(t, true, list[i:]...)
			checkMsgs(t, true, slices.Delete(slices.Clone(list), i, i+1)...)
		}
		// And with right ones behind it, just where the first of these has a Seq of more than the last one's.
		more := drawnMsgs(r, 3)
		if !msgsForm(more) || len(more) == 0 || len(list) == 0 {
			continue
		}
		follows := list[len(list)-1].Seq < more[0].Seq
		checkMsgs(t, follows, slices.Concat(list, more)...)
		if follows {
			behind++
		}
	}
	if right < 5000 || wrong < 5000 || behind < 500 {
		t.Fatalf("too few to tell: %d right, %d wrong, %d behind others", right, wrong, behind)
	}
}

func TestMsgAnyValues(t *testing.T) {
	r := rand.New(rand.NewSource(10))
	for range 20000 {
		list := make([]impl.Msg, r.Intn(4))
		for i := range list {
			list[i] = msg(int64(r.Uint64()), int64(r.Uint64())>>r.Intn(64), anyText(r), int64(r.Uint64())>>r.Intn(64))
			if r.Intn(2) == 0 {
				list[i].Seq = r.Int63n(200000) - 50000
			}
			if got, want := impl.MsgOk(list[i]), msgForm(list[i]); got != want {
				t.Fatalf("MsgOk(%v) = %v, not %v", list[i], got, want)
			}
		}
		checkMsgs(t, msgsForm(list), list...)
	}
	for _, topic := range []string{
		strings.Repeat("a", 1<<20),
		strings.Repeat("a/", 1<<20),
		strings.Repeat("/", 1<<20),
		strings.Repeat("\xff", 1<<20),
	} {
		if m := msg(1, 0, topic, 0); impl.MsgOk(m) || impl.MsgsOk([]impl.Msg{m}) {
			t.Fatalf("a topic of %d bytes", len(topic))
		}
	}
}
