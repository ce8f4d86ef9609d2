package tests

import (
	"math"
	"math/rand"
	"reflect"
	"regexp"
	"slices"
	"strings"
	"testing"

	"loop.example/g00776/impl"
)

type idRow map[string][]int64

func knot(path string, ids ...int64) impl.Knot { return impl.Knot{Path: path, Ids: ids} }

func sameTrie(a, b []impl.Knot) bool {
	return slices.EqualFunc(a, b, func(x, y impl.Knot) bool {
		return x.Path == y.Path && slices.Equal(x.Ids, y.Ids)
	})
}

func frontOf(path string) string {
	return path[:max(0, strings.LastIndex(path, "/"))]
}

// The words of chapter 3 once more, each asked of the whole list: what the program's links are held against.
func trieForm(trie []impl.Knot) bool {
	if len(trie) == 0 || trie[0].Path != "" || len(trie[0].Ids) > 0 {
		return false
	}
	has := func(asked func(path string) bool) bool {
		return slices.ContainsFunc(trie, func(k impl.Knot) bool { return asked(k.Path) })
	}
	for i, k := range trie[1:] {
		if trie[i].Path >= k.Path || !filterForm.MatchString(k.Path) || !idsForm(k.Ids) {
			return false
		}
		if !has(func(path string) bool { return path == frontOf(k.Path) }) {
			return false
		}
		if len(k.Ids) == 0 && !has(func(path string) bool { return path != "" && frontOf(path) == k.Path }) {
			return false
		}
	}
	return true
}

func idsForm(ids []int64) bool {
	for i, id := range ids {
		if id < 0 || id > 99 || i > 0 && ids[i-1] >= id {
			return false
		}
	}
	return true
}

// trieOf tells the one right trie that has these Ids at these filters.
func trieOf(row idRow) []impl.Knot {
	paths := map[string]bool{"": true}
	for filter, ids := range row {
		for path := filter; len(ids) > 0 && path != ""; path = frontOf(path) {
			paths[path] = true
		}
	}
	var trie []impl.Knot
	for path := range paths {
		trie = append(trie, knot(path, slices.Sorted(slices.Values(row[path]))...))
	}
	slices.SortFunc(trie, func(a, b impl.Knot) int { return strings.Compare(a.Path, b.Path) })
	return trie
}

// With these numbers in the spare rooms, a write behind a list is seen.
func roomyIds(ids []int64) []int64 {
	list := append(slices.Clone(ids), -71, -72, -73)
	return list[:len(ids)]
}

func roomy(trie []impl.Knot) []impl.Knot {
	var list []impl.Knot
	for _, k := range trie {
		list = append(list, knot(k.Path, roomyIds(k.Ids)...))
	}
	list = append(list, knot("behind", roomyIds([]int64{-74})...), knot("it"))
	return list[:len(trie)]
}

func whole(trie []impl.Knot) []impl.Knot {
	var list []impl.Knot
	for _, k := range trie[:cap(trie)] {
		list = append(list, knot(strings.Clone(k.Path), slices.Clone(k.Ids[:cap(k.Ids)])...))
	}
	return list
}

// checkOwn writes over all of an answer, spare rooms too: no list of it is seen to change by what is written into another one.
func checkOwn(t *testing.T, answer []impl.Knot) {
	t.Helper()
	for i := range answer {
		ids := answer[i].Ids[:cap(answer[i].Ids)]
		for j := range ids {
			ids[j] = int64(1000 + i)
		}
	}
	for i := range answer {
		for _, id := range answer[i].Ids[:cap(answer[i].Ids)] {
			if id != int64(1000+i) {
				t.Fatalf("Knots %d and %d share a list", i, id-1000)
			}
		}
	}
	for i := range answer[:cap(answer)] {
		answer[:cap(answer)][i] = knot("written", 1)
	}
}

type trieAnswer struct {
	trie []impl.Knot
	is   bool
}

func (a trieAnswer) same(b trieAnswer) bool { return a.is == b.is && sameTrie(a.trie, b.trie) }

// checkCall makes a call twice at a trie with spare rooms, and writes all over the first answer in between: the argument stays, and so does the second answer.
func checkCall(t *testing.T, trie []impl.Knot, call func(trie []impl.Knot) trieAnswer) trieAnswer {
	t.Helper()
	given := roomy(trie)
	before := whole(given)
	first := call(given)
	kept := trieAnswer{whole(first.trie[:len(first.trie):len(first.trie)]), first.is}
	for i := range kept.trie {
		kept.trie[i].Ids = kept.trie[i].Ids[:len(first.trie[i].Ids)]
	}
	checkOwn(t, first.trie)
	if !reflect.DeepEqual(whole(given), before) {
		t.Fatalf("the argument was written, or is shared: %v", before)
	}
	second := call(given)
	if !second.same(kept) {
		t.Fatalf("%v at first, then %v", kept, second)
	}
	if !reflect.DeepEqual(whole(given), before) {
		t.Fatalf("the argument was written: %v", before)
	}
	return second
}

func withId(t *testing.T, trie []impl.Knot, filter string, id int64) ([]impl.Knot, bool) {
	t.Helper()
	a := checkCall(t, trie, func(trie []impl.Knot) trieAnswer {
		list, is := impl.WithId(trie, filter, id)
		return trieAnswer{list, is}
	})
	return a.trie, a.is
}

func withoutId(t *testing.T, trie []impl.Knot, filter string, id int64) ([]impl.Knot, bool) {
	t.Helper()
	a := checkCall(t, trie, func(trie []impl.Knot) trieAnswer {
		list, is := impl.WithoutId(trie, filter, id)
		return trieAnswer{list, is}
	})
	return a.trie, a.is
}

func idsFor(t *testing.T, trie []impl.Knot, topic string) []int64 {
	t.Helper()
	a := checkCall(t, trie, func(trie []impl.Knot) trieAnswer {
		return trieAnswer{[]impl.Knot{knot("", impl.IdsFor(trie, topic)...)}, true}
	})
	return a.trie[0].Ids
}

func trieOk(t *testing.T, trie []impl.Knot) bool {
	t.Helper()
	return checkCall(t, trie, func(trie []impl.Knot) trieAnswer { return trieAnswer{nil, impl.TrieOk(trie)} }).is
}

func checkWith(t *testing.T, trie []impl.Knot, filter string, id int64, want []impl.Knot, wantIs bool) {
	t.Helper()
	got, is := withId(t, trie, filter, id)
	if is != wantIs || !sameTrie(got, want) {
		t.Errorf("WithId(%v, %q, %d) = %v, %v, not %v, %v", trie, filter, id, got, is, want, wantIs)
	}
}

func checkWithout(t *testing.T, trie []impl.Knot, filter string, id int64, want []impl.Knot, wantIs bool) {
	t.Helper()
	got, is := withoutId(t, trie, filter, id)
	if is != wantIs || !sameTrie(got, want) {
		t.Errorf("WithoutId(%v, %q, %d) = %v, %v, not %v, %v", trie, filter, id, got, is, want, wantIs)
	}
}

func checkIdsFor(t *testing.T, trie []impl.Knot, topic string, want ...int64) {
	t.Helper()
	if got := idsFor(t, trie, topic); !slices.Equal(got, want) {
		t.Errorf("IdsFor(%v, %q) = %v, not %v", trie, topic, got, want)
	}
}

func rightTries() [][]impl.Knot {
	return [][]impl.Knot{
		{knot("")},
		{knot(""), knot("a", 0)},
		{knot(""), knot("a", 99)},
		{knot(""), knot("a", 0, 1, 50, 98, 99)},
		{knot(""), knot("#", 5), knot("+", 5), knot("a", 5)},
		{knot(""), knot("a"), knot("a/b", 1)},
		{knot(""), knot("a", 2), knot("a/b", 1)},
		{knot(""), knot("a"), knot("a/b"), knot("a/b/c", 3)},
		{knot(""), knot("a"), knot("a/#", 1), knot("a/+", 2), knot("a/b", 3)},
		{knot(""), knot("+"), knot("+/+"), knot("+/+/#", 7), knot("a", 1)},
		// A slash is ahead of whatever a word goes on with.
		{knot(""), knot("a", 1), knot("a/b", 1), knot("a0", 1), knot("aa", 1)},
		{knot(""), knot("a"), knot("a/z", 1), knot("a0"), knot("a0/b", 2)},
		{knot(""), knot("a"), knot("a/b"), knot("a/b/c"), knot("a/b/c/d"), knot("a/b/c/d/e"), knot("a/b/c/d/e/f", 1)},
		{knot(""), knot("abcdefghijkl", 1)},
	}
}

func wrongTries() [][]impl.Knot {
	return [][]impl.Knot{
		nil,
		{},
		// The first Knot.
		{knot("", 1)},
		{knot("", 1), knot("a", 1)},
		{knot("a", 1)},
		{knot("a", 1), knot("b", 1)},
		{knot("#", 1)},
		{knot(""), knot("")},
		{knot(""), knot("", 1)},
		{knot(""), knot(""), knot("a", 1)},
		{knot("a", 1), knot("")},
		// A Path that is no filter.
		{knot(""), knot("A", 1)},
		{knot(""), knot("a+", 1)},
		{knot(""), knot("\xff", 1)},
		{knot(""), knot("abcdefghijklm", 1)},
		{knot(""), knot("/", 1)},
		{knot(""), knot("/a", 1)},
		{knot(""), knot("a"), knot("a/", 1)},
		{knot(""), knot("a"), knot("a//b", 1)},
		{knot(""), knot("a"), knot("a/", 1), knot("a//b", 1)},
		{knot(""), knot("#"), knot("#/a", 1)},
		{knot(""), knot("#", 1), knot("#/a", 1)},
		{knot(""), knot("a"), knot("a/b"), knot("a/b/c"), knot("a/b/c/d"), knot("a/b/c/d/e"), knot("a/b/c/d/e/f", 1), knot("a/b/c/d/e/f/g", 1)},
		// One whose front part is missing.
		{knot(""), knot("a/b", 1)},
		{knot(""), knot("+/b", 1), knot("a", 1)},
		{knot(""), knot("a", 1), knot("a/b/c", 1)},
		{knot(""), knot("a", 1), knot("ab/c", 1)},
		{knot(""), knot("ab", 1), knot("abc/a", 1)},
		{knot(""), knot("a"), knot("a/b", 1), knot("b/b", 1)},
		{knot(""), knot("+"), knot("+/b", 1), knot("a/b", 1)},
		{knot("a", 1), knot("a/b", 1)},
		// Two alike, and Paths that do not rise.
		{knot(""), knot("a", 1), knot("a", 1)},
		{knot(""), knot("a", 1), knot("a", 2)},
		{knot(""), knot("a"), knot("a", 1)},
		{knot(""), knot("a"), knot("a/b", 1), knot("a/b", 1)},
		{knot(""), knot("b", 1), knot("a", 1)},
		{knot(""), knot("+", 1), knot("#", 1)},
		{knot(""), knot("a/b", 1), knot("a", 1)},
		{knot(""), knot("a", 1), knot("a0", 1), knot("a/b", 1)},
		{knot(""), knot("a", 1), knot("b", 1), knot("a/b", 1)},
		{knot(""), knot("a"), knot("a/c", 1), knot("a/b", 1)},
		{knot(""), knot("b"), knot("b/a", 1), knot("a"), knot("a/c", 1)},
		// Ids.
		{knot(""), knot("a", -1)},
		{knot(""), knot("a", 100)},
		{knot(""), knot("a", 0, 100)},
		{knot(""), knot("a", -1, 0)},
		{knot(""), knot("a", math.MinInt64)},
		{knot(""), knot("a", math.MaxInt64)},
		{knot(""), knot("a", 2, 1)},
		{knot(""), knot("a", 1, 1)},
		{knot(""), knot("a", 1, 2, 2)},
		{knot(""), knot("a", 1, 3, 2)},
		{knot(""), knot("a", 5, 6, 0)},
		{knot(""), knot("a", 1), knot("a/b", 2, 1), knot("b", 1)},
		// No Ids, and no child.
		{knot(""), knot("a")},
		{knot(""), knot("#")},
		{knot(""), knot("+")},
		{knot(""), knot("a", 1), knot("b")},
		{knot(""), knot("a"), knot("b", 1)},
		{knot(""), knot("a"), knot("a/b")},
		{knot(""), knot("a", 1), knot("a/b")},
		{knot(""), knot("a"), knot("a/b"), knot("a/c", 1)},
		{knot(""), knot("a"), knot("a/b", 1), knot("a/c")},
		// What begins with the same bytes is no child, and neither is one below a sign that matches.
		{knot(""), knot("a"), knot("ab", 1)},
		{knot(""), knot("a"), knot("ab"), knot("ab/c", 1)},
		{knot(""), knot("+"), knot("a"), knot("a/b", 1)},
	}
}

func TestTrieLimit(t *testing.T) {
	if impl.MaxId != 99 {
		t.Fatal(impl.MaxId)
	}
}

func TestNewTrie(t *testing.T) {
	first := impl.NewTrie()
	if !sameTrie(first, []impl.Knot{{}}) || !trieOk(t, first) {
		t.Fatal(first)
	}
	checkOwn(t, first)
	if second := impl.NewTrie(); !sameTrie(second, []impl.Knot{{}}) {
		t.Fatal("written by way of another answer:", second)
	}
}

func TestTrieOk(t *testing.T) {
	for _, trie := range rightTries() {
		if !trieForm(trie) || !trieOk(t, trie) {
			t.Errorf("TrieOk(%v) = %v", trie, trieOk(t, trie))
		}
	}
	for _, trie := range wrongTries() {
		if trieForm(trie) || trieOk(t, trie) {
			t.Errorf("TrieOk(%v) = %v", trie, trieOk(t, trie))
		}
	}
}

func TestTrieOkTakesNilForEmpty(t *testing.T) {
	for _, ids := range [][]int64{nil, {}, make([]int64, 0, 4)} {
		if !impl.TrieOk([]impl.Knot{{Ids: ids}, {Path: "a", Ids: ids}, {Path: "a/b", Ids: []int64{1}}}) {
			t.Errorf("not right with %#v", ids)
		}
		if impl.TrieOk([]impl.Knot{{Ids: ids}, {Path: "a", Ids: ids}}) {
			t.Errorf("right with %#v", ids)
		}
	}
}

// Each of these Paths is not there, there without Ids, or there with some.
func TestAllSmallTries(t *testing.T) {
	paths := []string{"#", "#/a", "+", "+/#", "A", "a", "a/+", "a/b", "a/b/c", "ab"}
	lists := [][]int64{nil, {1}}
	rows := [][]impl.Knot{{knot("")}}
	for _, path := range paths {
		for _, row := range rows {
			for _, ids := range lists {
				rows = append(rows, append(slices.Clip(row), knot(path, ids...)))
			}
		}
	}
	right := 0
	for _, trie := range rows {
		want := trieForm(trie)
		if want {
			right++
		}
		if got := impl.TrieOk(trie); got != want {
			t.Fatalf("TrieOk(%v) = %v, not %v", trie, got, want)
		}
	}
	if right < 100 || right > len(rows)-100 {
		t.Fatalf("too few to tell: %d right of %d", right, len(rows))
	}
}

func TestWithIdMakesTheWay(t *testing.T) {
	trie := impl.NewTrie()
	checkWith(t, trie, "a", 7, []impl.Knot{knot(""), knot("a", 7)}, true)
	checkWith(t, trie, "#", 0, []impl.Knot{knot(""), knot("#", 0)}, true)
	checkWith(t, trie, "+", 99, []impl.Knot{knot(""), knot("+", 99)}, true)
	checkWith(t, trie, "a/+/c", 7, []impl.Knot{knot(""), knot("a"), knot("a/+"), knot("a/+/c", 7)}, true)
	checkWith(t, trie, "a/b/c/d/e/#", 1, []impl.Knot{knot(""), knot("a"), knot("a/b"), knot("a/b/c"), knot("a/b/c/d"), knot("a/b/c/d/e"), knot("a/b/c/d/e/#", 1)}, true)
}

func TestWithIdByKnotsThatAreThere(t *testing.T) {
	trie := []impl.Knot{knot(""), knot("a"), knot("a/b", 3), knot("a0", 3)}
	checkWith(t, trie, "a/b", 1, []impl.Knot{knot(""), knot("a"), knot("a/b", 1, 3), knot("a0", 3)}, true)
	checkWith(t, trie, "a/b", 5, []impl.Knot{knot(""), knot("a"), knot("a/b", 3, 5), knot("a0", 3)}, true)
	// At a Knot that was on the way alone.
	checkWith(t, trie, "a", 3, []impl.Knot{knot(""), knot("a", 3), knot("a/b", 3), knot("a0", 3)}, true)
	// Below one that is there, and between others.
	checkWith(t, trie, "a/+/#", 2, []impl.Knot{knot(""), knot("a"), knot("a/+"), knot("a/+/#", 2), knot("a/b", 3), knot("a0", 3)}, true)
	checkWith(t, trie, "a/b/c", 2, []impl.Knot{knot(""), knot("a"), knot("a/b", 3), knot("a/b/c", 2), knot("a0", 3)}, true)
	checkWith(t, trie, "a/z", 2, []impl.Knot{knot(""), knot("a"), knot("a/b", 3), knot("a/z", 2), knot("a0", 3)}, true)
	checkWith(t, trie, "a0/b", 3, []impl.Knot{knot(""), knot("a"), knot("a/b", 3), knot("a0", 3), knot("a0/b", 3)}, true)
	// A sign stands for itself: by +, a/b is not meant.
	checkWith(t, trie, "+/b", 3, []impl.Knot{knot(""), knot("+"), knot("+/b", 3), knot("a"), knot("a/b", 3), knot("a0", 3)}, true)
	checkWith(t, trie, "#", 3, []impl.Knot{knot(""), knot("#", 3), knot("a"), knot("a/b", 3), knot("a0", 3)}, true)
	checkWith(t, trie, "zz", 3, []impl.Knot{knot(""), knot("a"), knot("a/b", 3), knot("a0", 3), knot("zz", 3)}, true)
}

func TestWithIdRefuses(t *testing.T) {
	for _, trie := range rightTries() {
		for _, k := range trie {
			for _, id := range k.Ids {
				checkWith(t, trie, k.Path, id, trie, false)
			}
		}
		for _, filter := range []string{"", "/", "A", "a#", "a+", "a/", "/a", "a//b", "#/a", "a/#/b", "a b", "\xff", "abcdefghijklm", "a/b/c/d/e/f/g", "a/b/c/d/e/f/#"} {
			checkWith(t, trie, filter, 1, trie, false)
		}
		for _, id := range []int64{-1, 100, 101, math.MinInt64, math.MaxInt64, 1 << 32} {
			checkWith(t, trie, "a", id, trie, false)
			checkWith(t, trie, "q/+/r/#", id, trie, false)
			checkWith(t, trie, "A", id, trie, false)
		}
	}
}

func TestAllIdsAtOneFilter(t *testing.T) {
	trie := impl.NewTrie()
	var want []int64
	for i := range int64(100) {
		// 37 has no part with 100, so that each of them comes once, in no order that rises.
		id := i * 37 % 100
		want = append(want, id)
		slices.Sort(want)
		checkWith(t, trie, "a/+", id, []impl.Knot{knot(""), knot("a"), knot("a/+", want...)}, true)
		trie, _ = impl.WithId(trie, "a/+", id)
		checkWith(t, trie, "a/+", id, trie, false)
	}
	checkIdsFor(t, trie, "a/b", want...)
	for i := range int64(100) {
		id := i * 73 % 100
		var is bool
		if trie, is = withoutId(t, trie, "a/+", id); !is || !trieOk(t, trie) {
			t.Fatal(id, trie)
		}
		checkWithout(t, trie, "a/+", id, trie, false)
	}
	if !sameTrie(trie, impl.NewTrie()) {
		t.Fatal(trie)
	}
}

func TestWithoutIdKeepsWhatIsNeeded(t *testing.T) {
	// One that keeps other Ids.
	trie := []impl.Knot{knot(""), knot("a"), knot("a/b", 1, 2, 3)}
	checkWithout(t, trie, "a/b", 1, []impl.Knot{knot(""), knot("a"), knot("a/b", 2, 3)}, true)
	checkWithout(t, trie, "a/b", 2, []impl.Knot{knot(""), knot("a"), knot("a/b", 1, 3)}, true)
	checkWithout(t, trie, "a/b", 3, []impl.Knot{knot(""), knot("a"), knot("a/b", 1, 2)}, true)
	// One that keeps a child, near or far below.
	checkWithout(t, []impl.Knot{knot(""), knot("a", 1), knot("a/b", 1)}, "a", 1, []impl.Knot{knot(""), knot("a"), knot("a/b", 1)}, true)
	checkWithout(t, []impl.Knot{knot(""), knot("a", 1), knot("a/b"), knot("a/b/c", 1)}, "a", 1, []impl.Knot{knot(""), knot("a"), knot("a/b"), knot("a/b/c", 1)}, true)
}

func TestWithoutIdTakesTheWayAlong(t *testing.T) {
	for _, k := range []impl.Knot{knot("a", 0), knot("#", 99), knot("+", 5)} {
		checkWithout(t, []impl.Knot{knot(""), k}, k.Path, k.Ids[0], impl.NewTrie(), true)
	}
	// Up to the first Knot, that stays.
	checkWithout(t, []impl.Knot{knot(""), knot("a"), knot("a/b"), knot("a/b/c", 1)}, "a/b/c", 1, impl.NewTrie(), true)
	checkWithout(t, []impl.Knot{knot(""), knot("a"), knot("a/b"), knot("a/b/c", 1), knot("b", 1)}, "a/b/c", 1, []impl.Knot{knot(""), knot("b", 1)}, true)
	deep := []impl.Knot{knot(""), knot("+"), knot("+/+"), knot("+/+/+"), knot("+/+/+/+"), knot("+/+/+/+/+"), knot("+/+/+/+/+/#", 1)}
	checkWithout(t, deep, "+/+/+/+/+/#", 1, impl.NewTrie(), true)
	// Up to one that has Ids.
	checkWithout(t, []impl.Knot{knot(""), knot("a", 1), knot("a/b"), knot("a/b/c", 1)}, "a/b/c", 1, []impl.Knot{knot(""), knot("a", 1)}, true)
	checkWithout(t, []impl.Knot{knot(""), knot("a"), knot("a/b", 1), knot("a/b/c", 1)}, "a/b/c", 1, []impl.Knot{knot(""), knot("a"), knot("a/b", 1)}, true)
	// Up to one that has another child, ahead or behind.
	checkWithout(t, []impl.Knot{knot(""), knot("a"), knot("a/+", 4), knot("a/b"), knot("a/b/c", 1)}, "a/b/c", 1, []impl.Knot{knot(""), knot("a"), knot("a/+", 4)}, true)
	checkWithout(t, []impl.Knot{knot(""), knot("a"), knot("a/b"), knot("a/b/c", 1), knot("a/d", 4)}, "a/b/c", 1, []impl.Knot{knot(""), knot("a"), knot("a/d", 4)}, true)
	checkWithout(t, []impl.Knot{knot(""), knot("a"), knot("a/b"), knot("a/b/c", 1), knot("a/b/d"), knot("a/b/d/#", 1)}, "a/b/c", 1, []impl.Knot{knot(""), knot("a"), knot("a/b"), knot("a/b/d"), knot("a/b/d/#", 1)}, true)
}

func TestWithoutIdRefuses(t *testing.T) {
	trie := []impl.Knot{knot(""), knot("#", 9), knot("a"), knot("a/b", 1, 3), knot("b", 2)}
	for _, filter := range []string{"", "/", "A", "a#", "a/", "/a", "/b", "b/", "a//b", "#/b", "a/b/", "\xff", "a/b/c/d/e/f/g"} {
		for _, id := range []int64{-1, 0, 1, 2, 3, 9, 100} {
			checkWithout(t, trie, filter, id, trie, false)
		}
	}
	for _, id := range []int64{-1, 100, math.MinInt64, math.MaxInt64, 1<<32 + 1} {
		checkWithout(t, trie, "a/b", id, trie, false)
		checkWithout(t, trie, "a", id, trie, false)
	}
	// An Id that is not there, but at others; a Path that is there without Ids; and Paths that are not there.
	for _, c := range []struct {
		filter string
		id     int64
	}{
		{"a/b", 0}, {"a/b", 2}, {"a/b", 4}, {"a/b", 9}, {"b", 1}, {"b", 3}, {"#", 1},
		{"a", 0}, {"a", 1}, {"a", 3},
		{"a/b/c", 1}, {"a/+", 1}, {"+/b", 1}, {"a/#", 1}, {"+", 2}, {"a/c", 1}, {"b/b", 1}, {"ab", 1}, {"b/#", 2},
	} {
		checkWithout(t, trie, c.filter, c.id, trie, false)
	}
	for _, filter := range []string{"", "#", "+", "a", "a/b"} {
		checkWithout(t, impl.NewTrie(), filter, 0, impl.NewTrie(), false)
	}
}

func TestIdsFor(t *testing.T) {
	trie := trieOf(idRow{"a": {3}, "a/b": {1}, "a/+": {4}, "+/b": {2}, "+": {6}, "a/+/c": {7}, "+/+/c/#": {8}, "a/#": {0}, "#": {5}, "a/b/c/d/e/f": {9}})
	checkIdsFor(t, trie, "a", 0, 3, 5, 6)
	checkIdsFor(t, trie, "b", 5, 6)
	checkIdsFor(t, trie, "a/b", 0, 1, 2, 4, 5)
	checkIdsFor(t, trie, "a/c", 0, 4, 5)
	checkIdsFor(t, trie, "c/b", 2, 5)
	checkIdsFor(t, trie, "b/a", 5)
	checkIdsFor(t, trie, "a/x/c", 0, 5, 7, 8)
	checkIdsFor(t, trie, "x/x/c", 5, 8)
	checkIdsFor(t, trie, "x/x/c/y", 5, 8)
	checkIdsFor(t, trie, "x/x/d", 5)
	checkIdsFor(t, trie, "a/b/c/d/e/f", 0, 5, 8, 9)
	checkIdsFor(t, trie, "a/b/c/d/e", 0, 5, 8)
}

// Here a # stands for no part, for one, and for some.
func TestIdsForAllLeft(t *testing.T) {
	trie := []impl.Knot{knot(""), knot("a"), knot("a/b"), knot("a/b/#", 1)}
	checkIdsFor(t, trie, "a")
	checkIdsFor(t, trie, "a/b", 1)
	checkIdsFor(t, trie, "a/b/c", 1)
	checkIdsFor(t, trie, "a/b/c/d/e/f", 1)
	checkIdsFor(t, trie, "a/c")
	checkIdsFor(t, trie, "b/b/c")
	trie = []impl.Knot{knot(""), knot("+"), knot("+/#", 2)}
	checkIdsFor(t, trie, "a", 2)
	checkIdsFor(t, trie, "a/b", 2)
	trie = []impl.Knot{knot(""), knot("#", 0, 99)}
	checkIdsFor(t, trie, "a", 0, 99)
	checkIdsFor(t, trie, "a/b/c/d/e/f", 0, 99)
}

func TestIdsForTellsEachOnce(t *testing.T) {
	trie := trieOf(idRow{"#": {2, 5}, "+": {5}, "+/#": {1, 5, 9}, "a": {0, 5}, "a/#": {5, 9}})
	checkIdsFor(t, trie, "a", 0, 1, 2, 5, 9)
	checkIdsFor(t, trie, "b", 1, 2, 5, 9)
	checkIdsFor(t, trie, "a/b", 1, 2, 5, 9)
}

func TestIdsForNoTopic(t *testing.T) {
	trie := trieOf(idRow{"#": {5}, "+": {6}, "a": {1}, "+/#": {2}, "a/+": {3}, "a/#": {4}})
	for _, topic := range []string{"", "/", "+", "#", "a/+", "a/#", "+/#", "A", "a/", "/a", "a//b", "a b", "\xff", "\u00e9", "abcdefghijklm", "a/b/c/d/e/f/g"} {
		checkIdsFor(t, trie, topic)
	}
	for _, topic := range []string{"", "a", "a/b"} {
		checkIdsFor(t, impl.NewTrie(), topic)
	}
}

func TestNothingOfWrongTries(t *testing.T) {
	for _, trie := range wrongTries() {
		for _, filter := range []string{"", "a", "a/b", "b", "+", "#", "A", "q/r/s"} {
			for _, id := range []int64{-1, 0, 1, 2, 99, 100} {
				checkWith(t, trie, filter, id, nil, false)
				checkWithout(t, trie, filter, id, nil, false)
			}
			checkIdsFor(t, trie, filter)
		}
	}
}

// What is put in, taken out and asked, in any order, beside a plain table of filters and Ids.
func TestTriesByManySteps(t *testing.T) {
	r := rand.New(rand.NewSource(5))
	filters := append(filtersOf(3), "a/b/a/b/a/#", "a/b/a/b/a/b", "+/+/+/+/+/+", "a0", "a0/b", "ab", "abcdefghijkl")
	topics := append(topicsOf(3), "a/b/a/b/a", "a/b/a/b/a/b", "a0", "a0/b", "ab", "abcdefghijkl")
	forms := map[string]*regexp.Regexp{}
	for _, filter := range filters {
		forms[filter] = matchForm(filter)
	}
	puts, takes, refused := 0, 0, 0
	for range 40 {
		trie, row := impl.NewTrie(), idRow{}
		// From few filters the same one is drawn often; from many, the trie grows wide.
		known := filters
		if r.Intn(2) == 0 {
			known = []string{filters[r.Intn(len(filters))], filters[r.Intn(len(filters))], "a/b/a/b/a/#", "a", "a/b"}
		}
		for range 100 {
			filter, id := known[r.Intn(len(known))], int64(r.Intn(4)*33)
			before := trie
			there := slices.Contains(row[filter], id)
			var is bool
			if r.Intn(2) == 0 {
				trie, is = withId(t, trie, filter, id)
				if is == there {
					t.Fatalf("WithId(%v, %q, %d) = %v", before, filter, id, is)
				}
				if is {
					puts++
					row[filter] = append(row[filter], id)
					checkWithout(t, trie, filter, id, before, true)
				}
			} else {
				trie, is = withoutId(t, trie, filter, id)
				if is != there {
					t.Fatalf("WithoutId(%v, %q, %d) = %v", before, filter, id, is)
				}
				if is {
					takes++
					row[filter] = slices.DeleteFunc(row[filter], func(one int64) bool { return one == id })
					checkWith(t, trie, filter, id, before, true)
				}
			}
			if !is {
				refused++
			}
			if want := trieOf(row); !sameTrie(trie, want) || !trieForm(trie) || !impl.TrieOk(trie) {
				t.Fatalf("promise 3: %v, not %v", trie, want)
			}
			topic := topics[r.Intn(len(topics))]
			var want []int64
			for filter, ids := range row {
				if forms[filter].MatchString("/" + topic) {
					want = append(want, ids...)
				}
			}
			slices.Sort(want)
			checkIdsFor(t, trie, topic, slices.Compact(want)...)
		}
	}
	if puts < 300 || takes < 300 || refused < 300 {
		t.Fatalf("too few to tell: %d put in, %d taken out, %d refused", puts, takes, refused)
	}
}

func TestIdsForByMatches(t *testing.T) {
	filters := filtersOf(3)
	row := idRow{}
	for i, filter := range filters {
		row[filter] = []int64{int64(i % 100)}
	}
	trie := trieOf(row)
	for _, topic := range topicsOf(4) {
		var want []int64
		for _, filter := range filters {
			if impl.Matches(filter, topic) {
				want = append(want, row[filter]...)
			}
		}
		slices.Sort(want)
		if got := impl.IdsFor(trie, topic); !slices.Equal(got, slices.Compact(want)) {
			t.Fatalf("IdsFor %q: %v, not %v", topic, got, want)
		}
	}
}

// spoilt tells a trie with one thing of it changed, which makes it wrong most times.
func spoilt(r *rand.Rand, trie []impl.Knot) []impl.Knot {
	list := whole(trie)
	i := r.Intn(len(list))
	paths := []string{"", "a", "b", "+", "#", "a/b", "a/#", "#/a", "A", "a/", "a//b", "abcdefghijklm"}
	switch r.Intn(6) {
	case 0:
		list = slices.Delete(list, i, i+1)
	case 1:
		j := r.Intn(len(list))
		list[i], list[j] = list[j], list[i]
	case 2:
		list[i].Path = paths[r.Intn(len(paths))]
	case 3:
		list = slices.Insert(list, i, knot(paths[r.Intn(len(paths))], 1))
	case 4:
		list[i].Ids = append(list[i].Ids, int64(r.Intn(104)-2))
	case 5:
		list[i].Ids = nil
	}
	return list
}

func TestSpoiltTries(t *testing.T) {
	r := rand.New(rand.NewSource(6))
	filters := filtersOf(3)
	right, wrong := 0, 0
	for range 20000 {
		row := idRow{}
		for range r.Intn(5) {
			row[filters[r.Intn(len(filters))]] = []int64{int64(r.Intn(3)), int64(3 + r.Intn(97))}
		}
		trie := spoilt(r, trieOf(row))
		want := trieForm(trie)
		if got := trieOk(t, trie); got != want {
			t.Fatalf("TrieOk(%v) = %v, not %v", trie, got, want)
		}
		if want {
			right++
			continue
		}
		wrong++
		checkWith(t, trie, "a", 50, nil, false)
		checkWithout(t, trie, "a", 1, nil, false)
		checkIdsFor(t, trie, "a")
	}
	if right < 1000 || wrong < 5000 {
		t.Fatalf("too few to tell: %d right, %d wrong", right, wrong)
	}
}

func TestTrieAnyTexts(t *testing.T) {
	r := rand.New(rand.NewSource(7))
	for range 20000 {
		trie := []impl.Knot{knot("")}
		if r.Intn(4) == 0 {
			trie[0].Path = anyText(r)
		}
		for range r.Intn(4) {
			trie = append(trie, knot(anyText(r), make([]int64, r.Intn(3))...))
		}
		slices.SortFunc(trie, func(a, b impl.Knot) int { return strings.Compare(a.Path, b.Path) })
		text, id := anyText(r), int64(r.Uint64())
		if got, want := trieOk(t, trie), trieForm(trie); got != want {
			t.Fatalf("TrieOk(%v) = %v, not %v", trie, got, want)
		}
		withId(t, trie, text, id)
		withoutId(t, trie, text, id)
		idsFor(t, trie, text)
		got, is := withId(t, impl.NewTrie(), text, 0)
		if is != filterForm.MatchString(text) || !is && !sameTrie(got, impl.NewTrie()) {
			t.Fatalf("WithId of %q: %v, %v", text, got, is)
		}
	}
}

func TestLargeTries(t *testing.T) {
	row := idRow{}
	for _, a := range "abcdefghijklmnopqrstuvwxyz" {
		for _, b := range "abcdefghijklmnopqrstuvwxyz" {
			for _, c := range "0123456789" {
				row[string(a)+"/"+string(b)+"/+/"+string(c)] = []int64{int64(c - '0')}
			}
		}
	}
	trie := trieOf(row)
	if !impl.TrieOk(trie) || !slices.Equal(impl.IdsFor(trie, "q/q/q/7"), []int64{7}) {
		t.Fatal(len(trie))
	}
	without, is := impl.WithoutId(trie, "q/q/+/7", 7)
	if !is || len(without) != len(trie)-1 || !impl.TrieOk(without) {
		t.Fatal(len(without))
	}
	if again, is := impl.WithId(without, "q/q/+/7", 7); !is || !sameTrie(again, trie) {
		t.Fatal(len(again))
	}
	for _, s := range []string{strings.Repeat("a", 1<<20), strings.Repeat("a/", 1<<20), strings.Repeat("/", 1<<20), strings.Repeat("+/", 1<<20) + "#"} {
		if impl.TrieOk([]impl.Knot{knot(""), knot(s, 1)}) || len(impl.IdsFor(trie, s)) != 0 {
			t.Fatalf("a name of %d bytes", len(s))
		}
		checkWith(t, impl.NewTrie(), s, 1, impl.NewTrie(), false)
		checkWithout(t, impl.NewTrie(), s, 1, impl.NewTrie(), false)
	}
	if impl.TrieOk([]impl.Knot{knot(""), knot("a", make([]int64, 1<<20)...)}) {
		t.Fatal("too many Ids")
	}
}
