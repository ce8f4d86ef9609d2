package tests

import (
	"math/rand"
	"regexp"
	"slices"
	"strings"
	"testing"

	"loop.example/g00776/impl"
)

type nameCase struct {
	s      string
	topic  bool
	filter bool
}

// The grammar of chapter 1 once more, in other terms than the program's: what the functions are held against.
var (
	topicForm  = regexp.MustCompile(`\A(?:[a-z0-9]{1,12}/){0,5}[a-z0-9]{1,12}\z`)
	filterForm = regexp.MustCompile(`\A(?:(?:[a-z0-9]{1,12}|\+)/){0,5}(?:[a-z0-9]{1,12}|\+|#)\z`)
)

func checkNames(t *testing.T, cases []nameCase) {
	t.Helper()
	for _, c := range cases {
		if got := impl.TopicOk(c.s); got != c.topic {
			t.Errorf("TopicOk(%q) = %v, not %v", c.s, got, c.topic)
		}
		if got := impl.FilterOk(c.s); got != c.filter {
			t.Errorf("FilterOk(%q) = %v, not %v", c.s, got, c.filter)
		}
	}
}

func checkByForm(t *testing.T, s string) {
	t.Helper()
	topic, filter := impl.TopicOk(s), impl.FilterOk(s)
	if want := topicForm.MatchString(s); topic != want {
		t.Fatalf("TopicOk(%q) = %v, not %v", s, topic, want)
	}
	if want := filterForm.MatchString(s); filter != want {
		t.Fatalf("FilterOk(%q) = %v, not %v", s, filter, want)
	}
	if topic && !filter {
		t.Fatalf("promise 1: %q is a topic, and no filter", s)
	}
	parts := impl.PartsOf(s)
	if len(parts) != strings.Count(s, "/")+1 {
		t.Fatalf("PartsOf(%q) has %d parts", s, len(parts))
	}
	if strings.Join(parts, "/") != s {
		t.Fatalf("PartsOf(%q) = %q: not the parts of it", s, parts)
	}
}

func words(n int, word string) string {
	return strings.Repeat(word+"/", n-1) + word
}

func TestNameLimits(t *testing.T) {
	if impl.MaxWord != 12 || impl.MaxParts != 6 {
		t.Fatal(impl.MaxWord, impl.MaxParts)
	}
}

func TestPartsOf(t *testing.T) {
	for _, c := range []struct {
		s    string
		want []string
	}{
		{"", []string{""}},
		{"a", []string{"a"}},
		{"a/b7/c", []string{"a", "b7", "c"}},
		{"/", []string{"", ""}},
		{"//", []string{"", "", ""}},
		{"/a", []string{"", "a"}},
		{"a/", []string{"a", ""}},
		{"a//b", []string{"a", "", "b"}},
		{"+/#", []string{"+", "#"}},
		{"a/b/c/d/e/f/g", []string{"a", "b", "c", "d", "e", "f", "g"}},
		{"A b/\xff/\x00", []string{"A b", "\xff", "\x00"}},
		{"\u00e9/\u2215", []string{"\u00e9", "\u2215"}},
	} {
		if got := impl.PartsOf(c.s); !slices.Equal(got, c.want) {
			t.Errorf("PartsOf(%q) = %q, not %q", c.s, got, c.want)
		}
	}
}

func TestPartsOfIsNewMemory(t *testing.T) {
	const s = "a/b/c"
	want := []string{"a", "b", "c"}
	first := impl.PartsOf(s)
	second := impl.PartsOf(s)
	for i := range first {
		first[i] = "written"
	}
	_ = append(first[:1], "x", "y", "z")
	if !slices.Equal(second, want) || !slices.Equal(impl.PartsOf(s), want) {
		t.Fatal(second, impl.PartsOf(s))
	}
}

func TestOrdinaryNames(t *testing.T) {
	checkNames(t, []nameCase{
		{"a", true, true},
		{"7", true, true},
		{"0", true, true},
		{"az09", true, true},
		{"news/sport/2026", true, true},
		{"+/sport", false, true},
		{"news/+/2026", false, true},
		{"news/+", false, true},
		{"+/+/+", false, true},
		{"news/#", false, true},
		{"news/+/#", false, true},
		{"+/#", false, true},
	})
}

func TestWordLengths(t *testing.T) {
	for n := range 30 {
		word := strings.Repeat("z", n)
		ok := n >= 1 && n <= 12
		checkNames(t, []nameCase{
			{word, ok, ok},
			{"a/" + word, ok, ok},
			{word + "/a", ok, ok},
			{"a/" + word + "/b", ok, ok},
			{word + "/+", false, ok},
			{word + "/#", false, ok},
		})
	}
	checkNames(t, []nameCase{
		{"abcdefghijkl", true, true},
		{"abcdefghijklm", false, false},
		{words(6, "abcdefghijkl"), true, true},
		{words(5, "abcdefghijkl") + "/abcdefghijklm", false, false},
	})
}

func TestHowManyParts(t *testing.T) {
	for n := 1; n <= 20; n++ {
		ok := n <= 6
		checkNames(t, []nameCase{
			{words(n, "a"), ok, ok},
			{words(n, "+"), false, ok},
			{words(n, "a") + "/#", false, n+1 <= 6},
			{words(n, "+") + "/#", false, n+1 <= 6},
		})
	}
	checkNames(t, []nameCase{
		{"a/b/c/d/e/f", true, true},
		{"a/b/c/d/e/f/g", false, false},
		{"a/b/c/d/e/#", false, true},
		{"a/b/c/d/e/f/#", false, false},
		{"a/b/c/d/e/f/", false, false},
	})
}

func TestSigns(t *testing.T) {
	checkNames(t, []nameCase{
		{"+", false, true},
		{"#", false, true},
		{"a/#", false, true},
		{"#/a", false, false},
		{"#/#", false, false},
		{"#/+", false, false},
		{"a/#/b", false, false},
		{"a/#/#", false, false},
		{"#/", false, false},
		{"a+", false, false},
		{"+a", false, false},
		{"a+b", false, false},
		{"++", false, false},
		{"a/b+/c", false, false},
		{"a#", false, false},
		{"#a", false, false},
		{"##", false, false},
		{"+#", false, false},
		{"#+", false, false},
		{"a/b#", false, false},
	})
}

func TestNoNames(t *testing.T) {
	for _, s := range []string{
		"", "/", "//", "/a", "a/", "a//b", "/+", "+/", "+//#", "/#",
		"A", "Z", "aB", "a/B", "NEWS/sport",
		" ", " a", "a ", "a b", "a\n", "\na", "a\t", "a\r", "a\x00", "\x00", "a/\x00/b",
		"-", "a-b", "a_b", "a.b", "a*", "*", "a\\b", "$", "a,b",
		"\xff", "a\xff", "\xffa", "a/\xc3", "\x80/a", "\xed\xa0\x80", "\xc0\xaf",
		"\u00e9", "a\u00e9", "\u00df", "\ufffd", "a\ufffd", "\uff41", "\u0661", "\u0430", "a\u0301", "\U0001d44e", "a\u2215b",
		// Runes whose lowest byte, or lowest two, are those of a letter, a digit, or a sign.
		"\u0161", "\u0130", "\U00010061", "\u012b", "\u0123",
	} {
		checkNames(t, []nameCase{{s, false, false}})
	}
}

func TestEachByte(t *testing.T) {
	for n := range 256 {
		b := string([]byte{byte(n)})
		inWord := n >= 'a' && n <= 'z' || n >= '0' && n <= '9'
		checkNames(t, []nameCase{
			{b, inWord, inWord || b == "+" || b == "#"},
			{"x/" + b, inWord, inWord || b == "+" || b == "#"},
			{b + "/x", inWord, inWord || b == "+"},
			{"x" + b + "x", inWord || b == "/", inWord || b == "/"},
			{"x" + b, inWord, inWord},
			{b + "x", inWord, inWord},
		})
	}
}

func TestAllShortNames(t *testing.T) {
	const letters = "az09+#/A\xff"
	row := []string{""}
	for range 5 {
		var longer []string
		for _, s := range row {
			for i := range len(letters) {
				longer = append(longer, s+letters[i:i+1])
			}
		}
		row = longer
		for _, s := range row {
			checkByForm(t, s)
		}
	}
}

func TestManyNames(t *testing.T) {
	r := rand.New(rand.NewSource(1))
	parts := []string{
		"a", "b7", "abcdefghijkl", "0123456789az", "+", "a", "z9", "+", "#",
		"abcdefghijklm", "", "+a", "A", "a\xff", "\u00e9",
	}
	topics, filters := 0, 0
	for range 20000 {
		// Most rows are drawn from the right parts alone, so that both answers come often.
		known := parts[:7]
		switch r.Intn(4) {
		case 0:
			known = parts
		case 1, 2:
			known = parts[:9]
		}
		list := make([]string, 1+r.Intn(8))
		for i := range list {
			list[i] = known[r.Intn(len(known))]
		}
		s := strings.Join(list, "/")
		checkByForm(t, s)
		if impl.TopicOk(s) {
			topics++
		}
		if impl.FilterOk(s) {
			filters++
		}
	}
	if topics < 1000 || filters < topics+1000 {
		t.Fatalf("too few to tell: %d topics, %d filters", topics, filters)
	}
}

func TestAnyText(t *testing.T) {
	r := rand.New(rand.NewSource(2))
	for range 20000 {
		b := make([]byte, r.Intn(100))
		for i := range b {
			b[i] = byte(r.Intn(256))
		}
		checkByForm(t, string(b))
	}
	for _, s := range []string{
		strings.Repeat("a", 1<<20),
		strings.Repeat("/", 1<<20),
		strings.Repeat("a/", 1<<20),
		strings.Repeat("#", 1<<20),
		strings.Repeat("\xff", 1<<20),
	} {
		if impl.TopicOk(s) || impl.FilterOk(s) {
			t.Fatalf("a name of %d bytes", len(s))
		}
		if got, want := len(impl.PartsOf(s)), strings.Count(s, "/")+1; got != want {
			t.Fatalf("%d parts, not %d", got, want)
		}
	}
}
