package tests

import (
	"math/rand"
	"regexp"
	"strings"
	"testing"

	"loop.example/g00776/impl"
)

type pairCase struct {
	a, b string
	is   bool
}

func checkMatches(t *testing.T, cases []pairCase) {
	t.Helper()
	for _, c := range cases {
		if got := impl.Matches(c.a, c.b); got != c.is {
			t.Errorf("Matches(%q, %q) = %v, not %v", c.a, c.b, got, c.is)
		}
	}
}

func checkCovers(t *testing.T, cases []pairCase) {
	t.Helper()
	for _, c := range cases {
		if got := impl.Covers(c.a, c.b); got != c.is {
			t.Errorf("Covers(%q, %q) = %v, not %v", c.a, c.b, got, c.is)
		}
	}
}

// A filter once more as a regular expression over a text in which each part has a slash ahead: what stands for + and what for # makes the difference between matching and covering.
func formOf(filter, plus, rest string) *regexp.Regexp {
	var form strings.Builder
	for part := range strings.SplitSeq(filter, "/") {
		switch part {
		case "+":
			form.WriteString("/" + plus)
		case "#":
			form.WriteString("(?:/" + rest + ")*")
		default:
			form.WriteString("/" + regexp.QuoteMeta(part))
		}
	}
	return regexp.MustCompile(`\A` + form.String() + `\z`)
}

func matchForm(filter string) *regexp.Regexp {
	return formOf(filter, `[a-z0-9]{1,12}`, `[a-z0-9]{1,12}`)
}

func coverForm(filter string) *regexp.Regexp {
	return formOf(filter, `(?:[a-z0-9]{1,12}|\+)`, `(?:[a-z0-9]{1,12}|\+|#)`)
}

// lists tells all lists of up to most of these parts, the empty one too, each part with a slash ahead.
func lists(most int, parts ...string) []string {
	all := []string{""}
	row := all
	for range most {
		var longer []string
		for _, s := range row {
			for _, part := range parts {
				longer = append(longer, s+"/"+part)
			}
		}
		row = longer
		all = append(all, row...)
	}
	return all
}

func filtersOf(most int) []string {
	var all []string
	for _, s := range lists(most, "a", "b", "+", "#") {
		if s != "" && filterForm.MatchString(s[1:]) {
			all = append(all, s[1:])
		}
	}
	return all
}

func topicsOf(most int) []string {
	var all []string
	// c is a word that none of filtersOf has.
	for _, s := range lists(most, "a", "b", "c")[1:] {
		all = append(all, s[1:])
	}
	return all
}

func TestOrdinaryMatches(t *testing.T) {
	checkMatches(t, []pairCase{
		{"news/sport", "news/sport", true},
		{"news/sport", "news/snow", false},
		{"news/sport", "sport/news", false},
		{"news/+", "news/sport", true},
		{"news/+", "games/sport", false},
		{"+/sport", "news/sport", true},
		{"+/sport", "news/snow", false},
		{"news/+/2026", "news/sport/2026", true},
		{"news/+/2026", "news/sport/2025", false},
		{"+/+", "news/sport", true},
		{"news/#", "news/sport", true},
		{"news/#", "news/sport/2026", true},
		{"news/#", "games/sport", false},
		{"+/sport/#", "news/sport/2026", true},
		{"+/sport/#", "news/snow/2026", false},
		{"#", "news", true},
		{"#", "news/sport/2026", true},
	})
}

func TestAllLeftMatches(t *testing.T) {
	checkMatches(t, []pairCase{
		{"a/#", "a", true},
		{"a/#", "a/b", true},
		{"a/#", "a/b/c/d/e/f", true},
		{"a/#", "b", false},
		{"a/#", "b/a", false},
		{"a/#", "ab", false},
		{"a/#", "aa/b", false},
		{"a/b/#", "a", false},
		{"a/b/#", "a/b", true},
		{"a/b/#", "a/b/c", true},
		{"a/b/#", "a/c/b", false},
		{"+/#", "a", true},
		{"+/#", "a/b", true},
		{"a/+/#", "a", false},
		{"a/+/#", "a/b", true},
		{"a/+/#", "a/b/c", true},
		{"#", "a", true},
		{"#", "a/b/c/d/e/f", true},
		{"a/b/c/d/e/#", "a/b/c/d/e", true},
		{"a/b/c/d/e/#", "a/b/c/d/e/f", true},
		{"a/b/c/d/e/#", "a/b/c/d", false},
	})
}

func TestAnyWordMatches(t *testing.T) {
	checkMatches(t, []pairCase{
		{"+", "a", true},
		{"+", "abcdefghijkl", true},
		{"+", "0", true},
		{"+", "a/b", false},
		{"a/+", "a", false},
		{"+/a", "a", false},
		{"a/+", "a/a", true},
		{"+/a", "a/a", true},
		{"+/a", "a/b", false},
		{"+/+", "a", false},
		{"+/+", "a/b/c", false},
		{"a/+/c", "a/c", false},
		{"a/+/c", "a/b/b/c", false},
		{"+/+/+/+/+/+", "a/b/c/d/e/f", true},
		{"+/+/+/+/+/+", "a/b/c/d/e", false},
		{"+/+/+/+/+", "a/b/c/d/e/f", false},
	})
}

func TestHowManyPartsMatch(t *testing.T) {
	for n := 1; n <= impl.MaxParts; n++ {
		for m := 1; m <= impl.MaxParts; m++ {
			topic := words(m, "a")
			checkMatches(t, []pairCase{
				{words(n, "a"), topic, n == m},
				{words(n, "+"), topic, n == m},
			})
			if n < impl.MaxParts {
				checkMatches(t, []pairCase{
					{words(n, "a") + "/#", topic, n <= m},
					{words(n, "+") + "/#", topic, n <= m},
				})
			}
		}
	}
	checkMatches(t, []pairCase{
		{"a/b", "a", false},
		{"a", "a/b", false},
		{"a/b", "b", false},
		{"b", "a/b", false},
		{"ab", "a/b", false},
		{"a/b", "ab", false},
		{"a", "aa", false},
		{"aa", "a", false},
	})
}

func TestNoFilterOrTopicMatches(t *testing.T) {
	checkMatches(t, []pairCase{
		// What is a filter and no topic, on the side of the topic.
		{"a/b", "a/+", false},
		{"a/+", "a/+", false},
		{"+", "+", false},
		{"#", "#", false},
		{"#", "+", false},
		{"#", "a/#", false},
		{"a/#", "a/#", false},
		{"a/#", "a/+", false},
		// What is none, beside what matches all or is the same text.
		{"#", "", false},
		{"#", "A", false},
		{"#", "a/", false},
		{"#", "a//b", false},
		{"#", "/a", false},
		{"#", "a/b/c/d/e/f/g", false},
		{"#", "abcdefghijklm", false},
		{"+", "abcdefghijklm", false},
		{"+", "", false},
		{"+/+", "/", false},
		{"a/+", "a/", false},
		{"a/#", "a/", false},
		{"+", "A", false},
		{"+", "\xff", false},
		{"", "a", false},
		{"", "", false},
		{"A", "A", false},
		{"A", "a", false},
		{"a//b", "a//b", false},
		{"a//b", "a/b", false},
		{"a/", "a", false},
		{"/a", "a", false},
		{"a/", "a/", false},
		{"abcdefghijklm", "abcdefghijklm", false},
		{"a/b/c/d/e/f/g", "a/b/c/d/e/f/g", false},
		{"a/b/c/d/e/f/#", "a/b/c/d/e/f", false},
		{"+/+/+/+/+/+/+", "a/b/c/d/e/f", false},
		{"#/a", "a", false},
		{"#/a", "b/a", false},
		{"#/#", "a", false},
		{"a/#/b", "a/b", false},
		{"a/#/b", "a/c/b", false},
		{"a#", "ab", false},
		{"a+", "ab", false},
		{"++", "ab", false},
	})
}

func TestOrdinaryCovers(t *testing.T) {
	checkCovers(t, []pairCase{
		{"news/sport", "news/sport", true},
		{"news/sport", "news/snow", false},
		{"news/+", "news/sport", true},
		{"news/sport", "news/+", false},
		{"news/+", "news/+", true},
		{"+/+", "news/+", true},
		{"news/+", "+/+", false},
		{"news/#", "news/sport/2026", true},
		{"news/#", "news/+/2026", true},
		{"news/#", "news/sport/#", true},
		{"news/sport/#", "news/#", false},
		{"news/#", "games/#", false},
		{"+/sport/#", "news/sport/2026", true},
		{"#", "news/sport", true},
	})
}

func TestAllLeftCovers(t *testing.T) {
	checkCovers(t, []pairCase{
		// Over nothing.
		{"a/#", "a", true},
		{"+/#", "a", true},
		{"+/#", "+", true},
		{"a/b/#", "a", false},
		{"a/+/#", "a", false},
		// Over words.
		{"#", "a", true},
		{"#", "a/b/c/d/e/f", true},
		{"a/#", "a/b", true},
		{"a/#", "a/b/c/d/e/f", true},
		{"a/#", "b", false},
		{"a/#", "b/a", false},
		// Over a +.
		{"#", "+", true},
		{"#", "+/b", true},
		{"a/#", "a/+", true},
		{"a/#", "a/+/b", true},
		{"a/#", "+", false},
		{"a/#", "+/a", false},
		// Over a #.
		{"#", "#", true},
		{"#", "a/#", true},
		{"#", "+/#", true},
		{"a/#", "a/#", true},
		{"a/#", "a/b/#", true},
		{"a/#", "a/+/#", true},
		{"a/#", "#", false},
		{"a/#", "+/#", false},
		{"+/#", "a/#", true},
		{"+/#", "+/#", true},
		{"a/b/c/d/e/#", "a/b/c/d/e/#", true},
		{"a/b/c/d/e/#", "a/b/c/d/e", true},
		{"a/b/c/d/e/#", "a/b/c/d/e/+", true},
	})
}

func TestAnyWordCovers(t *testing.T) {
	checkCovers(t, []pairCase{
		{"+", "a", true},
		{"+", "abcdefghijkl", true},
		{"+", "+", true},
		{"+", "#", false},
		{"a/+", "a/b", true},
		{"a/+", "a/+", true},
		{"a/+", "a/#", false},
		{"a/+", "a", false},
		{"a/+", "b/+", false},
		{"+", "a/b", false},
		{"+", "+/+", false},
		{"+/+", "+", false},
		{"+", "a/#", false},
		{"+", "+/#", false},
		// By parts, although both match all topics, as none is of no parts.
		{"+/#", "#", false},
		// A topic of one part is matched by the second one alone.
		{"+/+/#", "+/#", false},
		// As many as there may be: a # in place of the sixth part still is for none, too.
		{"+/+/+/+/+/+", "a/b/c/d/e/#", false},
		{"+/+/+/+/+", "a/b/c/d/e/#", false},
	})
}

func TestWordCovers(t *testing.T) {
	checkCovers(t, []pairCase{
		{"a", "a", true},
		{"a", "b", false},
		{"a", "aa", false},
		{"aa", "a", false},
		{"a", "+", false},
		{"a", "#", false},
		{"a", "a/#", false},
		{"a/b", "a/b", true},
		{"a/b", "a/c", false},
		{"a/b", "c/b", false},
		{"a/b", "a/+", false},
		{"a/b", "+/b", false},
		{"a/b", "a/#", false},
		{"a/b", "#", false},
		{"a", "a/b", false},
		{"a/b", "a", false},
		{"ab", "a/b", false},
	})
}

func TestHowManyPartsCovered(t *testing.T) {
	for n := 1; n <= impl.MaxParts; n++ {
		for m := 1; m <= impl.MaxParts; m++ {
			checkCovers(t, []pairCase{
				{words(n, "a"), words(m, "a"), n == m},
				{words(n, "+"), words(m, "a"), n == m},
				{words(n, "+"), words(m, "+"), n == m},
				{words(n, "a"), words(m, "+"), false},
			})
			if n < impl.MaxParts {
				checkCovers(t, []pairCase{
					{words(n, "a") + "/#", words(m, "a"), n <= m},
					{words(n, "+") + "/#", words(m, "a"), n <= m},
					{words(n, "+") + "/#", words(m, "+"), n <= m},
				})
			}
			if m < impl.MaxParts {
				checkCovers(t, []pairCase{
					{words(n, "a"), words(m, "a") + "/#", false},
					{words(n, "+"), words(m, "+") + "/#", false},
				})
			}
			if n < impl.MaxParts && m < impl.MaxParts {
				checkCovers(t, []pairCase{
					{words(n, "a") + "/#", words(m, "a") + "/#", n <= m},
					{words(n, "+") + "/#", words(m, "a") + "/#", n <= m},
				})
			}
		}
	}
}

func TestNoFilterCovers(t *testing.T) {
	for _, s := range []string{
		"", "/", "a/", "/a", "a//", "a//b", "A", "a b", "\xff", "a\x00", "\u00e9",
		"abcdefghijklm", "a/b/c/d/e/f/g", "a/b/c/d/e/f/#", "+/+/+/+/+/+/+",
		"#/", "#/a", "#/#", "#/+", "a/#/b", "a#", "#a", "a+", "+a", "++", "##",
	} {
		for _, other := range []string{s, "a", "+", "#", "a/b", "a/+", "a/#", "+/#"} {
			checkCovers(t, []pairCase{{s, other, false}, {other, s, false}})
			checkMatches(t, []pairCase{{s, other, false}, {other, s, false}})
		}
	}
}

func TestAllShortMatches(t *testing.T) {
	topics := topicsOf(4)
	for _, filter := range filtersOf(4) {
		form := matchForm(filter)
		for _, topic := range topics {
			if got, want := impl.Matches(filter, topic), form.MatchString("/"+topic); got != want {
				t.Fatalf("Matches(%q, %q) = %v, not %v", filter, topic, got, want)
			}
		}
	}
}

// By parts is by what is matched, were there a topic of no parts too: a # would be the only one to match it.
func TestAllShortCovers(t *testing.T) {
	topics := lists(4, "a", "b", "c")
	filters := filtersOf(3)
	heard := map[string][]bool{}
	for _, filter := range filters {
		form := matchForm(filter)
		for _, topic := range topics {
			heard[filter] = append(heard[filter], form.MatchString(topic))
		}
	}
	for _, a := range filters {
		form := coverForm(a)
		for _, b := range filters {
			want := true
			for i := range topics {
				want = want && (heard[a][i] || !heard[b][i])
			}
			if byForm := form.MatchString("/" + b); byForm != want {
				t.Fatalf("%q over %q: by form %v, by what is matched %v", a, b, byForm, want)
			}
			if got := impl.Covers(a, b); got != want {
				t.Fatalf("Covers(%q, %q) = %v, not %v", a, b, got, want)
			}
		}
	}
}

func TestTopicMatchesItself(t *testing.T) {
	for _, topic := range append(topicsOf(5), "abcdefghijkl", "0123456789az/z", words(6, "abcdefghijkl"), "a/b/c/d/e/f") {
		checkMatches(t, []pairCase{{topic, topic, true}})
		checkCovers(t, []pairCase{{topic, topic, true}})
	}
	for _, filter := range filtersOf(5) {
		checkCovers(t, []pairCase{{filter, filter, true}, {"#", filter, true}})
	}
}

// A topic is a filter, and to cover it is to match it.
func TestCoveredTopics(t *testing.T) {
	topics := topicsOf(3)
	for _, filter := range filtersOf(4) {
		for _, topic := range topics {
			if impl.Matches(filter, topic) != impl.Covers(filter, topic) {
				t.Fatalf("%q over %q: Matches %v, Covers %v", filter, topic, impl.Matches(filter, topic), impl.Covers(filter, topic))
			}
		}
	}
}

func TestWhatCoversMatchesAll(t *testing.T) {
	topics := topicsOf(4)
	filters := filtersOf(3)
	told := 0
	for _, a := range filters {
		for _, b := range filters {
			if !impl.Covers(a, b) {
				continue
			}
			for _, topic := range topics {
				if !impl.Matches(b, topic) {
					continue
				}
				told++
				if !impl.Matches(a, topic) {
					t.Fatalf("promise 2: %q covers %q, and matches not %q", a, b, topic)
				}
			}
		}
	}
	if told < 1000 {
		t.Fatalf("too few to tell: %d", told)
	}
}

func TestCoveringGoesOn(t *testing.T) {
	filters := filtersOf(3)
	over := map[string][]string{}
	for _, a := range filters {
		for _, b := range filters {
			if impl.Covers(a, b) {
				over[a] = append(over[a], b)
			}
			if a != b && impl.Covers(a, b) && impl.Covers(b, a) {
				t.Fatalf("%q and %q cover each other", a, b)
			}
		}
	}
	for a, under := range over {
		for _, b := range under {
			for _, c := range over[b] {
				if !impl.Covers(a, c) {
					t.Fatalf("%q covers %q, and that %q", a, b, c)
				}
			}
		}
	}
}

// drawn tells a row that is long as often as short, half of the time one close to the given one.
func drawn(r *rand.Rand, near string, parts []string) string {
	list := make([]string, 1+r.Intn(impl.MaxParts+1))
	if r.Intn(2) == 0 {
		list = strings.Split(near, "/")
		if r.Intn(2) == 0 && len(list) > 1 {
			list = list[:len(list)-1]
		}
		list[r.Intn(len(list))] = parts[r.Intn(len(parts))]
		if r.Intn(3) == 0 {
			list = append(list, parts[r.Intn(len(parts))])
		}
		return strings.Join(list, "/")
	}
	for i := range list {
		list[i] = parts[r.Intn(len(parts))]
	}
	return strings.Join(list, "/")
}

func TestManyMatchesAndCovers(t *testing.T) {
	r := rand.New(rand.NewSource(3))
	named := []string{"a", "b7", "abcdefghijkl", "a", "b7"}
	signed := []string{"a", "b7", "+", "+", "#", "abcdefghijkl", "#", "", "abcdefghijklm"}
	matched, covered, both := 0, 0, 0
	for range 60000 {
		topic := drawn(r, "a/b7/a", named)
		b := drawn(r, topic, signed)
		a := drawn(r, b, signed)
		aOk, bOk, topicOk := filterForm.MatchString(a), filterForm.MatchString(b), topicForm.MatchString(topic)
		wantMatch := bOk && topicOk && matchForm(b).MatchString("/"+topic)
		if got := impl.Matches(b, topic); got != wantMatch {
			t.Fatalf("Matches(%q, %q) = %v, not %v", b, topic, got, wantMatch)
		}
		wantCover := aOk && bOk && coverForm(a).MatchString("/"+b)
		if got := impl.Covers(a, b); got != wantCover {
			t.Fatalf("Covers(%q, %q) = %v, not %v", a, b, got, wantCover)
		}
		if wantMatch {
			matched++
		}
		if wantCover {
			covered++
		}
		if wantMatch && wantCover {
			both++
			if !impl.Matches(a, topic) {
				t.Fatalf("promise 2: %q covers %q, and matches not %q", a, b, topic)
			}
		}
	}
	if matched < 1000 || covered < 1000 || both < 300 {
		t.Fatalf("too few to tell: %d matched, %d covered, %d both", matched, covered, both)
	}
}

func TestMatchAnyTexts(t *testing.T) {
	r := rand.New(rand.NewSource(4))
	for range 20000 {
		a, b := anyText(r), anyText(r)
		if r.Intn(4) == 0 {
			b = a
		}
		for _, s := range []string{a, b} {
			for _, other := range []string{a, b, "#", "+", "a"} {
				// The clones lie elsewhere: what is told goes by the bytes alone, and both stay.
				sBefore, otherBefore := strings.Clone(s), strings.Clone(other)
				matches, covers := impl.Matches(s, other), impl.Covers(s, other)
				if s != sBefore || other != otherBefore {
					t.Fatalf("an argument was written: %q, %q", sBefore, otherBefore)
				}
				if matches && !(filterForm.MatchString(s) && topicForm.MatchString(other)) {
					t.Fatalf("Matches(%q, %q)", s, other)
				}
				if covers && !(filterForm.MatchString(s) && filterForm.MatchString(other)) {
					t.Fatalf("Covers(%q, %q)", s, other)
				}
				if matches != impl.Matches(sBefore, otherBefore) || covers != impl.Covers(sBefore, otherBefore) {
					t.Fatalf("%q, %q: another answer at the same texts", s, other)
				}
			}
		}
	}
	for _, s := range []string{
		strings.Repeat("a", 1<<20),
		strings.Repeat("/", 1<<20),
		strings.Repeat("a/", 1<<20),
		strings.Repeat("+/", 1<<20) + "#",
		strings.Repeat("#", 1<<20),
	} {
		for _, other := range []string{s, "#", "a"} {
			checkMatches(t, []pairCase{{s, other, false}, {other, s, false}})
			checkCovers(t, []pairCase{{s, other, false}, {other, s, false}})
		}
	}
}

func anyText(r *rand.Rand) string {
	const near = "ab9+#//A\xff\x00"
	b := make([]byte, r.Intn(8))
	for i := range b {
		b[i] = near[r.Intn(len(near))]
		if r.Intn(10) == 0 {
			b[i] = byte(r.Intn(256))
		}
	}
	return string(b)
}
