package tests

import (
	"bytes"
	"math"
	"regexp"
	"slices"
	"strconv"
	"strings"
	"testing"

	"loop.example/g00422/impl"
)

// labels makes a name of labels as they stand, right or wrong.
func labels(l ...string) impl.Name {
	var n impl.Name
	for _, label := range l {
		n.L = append(n.L, []byte(label))
	}
	return n
}

// told gives a name as a text that tells apart names that are not NameOk, too.
func told(n impl.Name) string {
	var l []string
	for _, label := range n.L {
		l = append(l, strconv.Quote(string(label)))
	}
	return "[" + strings.Join(l, " ") + "]"
}

func isZeroName(n impl.Name) bool {
	return len(n.L) == 0
}

func longLabel() string {
	return strings.Repeat("w", impl.MaxLabel)
}

// goodNames go from the root to the greatest name that may be.
func goodNames() []impl.Name {
	w := longLabel()
	return []impl.Name{
		{},
		{L: [][]byte{}},
		labels("home"),
		labels("pc", "home"),
		labels("a"),
		labels("-"),
		labels("0"),
		labels("z", "a"),
		labels("a", "z"),
		labels("a", "a"),
		labels("ab", "c"),
		labels("a", "bc"),
		labels("a-0", "9-z", "--"),
		labels(w),
		labels(w, "x"),
		labels("3", "0", "0", "10", "in-addr", "arpa"),
		labels("a", "a", "a", "a", "a"),
		labels("a", "a", "a", "a", "a", "a"),
		labels(w, w, w, w, w, w),
		labels("abcdefghijklmno", "pqrstuvwxyz", "0123456789", "-"),
	}
}

func badNames() []impl.Name {
	w := longLabel()
	return []impl.Name{
		{L: [][]byte{nil}},
		labels(""),
		labels("", "home"),
		labels("pc", ""),
		labels("pc", "", "home"),
		labels("PC", "home"),
		labels("pc", "Home"),
		labels("p.c"),
		labels("pc_1"),
		labels("pc "),
		labels("pc\x00"),
		labels("\xff"),
		labels("\u00e4"),
		labels(w + "w"),
		labels("a", w+"w"),
		labels("a", "a", "a", "a", "a", "a", "a"),
		labels(w, w, w, w, w, w, w),
		labels("", "", "", "", "", ""),
		{L: make([][]byte, 5000)},
	}
}

func TestNameLimits(t *testing.T) {
	if impl.MaxLabels != 6 || impl.MaxLabel != 15 || impl.MaxHops != 8 {
		t.Fatal(impl.MaxLabels, impl.MaxLabel, impl.MaxHops)
	}
}

func TestLabelOk(t *testing.T) {
	const signs = "abcdefghijklmnopqrstuvwxyz0123456789-"
	for c := range 256 {
		want := strings.IndexByte(signs, byte(c)) >= 0
		for _, label := range []string{string([]byte{byte(c)}), "a" + string([]byte{byte(c)}), string([]byte{byte(c), 'z'}), "0" + string([]byte{byte(c)}) + "9"} {
			if impl.LabelOk([]byte(label)) != want {
				t.Errorf("LabelOk(%q) = %v", label, !want)
			}
		}
	}
	for size := range 40 {
		if got := impl.LabelOk(bytes.Repeat([]byte{'k'}, size)); got != (size >= 1 && size <= 15) {
			t.Errorf("LabelOk of %d bytes = %v", size, got)
		}
	}
	if impl.LabelOk(nil) || impl.LabelOk(make([]byte, 100000)) {
		t.Error("no label at all")
	}
}

func TestNameOk(t *testing.T) {
	for _, n := range goodNames() {
		if !impl.NameOk(n) {
			t.Errorf("NameOk(%s) = false", told(n))
		}
	}
	for _, n := range badNames() {
		if impl.NameOk(n) {
			t.Errorf("NameOk(%s) = true", told(n))
		}
	}
}

func TestNameText(t *testing.T) {
	for want, n := range map[string]impl.Name{
		".":                                labels(),
		"home.":                            labels("home"),
		"pc.home.":                         labels("pc", "home"),
		"a-0.9-z.":                         labels("a-0", "9-z"),
		"wwwwwwwwwwwwwww.x.":               labels(longLabel(), "x"),
		"1.2.3.4.5.6.":                     labels("1", "2", "3", "4", "5", "6"),
		"255.255.255.255.in-addr.arpa.":    labels("255", "255", "255", "255", "in-addr", "arpa"),
		strings.Repeat(longLabel()+".", 6): labels(longLabel(), longLabel(), longLabel(), longLabel(), longLabel(), longLabel()),
	} {
		if got := impl.NameText(n); string(got) != want {
			t.Errorf("NameText(%s) = %q", told(n), got)
		}
	}
	for _, n := range badNames() {
		if got := impl.NameText(n); len(got) != 0 {
			t.Errorf("NameText(%s) = %q", told(n), got)
		}
	}
}

// greatLetters turns every second or every small letter of a text.
func greatLetters(b []byte, every int) []byte {
	out := bytes.Clone(b)
	for i, c := range out {
		if c >= 'a' && c <= 'z' && i%every == 0 {
			out[i] = c - 32
		}
	}
	return out
}

func TestNamesComeBackFromTheirTexts(t *testing.T) {
	for _, n := range goodNames() {
		text := impl.NameText(n)
		forms := [][]byte{text, greatLetters(text, 1), greatLetters(text, 2)}
		if len(n.L) > 0 {
			forms = append(forms, text[:len(text)-1], greatLetters(text[:len(text)-1], 1))
		}
		for _, form := range forms {
			got, ok := impl.NameRead(form)
			if !ok || told(got) != told(n) {
				t.Errorf("NameRead(%q) = %s, %v, want %s", form, told(got), ok, told(n))
			}
		}
	}
}

func TestNameReadRefuses(t *testing.T) {
	w := longLabel()
	for _, text := range []string{
		"", "..", "...", ".a", ".a.", "..a", "a..", "a..b", "a..b.", "a.b..", "a...b",
		w + "w", w + "w.", "a." + w + "w", w + "w.a.",
		"1.2.3.4.5.6.7", "1.2.3.4.5.6.7.", "1.2.3.4.5.6..", "1.2.3.4.5.6. ", "1.2.3.4.5..6",
		"a b", " a", "a ", "a\x00", "\x00", "a_b", "a/b", "a:b", "a`b", "a{b", "a@b", "a[b", "a,b", "a*", "*", "\xff", "\u00e4", "\u212a", "\u0131", "a\u3002b", "a\n",
		strings.Repeat("a.", 5000), strings.Repeat(".", 5000), strings.Repeat("a", 100000),
	} {
		if n, ok := impl.NameRead([]byte(text)); ok || !isZeroName(n) {
			t.Errorf("NameRead(%q) = %s, %v", text, told(n), ok)
		}
	}
	if n, ok := impl.NameRead(nil); ok || !isZeroName(n) {
		t.Error(told(n), ok)
	}
}

func TestNameReadTakesJustNames(t *testing.T) {
	form := regexp.MustCompile(`\A(\.|([A-Za-z0-9-]{1,15}\.){0,5}[A-Za-z0-9-]{1,15}\.?)\z`)
	for _, text := range []string{".", "a", "b.", "PC.home", "x.y-1.Z.", "1.2.3.4.5.6", "1.2.3.4.5.6.", longLabel() + ".a.", "abcdefghijklmn"} {
		for _, b := range changedTexts([]byte(text)) {
			n, ok := impl.NameRead(b)
			if ok != form.Match(b) {
				t.Fatalf("NameRead(%q) = %s, %v", b, told(n), ok)
			}
			want := string(smallLetters(b))
			if !strings.HasSuffix(want, ".") {
				want += "."
			}
			if ok && string(impl.NameText(n)) != want || !ok && !isZeroName(n) {
				t.Fatalf("NameRead(%q) = %s, %v", b, told(n), ok)
			}
		}
	}
}

// mixedNames are all names of up to three labels out of a few, near one another in order.
func mixedNames() []impl.Name {
	few := []string{"-", "0", "a", "aa", "ab", "b", "z"}
	out := []impl.Name{{}}
	from := 0
	for range 3 {
		to := len(out)
		for _, n := range out[from:to] {
			for _, label := range few {
				out = append(out, impl.Name{L: append([][]byte{[]byte(label)}, n.L...)})
			}
		}
		from = to
	}
	return out
}

// orderKey puts the last label first and ends each by a byte below all that labels may have:
// then keys ascend as texts just as their names do.
func orderKey(n impl.Name) string {
	key := ""
	for _, label := range slices.Backward(n.L) {
		key += string(label) + "\x01"
	}
	return key
}

func TestNamesAreInOrder(t *testing.T) {
	names := append(mixedNames(), goodNames()...)
	for _, a := range names {
		for _, b := range names {
			want := strings.Compare(orderKey(a), orderKey(b))
			if got := impl.NameCmp(a, b); got != want {
				t.Fatalf("NameCmp(%s, %s) = %d, want %d", told(a), told(b), got, want)
			}
			under := strings.HasPrefix(orderKey(a), orderKey(b))
			if got := impl.Under(a, b); got != under {
				t.Fatalf("Under(%s, %s) = %v", told(a), told(b), got)
			}
			if under && want < 0 {
				t.Fatalf("%s is under %s but not behind it", told(a), told(b))
			}
		}
	}
}

func TestNameCmpByLastLabelsFirst(t *testing.T) {
	w := longLabel()
	for _, c := range []struct {
		a, b impl.Name
		want int
	}{
		{labels(), labels(), 0},
		{labels(), labels("-"), -1},
		{labels("a"), labels(), 1},
		{labels("z", "a"), labels("a", "b"), -1},
		{labels("home"), labels("pc", "home"), -1},
		{labels("pc", "home"), labels("pc", "home"), 0},
		{labels("pc", "home"), labels("tv", "home"), -1},
		{labels("z", "z", "home"), labels("zz", "home"), -1},
		{labels("a", "home"), labels("ab", "home"), -1},
		{labels("a", "b"), labels("ab"), 1},
		{labels("9"), labels("a"), -1},
		{labels("-"), labels("0"), -1},
		{labels("a", w, w, w, w, w), labels("b", w, w, w, w, w), -1},
		{labels(w, w, w, w, w, w), labels(w, w, w, w, w, w), 0},
		{labels(w, w, w, w, w), labels(w, w, w, w, w, w), -1},
	} {
		if got := impl.NameCmp(c.a, c.b); got != c.want {
			t.Errorf("NameCmp(%s, %s) = %d, want %d", told(c.a), told(c.b), got, c.want)
		}
		if got := impl.NameCmp(c.b, c.a); got != -c.want {
			t.Errorf("NameCmp(%s, %s) = %d, want %d", told(c.b), told(c.a), got, -c.want)
		}
	}
}

func TestOrderOfWrongNames(t *testing.T) {
	for _, bad := range badNames() {
		for _, other := range append(badNames(), goodNames()...) {
			if impl.NameCmp(bad, other) != 0 || impl.NameCmp(other, bad) != 0 {
				t.Errorf("NameCmp of %s and %s is not 0", told(bad), told(other))
			}
			if impl.Under(bad, other) || impl.Under(other, bad) {
				t.Errorf("Under of %s and %s", told(bad), told(other))
			}
		}
	}
}

func TestUnder(t *testing.T) {
	for _, c := range []struct {
		n, zone impl.Name
		want    bool
	}{
		{labels("pc", "home"), labels("home"), true},
		{labels("home"), labels("home"), true},
		{labels("home"), labels(), true},
		{labels(), labels(), true},
		{labels(), labels("home"), false},
		{labels("xhome"), labels("home"), false},
		{labels("home", "x"), labels("home"), false},
		{labels("home"), labels("pc", "home"), false},
		{labels("a", "b", "c", "d", "e", "f"), labels("b", "c", "d", "e", "f"), true},
		{labels("a", "b", "c", "d", "e", "f"), labels("a", "b", "c", "d", "e", "f"), true},
		{labels("a", "x", "c"), labels("b", "c"), false},
		{labels("b", "x"), labels("b", "c"), false},
	} {
		if got := impl.Under(c.n, c.zone); got != c.want {
			t.Errorf("Under(%s, %s) = %v", told(c.n), told(c.zone), got)
		}
	}
}

func TestParentOfChildIsTheName(t *testing.T) {
	for _, n := range append(mixedNames(), goodNames()...) {
		for _, label := range []string{"a", "-", "cam", longLabel()} {
			child, ok := impl.Child(n, []byte(label))
			if len(n.L) == impl.MaxLabels {
				if ok || !isZeroName(child) {
					t.Errorf("Child(%s, %q) = %s, %v", told(n), label, told(child), ok)
				}
				continue
			}
			want := impl.Name{L: append([][]byte{[]byte(label)}, n.L...)}
			if !ok || told(child) != told(want) {
				t.Fatalf("Child(%s, %q) = %s, %v", told(n), label, told(child), ok)
			}
			if !impl.Under(child, n) || impl.NameCmp(child, n) != 1 {
				t.Fatalf("%s does not come behind %s", told(child), told(n))
			}
			parent, ok := impl.Parent(child)
			if !ok || told(parent) != told(n) {
				t.Fatalf("Parent(%s) = %s, %v", told(child), told(parent), ok)
			}
		}
	}
}

func TestChildRefuses(t *testing.T) {
	for _, label := range []string{"", "A", "Cam", "a.b", "a_b", "\xff", longLabel() + "w"} {
		for _, n := range []impl.Name{labels(), labels("home")} {
			if got, ok := impl.Child(n, []byte(label)); ok || !isZeroName(got) {
				t.Errorf("Child(%s, %q) = %s, %v", told(n), label, told(got), ok)
			}
		}
	}
	for _, n := range badNames() {
		if got, ok := impl.Child(n, []byte("a")); ok || !isZeroName(got) {
			t.Errorf("Child(%s, a) = %s, %v", told(n), told(got), ok)
		}
	}
	if got, ok := impl.Child(labels("home"), nil); ok || !isZeroName(got) {
		t.Error(told(got), ok)
	}
}

func TestParentRefuses(t *testing.T) {
	for _, n := range append(badNames(), labels()) {
		if got, ok := impl.Parent(n); ok || !isZeroName(got) {
			t.Errorf("Parent(%s) = %s, %v", told(n), told(got), ok)
		}
	}
	if got, ok := impl.Parent(labels("home")); !ok || !isZeroName(got) {
		t.Error("the root is the parent of home:", told(got), ok)
	}
}

func TestNamePut(t *testing.T) {
	for want, n := range map[string]impl.Name{
		"\x00":                         labels(),
		"\x04home\x00":                 labels("home"),
		"\x02pc\x04home\x00":           labels("pc", "home"),
		"\x01-\x010\x01z\x00":          labels("-", "0", "z"),
		"\x0f" + "wwwwwwwwwwwwwww\x00": labels(longLabel()),
	} {
		for _, prefix := range samplePrefixes() {
			got, ok := impl.NamePut(prefix, n)
			if !ok || string(got) != string(prefix)+want {
				t.Errorf("NamePut(%v, %s) = %v, %v", prefix, told(n), got, ok)
			}
		}
	}
	for _, n := range badNames() {
		for _, prefix := range samplePrefixes() {
			if got, ok := impl.NamePut(prefix, n); ok || len(got) != 0 {
				t.Errorf("NamePut(%v, %s) = %v, %v", prefix, told(n), got, ok)
			}
		}
	}
}

// expectName holds NameGet to a name and a place behind it.
func expectName(t *testing.T, msg []byte, at int, want impl.Name, behind int) {
	t.Helper()
	got, end := impl.NameGet(msg, at)
	if told(got) != told(want) || end != behind {
		t.Errorf("NameGet(%q, %d) = %s, %d, want %s, %d", msg, at, told(got), end, told(want), behind)
	}
}

func expectNoName(t *testing.T, msg []byte, at int) {
	t.Helper()
	expectName(t, msg, at, impl.Name{}, -1)
}

func TestNamesComeBackFromTheirBytes(t *testing.T) {
	for _, n := range append(mixedNames(), goodNames()...) {
		for _, prefix := range [][]byte{nil, {0}, {192, 0, 255}, bytes.Repeat([]byte{9}, 256), bytes.Repeat([]byte{192}, 300)} {
			b, _ := impl.NamePut(prefix, n)
			for _, behind := range [][]byte{nil, {0}, {192, 0}, {1, 'a', 0}, {255, 255, 255}} {
				msg := append(bytes.Clone(b), behind...)
				expectName(t, msg, len(prefix), n, len(b))
				great := append(bytes.Clone(prefix), greatLetters(msg[len(prefix):], 1)...)
				expectName(t, great, len(prefix), n, len(b))
			}
			msg := append(bytes.Clone(b), byte(192+len(prefix)>>8), byte(len(prefix)), 7)
			expectName(t, msg, len(b), n, len(b)+2)
			if len(n.L) < impl.MaxLabels {
				msg = append(bytes.Clone(b), 2, 'T', 'v', byte(192+len(prefix)>>8), byte(len(prefix)), 7)
				child, _ := impl.Child(n, []byte("tv"))
				expectName(t, msg, len(b), child, len(b)+5)
			}
		}
	}
}

func TestNameByPointers(t *testing.T) {
	msg := []byte("\x09\x02pc\x04home\x00\x02tv\xc0\x04\x03cam\xc0\x0a\xc0\x0f\x01x\xc0\x09")
	expectName(t, msg, 1, labels("pc", "home"), 10)
	expectName(t, msg, 4, labels("home"), 10)
	expectName(t, msg, 9, labels(), 10)
	expectName(t, msg, 10, labels("tv", "home"), 15)
	expectName(t, msg, 13, labels("home"), 15)
	expectName(t, msg, 15, labels("cam", "tv", "home"), 21)
	expectName(t, msg, 19, labels("tv", "home"), 21)
	expectName(t, msg, 21, labels("cam", "tv", "home"), 23)
	expectName(t, msg, 23, labels("x"), 27)
	expectNoName(t, msg, 0)
	expectNoName(t, msg, 2)
}

func TestNameGetOfTheRoot(t *testing.T) {
	expectName(t, []byte{0}, 0, labels(), 1)
	expectName(t, []byte{7, 0, 7}, 1, labels(), 2)
	expectName(t, []byte{0, 192, 0}, 1, labels(), 3)
}

func TestPointerLeadsAheadOfItself(t *testing.T) {
	expectName(t, []byte{0, 192, 0}, 1, labels(), 3)
	expectName(t, []byte{5, 0, 192, 1}, 2, labels(), 4)
	expectNoName(t, []byte{192, 0}, 0)
	expectNoName(t, []byte{0, 192, 1}, 1)
	expectNoName(t, []byte{0, 192, 2}, 1)
	expectNoName(t, []byte{0, 192, 3, 0}, 1)
	expectNoName(t, []byte{192, 2, 0}, 0)
	expectNoName(t, []byte{192, 2, 192, 0}, 2)
	expectNoName(t, []byte{1, 'a', 192, 0}, 0)
	expectNoName(t, []byte{1, 'a', 192, 0}, 2)
	expectNoName(t, []byte{0, 192}, 1)
	expectNoName(t, []byte{0, 1, 'a', 192}, 1)
	expectNoName(t, []byte{0, 193, 0}, 1)
	expectNoName(t, []byte{0, 255, 0}, 1)
	expectNoName(t, []byte{0, 255, 255}, 1)
}

func TestPointerAboveAByte(t *testing.T) {
	msg := bytes.Repeat([]byte{9}, 300)
	copy(msg[260:], "\x01k\x00")
	copy(msg[290:], "\x01j\xc1\x04")
	expectName(t, msg, 290, labels("j", "k"), 294)
	copy(msg[292:], "\xc0\x04")
	expectNoName(t, msg, 290)
	copy(msg[255:], "\x02ab\x01c\x00")
	copy(msg[292:], "\xc0\xff")
	expectName(t, msg, 290, labels("j", "ab", "c"), 294)
}

func TestNameGetBytesBetweenLabelsAndPointers(t *testing.T) {
	for c := impl.MaxLabel + 1; c < 192; c++ {
		expectNoName(t, append([]byte{0, byte(c)}, make([]byte, 300)...), 1)
		body := bytes.Repeat([]byte{'a'}, 300)
		body[c] = 0
		expectNoName(t, append([]byte{byte(c)}, body...), 0)
		expectNoName(t, append([]byte{1, 'a', byte(c)}, body...), 0)
	}
}

// chain is a message of a name, n pointers, each to the one ahead, and the place of the last one.
func chain(n int) ([]byte, int) {
	msg := []byte("\x01e\x00")
	at := 0
	for range n {
		next := len(msg)
		msg = append(msg, 192, byte(at))
		at = next
	}
	return msg, at
}

func TestHops(t *testing.T) {
	for hops := range 12 {
		msg, at := chain(hops)
		for _, behind := range [][]byte{nil, {0}} {
			all := append(bytes.Clone(msg), behind...)
			if hops <= impl.MaxHops {
				expectName(t, all, at, labels("e"), max(len(msg), 3))
			} else {
				expectNoName(t, all, at)
			}
		}
	}
}

// A label ahead of each pointer must not give pointers anew.
func TestHopsWithLabels(t *testing.T) {
	msg, at := chain(impl.MaxHops - 1)
	expectName(t, append(bytes.Clone(msg), 1, 'd', 192, byte(at)), len(msg), labels("d", "e"), len(msg)+4)
	msg, at = chain(impl.MaxHops)
	expectNoName(t, append(bytes.Clone(msg), 1, 'd', 192, byte(at)), len(msg))
}

func TestLabelsByPointers(t *testing.T) {
	for many := 1; many <= impl.MaxLabels+2; many++ {
		msg := []byte{0}
		var want impl.Name
		at := 0
		for i := range many {
			next := len(msg)
			label := byte('a' + i)
			msg = append(msg, 1, label, 192, byte(at))
			want.L = append([][]byte{{label}}, want.L...)
			at = next
		}
		if many <= impl.MaxLabels {
			expectName(t, msg, at, want, len(msg))
		} else {
			expectNoName(t, msg, at)
		}
		flat := append(bytes.Repeat([]byte{1, 'a'}, many), 0)
		if _, end := impl.NameGet(flat, 0); (end == len(flat)) != (many <= impl.MaxLabels) {
			t.Errorf("%d labels: %d", many, end)
		}
	}
}

func TestNameGetRefusesWrongLabels(t *testing.T) {
	for c := range 256 {
		msg := []byte{2, 'a', byte(c), 0}
		if impl.LabelOk(smallLetters([]byte{byte(c)})) {
			expectName(t, msg, 0, impl.Name{L: [][]byte{smallLetters([]byte{'a', byte(c)})}}, 4)
		} else {
			expectNoName(t, msg, 0)
		}
	}
}

func TestNameGetPlacesOutside(t *testing.T) {
	msg := []byte("\x02pc\x04home\x00\x00\x00")
	for _, at := range []int{-1, -2, -len(msg), math.MinInt, math.MinInt + 1, len(msg), len(msg) + 1, 512, 513, 1 << 16, 1 << 32, math.MaxInt, math.MaxInt - 1} {
		expectNoName(t, msg, at)
	}
	expectNoName(t, nil, 0)
	expectNoName(t, nil, -1)
	expectNoName(t, []byte{}, 0)
}

func TestNameGetCutOff(t *testing.T) {
	for _, n := range goodNames() {
		b, _ := impl.NamePut([]byte{0, 0}, n)
		for size := range len(b) {
			expectNoName(t, b[:size], 2)
		}
		expectName(t, b, 2, n, len(b))
	}
	b := []byte("\x04home\x00\x02pc\xc0\x00")
	for size := 6; size < len(b); size++ {
		expectNoName(t, b[:size], 6)
	}
	expectName(t, b, 6, labels("pc", "home"), len(b))
}

func TestNameGetOfLongMessages(t *testing.T) {
	for size := 509; size <= 516; size++ {
		msg := make([]byte, size)
		copy(msg, "\x02pc\x04home\x00")
		copy(msg[size-4:], "\x01a\xc0\x03")
		if size <= impl.MaxBytes {
			expectName(t, msg, 0, labels("pc", "home"), 9)
			expectName(t, msg, size-4, labels("a", "home"), size)
			expectName(t, msg, 100, labels(), 101)
		} else {
			expectNoName(t, msg, 0)
			expectNoName(t, msg, size-4)
			expectNoName(t, msg, 100)
		}
	}
	expectNoName(t, make([]byte, 100000), 0)
}

var labelForm = regexp.MustCompile(`\A[a-z0-9-]+\z`)

// readName says again, by calling itself for what follows, what NameGet does; false where there is no name.
func readName(msg []byte, at int, hops int) ([]string, int, bool) {
	if at < 0 || at >= len(msg) || len(msg) > 512 || hops > 8 {
		return nil, 0, false
	}
	first := int(msg[at])
	if first == 0 {
		return nil, at + 1, true
	}
	if first >= 192 {
		if at+1 >= len(msg) || (first-192)*256+int(msg[at+1]) >= at {
			return nil, 0, false
		}
		l, _, ok := readName(msg, (first-192)*256+int(msg[at+1]), hops+1)
		return l, at + 2, ok
	}
	if first > 15 || at+1+first > len(msg) {
		return nil, 0, false
	}
	label := string(smallLetters(msg[at+1 : at+1+first]))
	l, end, ok := readName(msg, at+1+first, hops)
	if !ok || len(l) >= 6 || !labelForm.MatchString(label) {
		return nil, 0, false
	}
	return append([]string{label}, l...), end, true
}

func checkAgainstReader(t *testing.T, msg []byte) {
	t.Helper()
	for at := -1; at <= len(msg); at++ {
		l, end, ok := readName(msg, at, 0)
		if !ok {
			expectNoName(t, msg, at)
			continue
		}
		expectName(t, msg, at, labels(l...), end)
		n, _ := impl.NameGet(msg, at)
		b, wrote := impl.NamePut(nil, n)
		if !wrote {
			t.Fatalf("NamePut refuses what NameGet(%q, %d) read", msg, at)
		}
		expectName(t, b, 0, n, len(b))
	}
	if t.Failed() {
		t.FailNow()
	}
}

func TestSmallMessages(t *testing.T) {
	signs := []byte{0, 1, 2, 'a', 'B', '.', 192, 193}
	var walk func(msg []byte)
	walk = func(msg []byte) {
		checkAgainstReader(t, msg)
		if len(msg) == 5 {
			return
		}
		for _, c := range signs {
			walk(append(msg[:len(msg):len(msg)], c))
		}
	}
	walk(nil)
}

func TestMixedMessages(t *testing.T) {
	x := uint64(7)
	next := func(n int) int {
		x = x*6364136223846793005 + 1442695040888963407
		return int(x>>33) % n
	}
	for range 3000 {
		var msg []byte
		size := 4 + next(60)
		for len(msg) < size {
			switch next(5) {
			case 0, 1:
				msg = append(msg, 1, "aZ9-"[next(4)])
			case 2:
				msg = append(msg, 192, byte(next(len(msg)+2)))
			case 3:
				msg = append(msg, 0)
			default:
				msg = append(msg, byte(next(256)))
			}
		}
		checkAgainstReader(t, msg)
	}
}

func TestReverse(t *testing.T) {
	for ip, want := range map[int]string{
		0:          "0.0.0.0.in-addr.arpa.",
		3:          "3.0.0.0.in-addr.arpa.",
		167772163:  "3.0.0.10.in-addr.arpa.",
		16909060:   "4.3.2.1.in-addr.arpa.",
		3232235777: "1.1.168.192.in-addr.arpa.",
		1<<32 - 1:  "255.255.255.255.in-addr.arpa.",
		1<<32 - 2:  "254.255.255.255.in-addr.arpa.",
	} {
		n, ok := impl.Reverse(ip)
		if !ok || string(impl.NameText(n)) != want {
			t.Errorf("Reverse(%d) = %s, %v", ip, told(n), ok)
		}
	}
	for _, ip := range []int{-1, -2, -1 << 32, 1 << 32, 1<<32 + 1, math.MaxInt, math.MinInt} {
		if n, ok := impl.Reverse(ip); ok || !isZeroName(n) {
			t.Errorf("Reverse(%d) = %s, %v", ip, told(n), ok)
		}
	}
}

func TestTwoAddressesHaveTwoNames(t *testing.T) {
	seen := map[string]int{}
	for _, ip := range sampleNumbers(1<<32 - 1) {
		n, ok := impl.Reverse(ip)
		if !ok || !impl.NameOk(n) || !impl.Under(n, labels("in-addr", "arpa")) || len(n.L) != impl.MaxLabels {
			t.Fatalf("Reverse(%d) = %s, %v", ip, told(n), ok)
		}
		key := string(impl.NameText(n))
		if other, ok := seen[key]; ok && other != ip {
			t.Fatalf("%d and %d are both %s", ip, other, key)
		}
		seen[key] = ip
		parts := strings.Split(key, ".")
		slices.Reverse(parts[:4])
		if back, ok := impl.DottedRead([]byte(strings.Join(parts[:4], "."))); !ok || back != ip {
			t.Fatalf("%s comes back as %d, not %d", key, back, ip)
		}
	}
}

// roomyName has a name's labels in lists with spare room behind each, the outer one, too.
func roomyName(n impl.Name) impl.Name {
	var room [][]byte
	for _, label := range n.L {
		room = append(room, append(bytes.Clone(label), "SPARE"...)[:len(label)])
	}
	room = append(room, []byte("spare"), []byte("room"))
	return impl.Name{L: room[:len(n.L)]}
}

// wholeName tells all that a name holds, the spare room, too.
func wholeName(n impl.Name) string {
	var out strings.Builder
	for _, label := range n.L[:cap(n.L)] {
		out.WriteString(strconv.Quote(string(label[:cap(label)])))
	}
	return out.String()
}

// scribbleName turns every byte of a name's labels and then lets the labels themselves be others.
func scribbleName(n impl.Name) {
	l := n.L[:cap(n.L)]
	for _, label := range l {
		scribble(label)
	}
	for i := range l {
		l[i] = []byte("turned")
	}
}

// nameCalls are calls of every function that takes a name; each gives the name and the bytes that it answers.
func nameCalls() map[string]func(n impl.Name, b []byte) (impl.Name, []byte) {
	return map[string]func(n impl.Name, b []byte) (impl.Name, []byte){
		"LabelOk":  func(n impl.Name, b []byte) (impl.Name, []byte) { impl.LabelOk(b); return impl.Name{}, nil },
		"NameOk":   func(n impl.Name, b []byte) (impl.Name, []byte) { impl.NameOk(n); return impl.Name{}, nil },
		"NameCmp":  func(n impl.Name, b []byte) (impl.Name, []byte) { impl.NameCmp(n, n); return impl.Name{}, nil },
		"Under":    func(n impl.Name, b []byte) (impl.Name, []byte) { impl.Under(n, n); return impl.Name{}, nil },
		"NameText": func(n impl.Name, b []byte) (impl.Name, []byte) { return impl.Name{}, impl.NameText(n) },
		"NameRead": func(n impl.Name, b []byte) (impl.Name, []byte) { m, _ := impl.NameRead(b); return m, nil },
		"Parent":   func(n impl.Name, b []byte) (impl.Name, []byte) { m, _ := impl.Parent(n); return m, nil },
		"Child":    func(n impl.Name, b []byte) (impl.Name, []byte) { m, _ := impl.Child(n, b); return m, nil },
		"NamePut":  func(n impl.Name, b []byte) (impl.Name, []byte) { l, _ := impl.NamePut(b, n); return impl.Name{}, l },
		"NameGet":  func(n impl.Name, b []byte) (impl.Name, []byte) { m, _ := impl.NameGet(b, 0); return m, nil },
		"Reverse":  func(n impl.Name, b []byte) (impl.Name, []byte) { m, _ := impl.Reverse(16909060); return m, nil },
	}
}

func TestNameAnswersAreNewMemory(t *testing.T) {
	for call, run := range nameCalls() {
		for _, plain := range append(goodNames(), badNames()...) {
			for _, text := range []string{"", "pc", "pc.home.", "PC.home", "\x02pc\x04home\x00", "\x02PC\x00"} {
				n := roomyName(plain)
				room := append([]byte(text), "SPAREROOM"...)
				b := room[:len(text)]
				before := wholeName(n) + string(room)
				first, firstBytes := run(n, b)
				second, secondBytes := run(n, b)
				if wholeName(n)+string(room) != before {
					t.Fatalf("%s of %s and %q wrote into an argument", call, told(plain), text)
				}
				want, wantBytes := told(second), string(secondBytes)
				scribbleName(first)
				scribble(firstBytes)
				if wholeName(n)+string(room) != before || told(second) != want || string(secondBytes) != wantBytes {
					t.Fatalf("%s of %s and %q shares memory", call, told(plain), text)
				}
				scribbleName(n)
				scribble(room)
				if told(second) != want || string(secondBytes) != wantBytes {
					t.Fatalf("%s of %s and %q keeps its argument", call, told(plain), text)
				}
				checkLabelsApart(t, call, second)
			}
		}
	}
}

// checkLabelsApart turns one label after the other and looks at those that were not turned.
func checkLabelsApart(t *testing.T, call string, n impl.Name) {
	t.Helper()
	for i, label := range n.L {
		rest := told(impl.Name{L: n.L[i+1:]})
		scribble(label)
		if told(impl.Name{L: n.L[i+1:]}) != rest {
			t.Fatalf("%s: two labels of %s share memory", call, told(n))
		}
	}
	for i, label := range slices.Backward(n.L) {
		rest := told(impl.Name{L: n.L[:i]})
		scribble(label)
		if told(impl.Name{L: n.L[:i]}) != rest {
			t.Fatalf("%s: two labels of %s share memory", call, told(n))
		}
	}
}

func TestSpareRoomOfNamesIsNotRead(t *testing.T) {
	for _, plain := range goodNames() {
		n := roomyName(plain)
		if !impl.NameOk(n) || impl.NameCmp(n, plain) != 0 || string(impl.NameText(n)) != string(impl.NameText(plain)) {
			t.Errorf("%s is not %s", told(n), told(plain))
		}
	}
	msg := []byte("\x02pc\x00")
	expectNoName(t, msg[:3], 0)
	expectNoName(t, msg[:2], 0)
	expectNoName(t, []byte{0, 192, 0}[:2], 1)
	if n, ok := impl.NameRead([]byte("pc..")[:3]); !ok || told(n) != told(labels("pc")) {
		t.Error(told(n), ok)
	}
	if n, ok := impl.Child(labels(), []byte("abc")[:1]); !ok || told(n) != told(labels("a")) {
		t.Error(told(n), ok)
	}
}
