package tests

import (
	"bytes"
	"math"
	"regexp"
	"strings"
	"testing"

	"loop.example/g00422/impl"
)

// numberForm is one of the two ways in which numbers stand in bytes.
type numberForm struct {
	name string
	size int
	max  int
	put  func([]byte, int) []byte
	get  func([]byte, int) (int, int)
}

func numberForms() []numberForm {
	return []numberForm{
		{"16", 2, 65535, impl.Put16, impl.Get16},
		{"32", 4, 4294967295, impl.Put32, impl.Get32},
	}
}

func sampleNumbers(max int) []int {
	l := []int{0, 1, 2, 127, 128, 255, 256, 257, 258, 32767, 32768, max - 1, max}
	for bit := 1; bit <= max; bit <<= 1 {
		l = append(l, bit-1, bit, max-bit)
	}
	x := uint64(1)
	for range 2000 {
		x = x*6364136223846793005 + 1442695040888963407
		l = append(l, int(x>>32)&max)
	}
	return l
}

func samplePrefixes() [][]byte {
	return [][]byte{nil, {}, {0}, {255, 0, 7}, bytes.Repeat([]byte{9}, impl.MaxBytes+1)}
}

// highestFirst works out by division what the bytes of a number must be.
func highestFirst(n int, size int) []byte {
	out := make([]byte, size)
	for i := size - 1; i >= 0; i-- {
		out[i] = byte(n % 256)
		n /= 256
	}
	return out
}

func TestMaxBytes(t *testing.T) {
	if impl.MaxBytes != 512 {
		t.Fatal(impl.MaxBytes)
	}
}

func TestNumbersComeBackFromTheirBytes(t *testing.T) {
	for _, f := range numberForms() {
		for _, n := range sampleNumbers(f.max) {
			for _, prefix := range samplePrefixes() {
				got := f.put(prefix, n)
				want := append(bytes.Clone(prefix), highestFirst(n, f.size)...)
				if !bytes.Equal(got, want) {
					t.Fatalf("Put%s(%v, %d) = %v, want %v", f.name, prefix, n, got, want)
				}
				for _, behind := range [][]byte{nil, {1, 2, 3, 4, 5}} {
					all := append(bytes.Clone(got), behind...)
					m, end := f.get(all, len(prefix))
					if m != n || end != len(prefix)+f.size {
						t.Fatalf("Get%s(%v, %d) = %d, %d, want %d, %d", f.name, all, len(prefix), m, end, n, len(prefix)+f.size)
					}
				}
			}
		}
	}
}

func TestAllNumbersOfTwoBytes(t *testing.T) {
	for n := range 65536 {
		if m, end := impl.Get16(impl.Put16(nil, n), 0); m != n || end != 2 {
			t.Fatalf("%d came back as %d, %d", n, m, end)
		}
	}
}

func TestReadNumbersAreWrittenAsTheyStood(t *testing.T) {
	b := []byte{0, 0, 0, 0, 1, 127, 128, 255, 255, 255, 255, 65, 200, 3}
	for _, f := range numberForms() {
		for at := 0; at+f.size <= len(b); at++ {
			n, end := f.get(b, at)
			if end != at+f.size || !bytes.Equal(f.put(nil, n), b[at:end]) {
				t.Fatalf("Get%s at %d = %d, %d", f.name, at, n, end)
			}
		}
	}
}

func TestPutRefusesNumbersOutside(t *testing.T) {
	for _, f := range numberForms() {
		for _, n := range []int{-1, -2, -f.max, -f.max - 1, math.MinInt, math.MinInt + 1, f.max + 1, f.max + 2, 2*f.max + 1, math.MaxInt} {
			for _, prefix := range samplePrefixes() {
				if got := f.put(prefix, n); !bytes.Equal(got, prefix) {
					t.Errorf("Put%s(%v, %d) = %v", f.name, prefix, n, got)
				}
			}
		}
	}
}

func TestGetRefusesPlacesOutside(t *testing.T) {
	for _, f := range numberForms() {
		for length := range 8 {
			b := bytes.Repeat([]byte{1}, length)
			places := []int{-1, -2, -f.size, -f.size + 1, math.MinInt, math.MinInt + 1, math.MaxInt, math.MaxInt - 1, math.MaxInt - f.size + 1, math.MaxInt - f.size, length, length + 1}
			for at := max(0, length-f.size+1); at < length; at++ {
				places = append(places, at)
			}
			for _, at := range places {
				if n, end := f.get(b, at); n != 0 || end != -1 {
					t.Errorf("Get%s of %d bytes at %d = %d, %d", f.name, length, at, n, end)
				}
			}
		}
	}
}

func TestNumberEndsWhereTheBytesEnd(t *testing.T) {
	b := []byte{9, 9, 1, 2, 3, 4}
	if n, end := impl.Get16(b, 4); n != 772 || end != 6 {
		t.Error(n, end)
	}
	if n, end := impl.Get32(b, 2); n != 16909060 || end != 6 {
		t.Error(n, end)
	}
}

func TestTake(t *testing.T) {
	b := []byte{10, 11, 12, 13, 14}
	for at := range len(b) + 1 {
		for n := range len(b) - at + 1 {
			got, end := impl.Take(b, at, n)
			if !bytes.Equal(got, b[at:at+n]) || end != at+n {
				t.Errorf("Take(b, %d, %d) = %v, %d", at, n, got, end)
			}
		}
	}
	if got, end := impl.Take(nil, 0, 0); len(got) != 0 || end != 0 {
		t.Error("no bytes of nothing:", got, end)
	}
}

func TestTakeRefuses(t *testing.T) {
	b := []byte{10, 11, 12, 13, 14}
	for _, c := range [][2]int{
		{-1, 0}, {-1, 1}, {-1, 2}, {-5, 5}, {0, -1}, {3, -1}, {5, -1}, {5, -5}, {-1, -1},
		{0, 6}, {1, 5}, {4, 2}, {5, 1}, {6, 0}, {6, 1}, {6, -1}, {7, 0},
		{math.MaxInt, 0}, {math.MaxInt, 1}, {math.MaxInt, math.MaxInt}, {math.MaxInt - 1, 3},
		{1, math.MaxInt}, {5, math.MaxInt}, {0, math.MaxInt}, {math.MinInt, math.MinInt},
		{math.MinInt, 0}, {0, math.MinInt}, {math.MinInt, math.MaxInt}, {math.MaxInt, math.MinInt},
	} {
		if got, end := impl.Take(b, c[0], c[1]); len(got) != 0 || end != -1 {
			t.Errorf("Take(b, %d, %d) = %v, %d", c[0], c[1], got, end)
		}
	}
	if got, end := impl.Take(nil, 0, 1); len(got) != 0 || end != -1 {
		t.Error("a byte of nothing:", got, end)
	}
}

// smallLetters goes byte by byte, so it knows nothing of runes.
func smallLetters(b []byte) []byte {
	const great, small = "ABCDEFGHIJKLMNOPQRSTUVWXYZ", "abcdefghijklmnopqrstuvwxyz"
	out := bytes.Clone(b)
	for i, c := range b {
		if at := strings.IndexByte(great, c); at >= 0 {
			out[i] = small[at]
		}
	}
	return out
}

func TestLowerOrdinaryAndEdges(t *testing.T) {
	for text, want := range map[string]string{
		"":              "",
		"aB9":           "ab9",
		"@AZ[":          "@az[",
		"`az{":          "`az{",
		"Host-1.HOME.":  "host-1.home.",
		"\x00A\x7fZ":    "\x00a\x7fz",
		"\u00c4A\u212a": "\u00c4a\u212a",
		"\xffA\xc3B":    "\xffa\xc3b",
		"\xe2\x82Z":     "\xe2\x82z",
		"\xf0\x9f\x98A": "\xf0\x9f\x98a",
		"\ufffdQ":       "\ufffdq",
	} {
		if got := impl.Lower([]byte(text)); string(got) != want {
			t.Errorf("Lower(%q) = %q, want %q", text, got, want)
		}
	}
	if got := impl.Lower(nil); len(got) != 0 {
		t.Error(got)
	}
}

func TestLowerAllPairsOfBytes(t *testing.T) {
	for n := range 65536 {
		pair := []byte{byte(n >> 8), byte(n)}
		for _, b := range [][]byte{pair[1:], pair, {pair[0], pair[1], 'A'}, {0xe2, pair[0], pair[1]}} {
			got := impl.Lower(b)
			if !bytes.Equal(got, smallLetters(b)) {
				t.Fatalf("Lower(%q) = %q", b, got)
			}
			if !bytes.Equal(impl.Lower(got), got) {
				t.Fatalf("Lower twice of %q", b)
			}
		}
	}
}

func TestDotted(t *testing.T) {
	for n, want := range map[int]string{
		0:               "0.0.0.0",
		1:               "0.0.0.1",
		255:             "0.0.0.255",
		256:             "0.0.1.0",
		65536:           "0.1.0.0",
		1 << 24:         "1.0.0.0",
		167772163:       "10.0.0.3",
		3232235777:      "192.168.1.1",
		2147483648:      "128.0.0.0",
		1<<32 - 1:       "255.255.255.255",
		1<<32 - 2:       "255.255.255.254",
		16909060:        "1.2.3.4",
		-1:              "",
		-1 << 32:        "",
		1 << 32:         "",
		1<<32 + 1:       "",
		math.MaxInt:     "",
		math.MinInt:     "",
		math.MinInt + 1: "",
	} {
		if got := impl.Dotted(n); string(got) != want {
			t.Errorf("Dotted(%d) = %q, want %q", n, got, want)
		}
	}
}

func TestAddressesComeBackFromTheirTexts(t *testing.T) {
	numbers := sampleNumbers(1<<32 - 1)
	for part := range 256 {
		for place := range 4 {
			numbers = append(numbers, part<<(8*place))
		}
	}
	for _, n := range numbers {
		text := impl.Dotted(n)
		if m, ok := impl.DottedRead(text); !ok || m != n {
			t.Fatalf("DottedRead(%q) = %d, %v, want %d", text, m, ok, n)
		}
	}
}

func TestDottedReadRefuses(t *testing.T) {
	for _, text := range []string{
		"", ".", "..", "...", "....", "1", "1.2", "1.2.3", "1.2.3.4.5", "1.2.3.4.", ".1.2.3.4", "1..3.4", "1.2.3.", ".2.3.4", "1.2..3.4",
		"01.2.3.4", "1.02.3.4", "1.2.003.4", "10.0.0.03", "00.0.0.0", "0.0.0.00", "1.2.3.0004",
		"256.0.0.0", "0.256.0.0", "0.0.256.0", "0.0.0.256", "0.0.0.260", "0.0.0.300", "0.0.0.999", "0.0.0.1000", "0.0.0.4294967296",
		"0.0.0.18446744073709551616", "0.0.0.18446744073709551617", "0.0.0." + strings.Repeat("9", 5000), strings.Repeat("1.", 5000),
		"+1.2.3.4", "1.2.3.+4", "-1.2.3.4", "1.2.3.-4", "-0.0.0.0", "1.2.3.4-",
		" 1.2.3.4", "1.2.3.4 ", "1. 2.3.4", "1.2 .3.4", "1.2.3.4\n", "\t1.2.3.4", "1.2.3.4\x00", "\x001.2.3.4",
		"1,2,3,4", "1.2.3,4", "1:2:3:4", "a.b.c.d", "1.2.3.a", "0x1.2.3.4", "1e1.2.3.4", "1_0.2.3.4", "1.2.3./", "1.2.3.:",
		"\u0661.2.3.4", "1.2.3.\uff14", "1.2.3.\xff", "1\u30022.3.4", "16909060",
	} {
		if n, ok := impl.DottedRead([]byte(text)); n != 0 || ok {
			t.Errorf("DottedRead(%q) = %d, %v", text, n, ok)
		}
	}
	if n, ok := impl.DottedRead(nil); n != 0 || ok {
		t.Error(n, ok)
	}
}

// changedTexts are those one byte away from b: one turned, put in or left out.
func changedTexts(b []byte) [][]byte {
	var out [][]byte
	for at := range len(b) + 1 {
		for c := range 256 {
			out = append(out, bytes.Join([][]byte{b[:at], b[at:]}, []byte{byte(c)}))
			if at < len(b) {
				out = append(out, bytes.Join([][]byte{b[:at], b[at+1:]}, []byte{byte(c)}))
			}
		}
		if at < len(b) {
			out = append(out, bytes.Join([][]byte{b[:at], b[at+1:]}, nil))
		}
	}
	return out
}

func TestDottedReadTakesJustWhatDottedWrites(t *testing.T) {
	part := `(0|[1-9][0-9]?|1[0-9][0-9]|2[0-4][0-9]|25[0-5])`
	form := regexp.MustCompile(`\A` + part + `\.` + part + `\.` + part + `\.` + part + `\z`)
	for _, text := range []string{"0.0.0.0", "10.0.0.3", "1.20.255.4", "255.255.255.255", "99.100.199.200", "249.250.9.0"} {
		for _, b := range changedTexts([]byte(text)) {
			n, ok := impl.DottedRead(b)
			if ok != form.Match(b) {
				t.Fatalf("DottedRead(%q) = %d, %v", b, n, ok)
			}
			if ok && string(impl.Dotted(n)) != string(b) || !ok && n != 0 {
				t.Fatalf("DottedRead(%q) = %d, which is %q", b, n, impl.Dotted(n))
			}
		}
	}
}

// byteCalls are calls of every function that takes a list of bytes; those that answer none give nil.
func byteCalls() map[string]func([]byte) []byte {
	return map[string]func([]byte) []byte{
		"Put16":         func(b []byte) []byte { return impl.Put16(b, 258) },
		"Put16 refuses": func(b []byte) []byte { return impl.Put16(b, 65536) },
		"Put32":         func(b []byte) []byte { return impl.Put32(b, 16909060) },
		"Put32 refuses": func(b []byte) []byte { return impl.Put32(b, -1) },
		"Take all":      func(b []byte) []byte { l, _ := impl.Take(b, 0, len(b)); return l },
		"Take some":     func(b []byte) []byte { l, _ := impl.Take(b, 1, 2); return l },
		"Take none":     func(b []byte) []byte { l, _ := impl.Take(b, len(b), 0); return l },
		"Lower":         impl.Lower,
		"Get16":         func(b []byte) []byte { impl.Get16(b, 0); return nil },
		"Get32":         func(b []byte) []byte { impl.Get32(b, 0); return nil },
		"DottedRead":    func(b []byte) []byte { impl.DottedRead(b); return nil },
	}
}

// scribble turns every byte of b, those in its spare room, too.
func scribble(b []byte) {
	b = b[:cap(b)]
	for i := range b {
		b[i] ^= 0x55
	}
}

func TestAnswersAreNewMemory(t *testing.T) {
	for name, call := range byteCalls() {
		for _, text := range []string{"", "ab", "AbCZ", "10.0.0.3", "aaaaaaaa"} {
			room := append([]byte(text), "SPAREROOM"...)
			before := string(room)
			arg := room[:len(text)]
			first, second := call(arg), call(arg)
			if string(room) != before {
				t.Fatalf("%s wrote into its argument %q: %q", name, before, room)
			}
			told := string(second)
			scribble(first)
			if string(room) != before || string(second) != told {
				t.Fatalf("%s of %q shares memory", name, text)
			}
			scribble(room)
			if string(second) != told {
				t.Fatalf("%s of %q keeps its argument", name, text)
			}
		}
	}
	first, second := impl.Dotted(16909060), impl.Dotted(16909060)
	scribble(first)
	if string(second) != "1.2.3.4" {
		t.Fatal("Dotted shares memory")
	}
}

func TestSpareRoomIsNotRead(t *testing.T) {
	room := []byte("1.2.3.4A")
	if n, end := impl.Get16(room[:3], 2); n != 0 || end != -1 {
		t.Error("Get16:", n, end)
	}
	if n, end := impl.Get32(room[:3], 0); n != 0 || end != -1 {
		t.Error("Get32:", n, end)
	}
	if l, end := impl.Take(room[:3], 1, 3); len(l) != 0 || end != -1 {
		t.Error("Take:", l, end)
	}
	if n, ok := impl.DottedRead(room[:6]); n != 0 || ok {
		t.Error("DottedRead:", n, ok)
	}
	if got := impl.Lower(room[:7]); string(got) != "1.2.3.4" {
		t.Error("Lower:", got)
	}
	if got := impl.Put16(room[:1], 0); string(got) != "1\x00\x00" {
		t.Error("Put16:", got)
	}
}
