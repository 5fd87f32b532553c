package tests

import (
	"bytes"
	"fmt"
	"math"
	"slices"
	"strconv"
	"strings"
	"testing"

	"loop.example/g00422/impl"
)

// typeTexts are all types that a record may have.
func typeTexts() map[int]string {
	return map[int]string{1: "A", 2: "NS", 5: "CNAME", 6: "SOA", 12: "PTR", 16: "TXT", 49: "DHCID"}
}

func typeNumbers() []int {
	return []int{1, 2, 5, 6, 12, 16, 49}
}

func wrongTypes() []int {
	return []int{0, -1, 3, 4, 7, 11, 13, 15, 17, 48, 50, 254, 255, 256, 257, 258, 65535, 65536, 65537, 1<<32 + 1, math.MaxInt, math.MinInt, math.MinInt + 1}
}

// toldRr tells records apart, those that are not RrOk, too; an empty list and nil are told alike.
func toldRr(r impl.Rr) string {
	return fmt.Sprintf("{%s type %d ttl %d addr %d to %s text %q nums %v}", told(r.Name), r.Type, r.Ttl, r.Addr, told(r.To), r.Text, r.Nums)
}

func isZeroRr(r impl.Rr) bool {
	return toldRr(r) == toldRr(impl.Rr{})
}

// said is a record with its data alone, and how these must stand in bytes and in a text.
type said struct {
	rr    impl.Rr
	bytes string
	words string
}

func hasTo(ty int) bool {
	return ty == 2 || ty == 5 || ty == 6 || ty == 12
}

func bytesOfName(n impl.Name) string {
	out := ""
	for _, label := range n.L {
		out += string([]byte{byte(len(label))}) + string(label)
	}
	return out + "\x00"
}

func wordsOfName(n impl.Name) string {
	out := ""
	for _, label := range n.L {
		out += string(label) + "."
	}
	if out == "" {
		return "."
	}
	return out
}

func targets() []impl.Name {
	w := longLabel()
	return []impl.Name{labels(), {L: [][]byte{}}, labels("a"), labels("b"), labels("-"), labels("home"), labels("pc", "home"), labels("a", "a"), labels("1", "2", "3", "4", "5", "6"), labels(w, w, w, w, w, w)}
}

func saidAddresses() []said {
	var out []said
	for _, c := range []struct {
		addr  int
		words string
	}{
		{0, "0.0.0.0"}, {1, "0.0.0.1"}, {255, "0.0.0.255"}, {256, "0.0.1.0"}, {16909060, "1.2.3.4"}, {167772163, "10.0.0.3"},
		{1<<31 - 1, "127.255.255.255"}, {1 << 31, "128.0.0.0"}, {1<<32 - 2, "255.255.255.254"}, {1<<32 - 1, "255.255.255.255"},
	} {
		out = append(out, said{impl.Rr{Type: 1, Addr: c.addr}, string(highestFirst(c.addr, 4)), c.words})
	}
	return out
}

func saidNames() []said {
	var out []said
	for _, to := range targets() {
		for _, ty := range []int{2, 5, 12} {
			out = append(out, said{impl.Rr{Type: ty, To: to}, bytesOfName(to), wordsOfName(to)})
		}
		for _, nums := range [][]int{{0, 0}, {7, 30}, {1<<32 - 1, 100000}, {1<<32 - 1, 0}, {0, 100000}, {1 << 31, 99999}, {16909060, 258}} {
			b := bytesOfName(to) + string(highestFirst(nums[0], 4)) + string(highestFirst(nums[1], 4))
			words := wordsOfName(to) + " " + strconv.Itoa(nums[0]) + " " + strconv.Itoa(nums[1])
			out = append(out, said{impl.Rr{Type: 6, To: to, Nums: nums}, b, words})
		}
	}
	return out
}

func saidTexts() []said {
	texts := [][]byte{nil, {}, {0}, {255}, []byte("a"), []byte("Ab.Z"), {192, 0}, {3, 'a'}, bytes.Repeat([]byte{'x'}, 39), bytes.Repeat([]byte{'Q'}, 40), bytes.Repeat([]byte{0}, 40)}
	for from := 0; from < 256; from += 32 {
		var text []byte
		for c := range 32 {
			text = append(text, byte(from+c))
		}
		texts = append(texts, text)
	}
	var out []said
	for _, text := range texts {
		words := ""
		for _, c := range text {
			words += fmt.Sprintf("%02x", c)
		}
		for _, ty := range []int{16, 49} {
			out = append(out, said{impl.Rr{Type: ty, Text: text}, string([]byte{byte(len(text))}) + string(text), words})
		}
	}
	return out
}

// allSaid are data of every type, with the least and the greatest that each may be.
func allSaid() []said {
	return slices.Concat(saidAddresses(), saidNames(), saidTexts())
}

func someTtls() []int {
	return []int{0, 1, 60, 255, 256, 65536, 99999, 100000}
}

// goodRecords are all data under names and times that take turns, so that each meets many.
func goodRecords() []impl.Rr {
	var out []impl.Rr
	names, ttls := goodNames(), someTtls()
	for i, s := range allSaid() {
		for k := range 5 {
			r := s.rr
			r.Name = names[(i+4*k)%len(names)]
			r.Ttl = ttls[(i+3*k)%len(ttls)]
			out = append(out, r)
		}
	}
	return out
}

// fewRecords are one good record of each type, for tests that turn each in many ways.
func fewRecords() []impl.Rr {
	pc := labels("pc", "home")
	return []impl.Rr{
		{Name: pc, Type: 1, Ttl: 60, Addr: 167772163},
		{Name: pc, Type: 2, Ttl: 60, To: labels("ns", "home")},
		{Name: pc, Type: 5, Ttl: 60, To: labels("tv", "home")},
		{Name: pc, Type: 6, Ttl: 60, To: labels("home"), Nums: []int{7, 30}},
		{Name: pc, Type: 12, Ttl: 60, To: pc},
		{Name: pc, Type: 16, Ttl: 60, Text: []byte("Hi")},
		{Name: pc, Type: 49, Ttl: 60, Text: []byte{0, 1, 1}},
	}
}

// withFields gives one record for each field of a good one that is turned to what its type has not.
func withFields(r impl.Rr) []impl.Rr {
	var out []impl.Rr
	add := func(turn func(r *impl.Rr)) {
		x := r
		turn(&x)
		out = append(out, x)
	}
	if r.Type != 1 {
		for _, addr := range []int{1, -1, 1<<32 - 1, 1 << 32, math.MaxInt, math.MinInt} {
			add(func(r *impl.Rr) { r.Addr = addr })
		}
	}
	if !hasTo(r.Type) {
		for _, to := range []impl.Name{labels("a"), labels("pc", "home"), labels(""), labels("A"), {L: [][]byte{nil}}, {L: make([][]byte, 7)}} {
			add(func(r *impl.Rr) { r.To = to })
		}
	}
	if r.Type != 16 && r.Type != 49 {
		for _, text := range [][]byte{{0}, []byte("a"), make([]byte, 40), make([]byte, 41)} {
			add(func(r *impl.Rr) { r.Text = text })
		}
	}
	if r.Type != 6 {
		for _, nums := range [][]int{{0}, {1}, {0, 0}, {7, 30}, {-1, -1, -1}} {
			add(func(r *impl.Rr) { r.Nums = nums })
		}
	}
	return out
}

// outsideLimits gives records with one thing below or above what it may be.
func outsideLimits(r impl.Rr) []impl.Rr {
	var out []impl.Rr
	add := func(turn func(r *impl.Rr)) {
		x := r
		turn(&x)
		out = append(out, x)
	}
	for _, n := range badNames() {
		add(func(r *impl.Rr) { r.Name = n })
		if hasTo(r.Type) {
			add(func(r *impl.Rr) { r.To = n })
		}
	}
	for _, ty := range wrongTypes() {
		add(func(r *impl.Rr) { r.Type = ty })
	}
	for _, ttl := range []int{-1, -60, 100001, 1 << 17, 1 << 32, 1<<32 + 60, math.MaxInt, math.MinInt} {
		add(func(r *impl.Rr) { r.Ttl = ttl })
	}
	switch r.Type {
	case 1:
		for _, addr := range []int{-1, -1 << 32, 1 << 32, 1<<32 + 1, math.MaxInt, math.MinInt} {
			add(func(r *impl.Rr) { r.Addr = addr })
		}
	case 6:
		for _, nums := range [][]int{nil, {}, {7}, {7, 30, 0}, {7, 30, 7, 30}, {-1, 30}, {7, -1}, {1 << 32, 30}, {7, 100001}, {7, 1<<32 - 1}, {math.MinInt, 30}, {math.MaxInt, 30}, {7, math.MinInt}, {7, math.MaxInt}} {
			add(func(r *impl.Rr) { r.Nums = nums })
		}
	case 16, 49:
		for _, size := range []int{41, 42, 255, 256, 257, 296, 512, 100000} {
			add(func(r *impl.Rr) { r.Text = make([]byte, size) })
		}
	}
	return out
}

func badRecords() []impl.Rr {
	out := []impl.Rr{{}, {Type: 6}, {Type: 255}, {Name: labels("pc", "home"), Type: 255, Ttl: 60}}
	for _, r := range fewRecords() {
		out = append(out, withFields(r)...)
		out = append(out, outsideLimits(r)...)
	}
	return out
}

func TestRecordLimits(t *testing.T) {
	if impl.MaxTtl != 100000 || impl.MaxTxt != 40 {
		t.Error(impl.MaxTtl, impl.MaxTxt)
	}
	got := []int{impl.TyA, impl.TyNs, impl.TyCname, impl.TySoa, impl.TyPtr, impl.TyTxt, impl.TyDhcid, impl.TyAny}
	if want := append(typeNumbers(), 255); !slices.Equal(got, want) {
		t.Error(got)
	}
}

func TestTypeOk(t *testing.T) {
	for n := -70000; n <= 70000; n++ {
		if impl.TypeOk(n) != slices.Contains(typeNumbers(), n) {
			t.Errorf("TypeOk(%d) = %v", n, impl.TypeOk(n))
		}
	}
	for _, n := range wrongTypes() {
		if impl.TypeOk(n) {
			t.Errorf("TypeOk(%d)", n)
		}
	}
}

func TestRrOk(t *testing.T) {
	for _, r := range append(goodRecords(), fewRecords()...) {
		if !impl.RrOk(r) {
			t.Errorf("RrOk(%s) = false", toldRr(r))
		}
		r.To.L = append([][]byte{}, r.To.L...)
		r.Text = append([]byte{}, r.Text...)
		r.Nums = append([]int{}, r.Nums...)
		if !impl.RrOk(r) {
			t.Errorf("an empty list is no list in %s", toldRr(r))
		}
	}
	for _, r := range badRecords() {
		if impl.RrOk(r) {
			t.Errorf("RrOk(%s) = true", toldRr(r))
		}
	}
}

func TestEveryGoodRecordHasItsDataAlone(t *testing.T) {
	for _, r := range goodRecords() {
		for _, wrong := range withFields(r) {
			if impl.RrOk(wrong) {
				t.Fatalf("RrOk(%s) = true", toldRr(wrong))
			}
		}
	}
}

func TestDataStandInBytes(t *testing.T) {
	for _, s := range allSaid() {
		for i, n := range goodNames() {
			r := s.rr
			r.Name, r.Ttl = n, someTtls()[i%len(someTtls())]
			if got, ok := impl.DataPut(r); !ok || string(got) != s.bytes {
				t.Fatalf("DataPut(%s) = %q, %v, want %q", toldRr(r), got, ok, s.bytes)
			}
		}
	}
	for _, r := range badRecords() {
		if got, ok := impl.DataPut(r); ok || len(got) != 0 {
			t.Errorf("DataPut(%s) = %q, %v", toldRr(r), got, ok)
		}
	}
}

// expectData holds DataGet to a record with its data alone.
func expectData(t *testing.T, ty int, msg []byte, at int, n int, want impl.Rr) {
	t.Helper()
	if got, ok := impl.DataGet(ty, msg, at, n); !ok || toldRr(got) != toldRr(want) {
		t.Errorf("DataGet(%d, %q, %d, %d) = %s, %v, want %s", ty, msg, at, n, toldRr(got), ok, toldRr(want))
	}
}

func expectNoData(t *testing.T, ty int, msg []byte, at int, n int) {
	t.Helper()
	if got, ok := impl.DataGet(ty, msg, at, n); ok || !isZeroRr(got) {
		t.Errorf("DataGet(%d, %q, %d, %d) = %s, %v", ty, msg, at, n, toldRr(got), ok)
	}
}

// around gives what may stand ahead of a thing in a message and behind it.
func around() [][2]string {
	return [][2]string{
		{"", ""}, {"\x00", ""}, {"", "\x00"}, {"\xc0\x00\xff", "\xc0\x00"}, {strings.Repeat("\x09", 300), "\x01a\x00"}, {"\x04home\x00", "\xff\xff\xff\xff\xff"},
	}
}

func TestDataComeBackFromTheirBytes(t *testing.T) {
	for _, s := range allSaid() {
		b, ok := impl.DataPut(s.rr)
		if !ok {
			t.Fatalf("DataPut(%s)", toldRr(s.rr))
		}
		for _, a := range around() {
			msg := []byte(a[0] + string(b) + a[1])
			expectData(t, s.rr.Type, msg, len(a[0]), len(b), s.rr)
			if hasTo(s.rr.Type) {
				named := len(bytesOfName(s.rr.To))
				great := []byte(a[0] + string(greatLetters(b[:named], 1)) + string(b[named:]) + a[1])
				expectData(t, s.rr.Type, great, len(a[0]), len(b), s.rr)
			}
		}
		full := []byte(strings.Repeat("\x07", impl.MaxBytes-len(b)) + string(b))
		expectData(t, s.rr.Type, full, impl.MaxBytes-len(b), len(b), s.rr)
		long := append([]byte{7}, full...)
		expectNoData(t, s.rr.Type, long, impl.MaxBytes+1-len(b), len(b))
		expectNoData(t, s.rr.Type, append(bytes.Clone(full), 7), impl.MaxBytes-len(b), len(b))
	}
}

func TestDataHaveJustTheirBytes(t *testing.T) {
	for _, s := range allSaid() {
		size := len(s.bytes)
		msg := []byte("\x00" + s.bytes + strings.Repeat("\x00", 20))
		for n := -2; n <= len(msg); n++ {
			if n != size {
				expectNoData(t, s.rr.Type, msg, 1, n)
			}
		}
		for _, n := range []int{impl.MaxBytes, impl.MaxBytes + 1, size + 256, size + 65536, size + 1<<32, -size, math.MaxInt, math.MinInt, math.MinInt + size} {
			expectNoData(t, s.rr.Type, msg, 1, n)
		}
		for end := 1; end < 1+size; end++ {
			expectNoData(t, s.rr.Type, msg[:end], 1, size)
			expectNoData(t, s.rr.Type, msg[:end], 1, end-1)
		}
		expectData(t, s.rr.Type, msg[:1+size], 1, size, s.rr)
	}
}

func TestDataGetPlacesOutside(t *testing.T) {
	for _, s := range allSaid() {
		msg := []byte(s.bytes)
		for _, at := range []int{-1, -2, -len(msg), len(msg), len(msg) + 1, 512, 513, 1 << 32, math.MaxInt, math.MaxInt - 1, math.MaxInt - len(msg), math.MinInt, math.MinInt + 1} {
			for _, n := range []int{0, 1, -1, len(msg), len(msg) + 1, -at, math.MaxInt, math.MinInt} {
				expectNoData(t, s.rr.Type, msg, at, n)
			}
		}
		expectNoData(t, s.rr.Type, nil, 0, 0)
		expectNoData(t, s.rr.Type, nil, 0, len(msg))
		expectNoData(t, s.rr.Type, nil, -1, 0)
	}
}

func TestDataOfNoType(t *testing.T) {
	for _, s := range allSaid() {
		for _, ty := range wrongTypes() {
			expectNoData(t, ty, []byte(s.bytes), 0, len(s.bytes))
		}
	}
	for _, ty := range wrongTypes() {
		expectNoData(t, ty, []byte{0}, 0, 0)
		expectNoData(t, ty, nil, 0, 0)
	}
}

func TestDataThatAreNotRrOk(t *testing.T) {
	for ty, l := range map[int][]string{
		6: {
			"\x01b\x00\x00\x00\x00\x07\x00\x01\x86\xa1",
			"\x01b\x00\x00\x00\x00\x07\xff\xff\xff\xff",
			"\x01b\x00\x00\x00\x00\x07\x80\x00\x00\x00",
			"\x01b\x00\x00\x00\x00\x07",
			"\x01b\x00",
			"\x01_\x00\x00\x00\x00\x07\x00\x00\x00\x1e",
		},
		16: {"\x29" + strings.Repeat("a", 41), "\xff" + strings.Repeat("a", 255), "\x80" + strings.Repeat("a", 128), "", "a", "\x02a", "\x00a", "\x01", "\x01ab"},
		49: {"\x29" + strings.Repeat("a", 41), "\x2a" + strings.Repeat("a", 42), "", "\x02a"},
		1:  {"", "\x01", "\x01\x02\x03", "\x01\x02\x03\x04\x05"},
		2:  {"", "\x01b", "\x01B", "\x01_\x00", "\x10aaaaaaaaaaaaaaaa\x00", "\x01a\x01b\x01c\x01d\x01e\x01f\x01g\x00", "\x00\x00", "\xc0\x00", "\x01b\xc0\x00", "\x40"},
		5:  {"", "\x01b", "\x01.\x00", "\xc0", "\xff\xff"},
		12: {"", "\x01b\x00\x00", "\x01 \x00"},
	} {
		for _, b := range l {
			expectNoData(t, ty, []byte(b), 0, len(b))
		}
	}
	expectData(t, 6, []byte("\x01B\x00\xff\xff\xff\xff\x00\x01\x86\xa0"), 0, 11, impl.Rr{Type: 6, To: labels("b"), Nums: []int{1<<32 - 1, 100000}})
	expectData(t, 16, []byte("\x28"+strings.Repeat("A", 40)), 0, 41, impl.Rr{Type: 16, Text: bytes.Repeat([]byte{'A'}, 40)})
}

func TestDataByPointers(t *testing.T) {
	msg := []byte("\x09\x02pc\x04home\x00\x02TV\xc0\x04\x00\x00\x00\x07\x00\x00\x00\x1e\xc0\x0a\x00\x00\x01\x00\x00\x00\x00\x02")
	for _, ty := range []int{2, 5, 12} {
		expectData(t, ty, msg, 10, 5, impl.Rr{Type: ty, To: labels("tv", "home")})
		expectData(t, ty, msg, 13, 2, impl.Rr{Type: ty, To: labels("home")})
		expectData(t, ty, msg, 23, 2, impl.Rr{Type: ty, To: labels("tv", "home")})
		expectData(t, ty, msg, 1, 9, impl.Rr{Type: ty, To: labels("pc", "home")})
		expectNoData(t, ty, msg, 10, 9)
		expectNoData(t, ty, msg, 10, 3)
		expectNoData(t, ty, msg, 23, 1)
	}
	expectData(t, 6, msg, 10, 13, impl.Rr{Type: 6, To: labels("tv", "home"), Nums: []int{7, 30}})
	expectData(t, 6, msg, 23, 10, impl.Rr{Type: 6, To: labels("tv", "home"), Nums: []int{256, 2}})
	expectNoData(t, 6, msg, 23, 9)
	expectNoData(t, 6, msg, 23, 11)
	for hops := 1; hops <= 10; hops++ {
		chained, at := chain(hops)
		if hops <= impl.MaxHops {
			expectData(t, 5, chained, at, 2, impl.Rr{Type: 5, To: labels("e")})
		} else {
			expectNoData(t, 5, chained, at, 2)
		}
	}
}

// bytesOfRr says again, with its data given, how a record stands in a message.
func bytesOfRr(r impl.Rr, data string) string {
	head := bytesOfName(r.Name) + string(highestFirst(r.Type, 2)) + "\x00\x01" + string(highestFirst(r.Ttl, 4))
	return head + string(highestFirst(len(data), 2)) + data
}

func TestRecordsStandInBytes(t *testing.T) {
	for _, s := range allSaid() {
		for i, n := range goodNames() {
			r := s.rr
			r.Name, r.Ttl = n, someTtls()[i%len(someTtls())]
			for _, prefix := range samplePrefixes() {
				got, ok := impl.RrPut(prefix, r)
				if !ok || string(got) != string(prefix)+bytesOfRr(r, s.bytes) {
					t.Fatalf("RrPut(%q, %s) = %q, %v", prefix, toldRr(r), got, ok)
				}
			}
		}
	}
	for _, r := range badRecords() {
		for _, prefix := range samplePrefixes() {
			if got, ok := impl.RrPut(prefix, r); ok || len(got) != 0 {
				t.Errorf("RrPut(%q, %s) = %q, %v", prefix, toldRr(r), got, ok)
			}
		}
	}
}

// expectRr holds RrGet to a record, its time, too, and the place behind it.
func expectRr(t *testing.T, msg []byte, at int, want impl.Rr, behind int) {
	t.Helper()
	got, end := impl.RrGet(msg, at)
	if toldRr(got) != toldRr(want) || end != behind {
		t.Errorf("RrGet(%q, %d) = %s, %d, want %s, %d", msg, at, toldRr(got), end, toldRr(want), behind)
	}
}

func expectNoRr(t *testing.T, msg []byte, at int) {
	t.Helper()
	expectRr(t, msg, at, impl.Rr{}, -1)
}

func TestRecordsComeBackFromTheirBytes(t *testing.T) {
	for _, r := range append(goodRecords(), fewRecords()...) {
		for _, a := range around() {
			if len(a[0]) > 250 && len(r.Name.L) > 5 {
				continue
			}
			b, ok := impl.RrPut([]byte(a[0]), r)
			if !ok {
				t.Fatalf("RrPut(%s)", toldRr(r))
			}
			expectRr(t, append(bytes.Clone(b), a[1]...), len(a[0]), r, len(b))
			named := len(a[0]) + len(bytesOfName(r.Name))
			great := a[0] + string(greatLetters(b[len(a[0]):named], 1)) + string(b[named:]) + a[1]
			expectRr(t, []byte(great), len(a[0]), r, len(b))
		}
		if t.Failed() {
			return
		}
	}
}

func TestRecordsBehindOneAnother(t *testing.T) {
	var msg []byte
	var ends []int
	for _, r := range fewRecords() {
		msg, _ = impl.RrPut(msg, r)
		ends = append(ends, len(msg))
	}
	at := 0
	for i, want := range fewRecords() {
		expectRr(t, msg, at, want, ends[i])
		at = ends[i]
	}
	if at != len(msg) {
		t.Error(at, len(msg))
	}
	expectNoRr(t, msg, at)
}

func TestRecordsInLongMessages(t *testing.T) {
	for _, r := range append(goodRecords(), fewRecords()...) {
		b, _ := impl.RrPut(nil, r)
		full := []byte(strings.Repeat("\x07", impl.MaxBytes-len(b)) + string(b))
		expectRr(t, full, impl.MaxBytes-len(b), r, impl.MaxBytes)
		first := append(bytes.Clone(b), make([]byte, impl.MaxBytes-len(b))...)
		expectRr(t, first, 0, r, len(b))
		expectNoRr(t, append(first, 0), 0)
		expectNoRr(t, append([]byte{7}, full...), impl.MaxBytes+1-len(b))
	}
	expectNoRr(t, make([]byte, 100000), 0)
}

func TestRecordCutOff(t *testing.T) {
	for _, r := range append(goodRecords(), fewRecords()...) {
		b, _ := impl.RrPut([]byte{0}, r)
		for size := range len(b) {
			expectNoRr(t, b[:size], 1)
		}
		expectRr(t, b, 1, r, len(b))
	}
}

func TestRrGetPlacesOutside(t *testing.T) {
	for _, r := range fewRecords() {
		b, _ := impl.RrPut(nil, r)
		for _, at := range []int{-1, -2, -len(b), len(b), len(b) + 1, 512, 513, 1 << 32, math.MaxInt, math.MaxInt - 1, math.MinInt, math.MinInt + 1} {
			expectNoRr(t, b, at)
		}
	}
	expectNoRr(t, nil, 0)
	expectNoRr(t, nil, -1)
	expectNoRr(t, []byte{}, 0)
}

// put writes n in size bytes over those of a message at a place.
func put(msg []byte, at int, n int, size int) []byte {
	out := bytes.Clone(msg)
	copy(out[at:], highestFirst(n, size))
	return out
}

func TestRecordsOfAnotherClass(t *testing.T) {
	for _, r := range fewRecords() {
		b, _ := impl.RrPut(nil, r)
		at := len(bytesOfName(r.Name)) + 2
		for class := range 65536 {
			if class != 1 {
				expectNoRr(t, put(b, at, class, 2), 0)
			}
		}
		expectRr(t, put(b, at, 1, 2), 0, r, len(b))
	}
}

func TestRecordsOfAnotherTypeTimeOrSize(t *testing.T) {
	for _, r := range fewRecords() {
		b, _ := impl.RrPut(nil, r)
		b = append(b, make([]byte, 8)...)
		named := len(bytesOfName(r.Name))
		for ty := range 65536 {
			if !slices.Contains(typeNumbers(), ty) {
				expectNoRr(t, put(b, named, ty, 2), 0)
			}
		}
		for _, ttl := range []int{100001, 100002, 1 << 17, 1 << 24, 1 << 31, 1<<31 + 60, 1<<32 - 1} {
			expectNoRr(t, put(b, named+4, ttl, 4), 0)
		}
		for _, ttl := range someTtls() {
			want := r
			want.Ttl = ttl
			expectRr(t, put(b, named+4, ttl, 4), 0, want, len(b)-8)
		}
		size := len(b) - 8 - named - 10
		for n := range 65536 {
			if n != size {
				expectNoRr(t, put(b, named+8, n, 2), 0)
			}
		}
	}
}

func TestRecordsByPointers(t *testing.T) {
	head := "\x09\x02PC\x04home\x00"
	tail := "\x00\x01\x00\x00\x00\x3c"
	pc, home := labels("pc", "home"), labels("home")
	for _, c := range []struct {
		b    string
		want impl.Rr
	}{
		{"\xc0\x01\x00\x01" + tail + "\x00\x04\x0a\x00\x00\x03", impl.Rr{Name: pc, Type: 1, Ttl: 60, Addr: 167772163}},
		{"\xc0\x09\x00\x01" + tail + "\x00\x04\x0a\x00\x00\x03", impl.Rr{Type: 1, Ttl: 60, Addr: 167772163}},
		{"\x02tv\xc0\x04\x00\x05" + tail + "\x00\x02\xc0\x01", impl.Rr{Name: labels("tv", "home"), Type: 5, Ttl: 60, To: pc}},
		{"\x02tv\xc0\x04\x00\x05" + tail + "\x00\x02\xc0\x0a", impl.Rr{Name: labels("tv", "home"), Type: 5, Ttl: 60, To: labels("tv", "home")}},
		{"\xc0\x04\x00\x02" + tail + "\x00\x05\x02Ns\xc0\x0a", impl.Rr{Name: home, Type: 2, Ttl: 60, To: labels("ns", "home")}},
		{"\xc0\x04\x00\x0c" + tail + "\x00\x01\x00", impl.Rr{Name: home, Type: 12, Ttl: 60}},
		{"\xc0\x04\x00\x06" + tail + "\x00\x0a\xc0\x04\x00\x00\x00\x07\x00\x00\x00\x1e", impl.Rr{Name: home, Type: 6, Ttl: 60, To: home, Nums: []int{7, 30}}},
		{"\xc0\x04\x00\x10" + tail + "\x00\x03\x02\xc0\x04", impl.Rr{Name: home, Type: 16, Ttl: 60, Text: []byte{192, 4}}},
	} {
		for _, behind := range []string{"", "\x00", "\xc0\x01"} {
			msg := []byte(head + c.b + behind)
			expectRr(t, msg, len(head), c.want, len(head)+len(c.b))
		}
		flat, ok := impl.RrPut(nil, c.want)
		if !ok {
			t.Errorf("RrPut(%s)", toldRr(c.want))
		}
		expectRr(t, flat, 0, c.want, len(flat))
	}
	for _, b := range []string{
		"\xc0\x0a\x00\x01" + tail + "\x00\x04\x0a\x00\x00\x03",
		"\xc0\x04\x00\x05" + tail + "\x00\x02\xc0\x16",
		"\xc0\x04\x00\x05" + tail + "\x00\x01\xc0\x01",
		"\xc0\x04\x00\x05" + tail + "\x00\x03\xc0\x01\x00",
		"\xc0\x04\x00\x05" + tail + "\x00\x09\xc0\x01",
	} {
		expectNoRr(t, []byte(head+b), len(head))
	}
}

// recordKey ascends as a text just as records do.
func recordKey(r impl.Rr, data string) string {
	return orderKey(r.Name) + "\x00" + string(highestFirst(r.Type, 2)) + data
}

type keyed struct {
	rr  impl.Rr
	key string
}

// orderedRecords are near one another in order, with times that say nothing of it.
func orderedRecords() []keyed {
	all := allSaid()
	var some []said
	for i, s := range all {
		if i%3 == 0 || s.rr.Type == 1 {
			some = append(some, s)
		}
	}
	var out []keyed
	for k, n := range []impl.Name{labels(), labels("a"), labels("-", "a"), labels("a", "a"), labels("aa"), labels("b"), labels("z", "b"), labels("home")} {
		for i, s := range some {
			r := s.rr
			r.Name, r.Ttl = n, (i*7919+k*104729)%100001
			out = append(out, keyed{r, recordKey(r, s.bytes)})
		}
	}
	return out
}

func TestRecordsAreInOrder(t *testing.T) {
	l := orderedRecords()
	for _, a := range l {
		for _, b := range l {
			want := strings.Compare(a.key, b.key)
			if got := impl.RrCmp(a.rr, b.rr); got != want {
				t.Fatalf("RrCmp(%s, %s) = %d, want %d", toldRr(a.rr), toldRr(b.rr), got, want)
			}
			if got := impl.RrSame(a.rr, b.rr); got != (want == 0) {
				t.Fatalf("RrSame(%s, %s) = %v", toldRr(a.rr), toldRr(b.rr), got)
			}
			if len(a.rr.Name.L) > len(b.rr.Name.L) && impl.Under(a.rr.Name, b.rr.Name) && want != 1 {
				t.Fatalf("%s is under %s but not behind it", toldRr(a.rr), toldRr(b.rr))
			}
		}
	}
}

func TestRrCmpByNameTypeAndData(t *testing.T) {
	a, b, sub := labels("a"), labels("b"), labels("z", "a")
	for _, c := range []struct{ less, more impl.Rr }{
		{impl.Rr{Name: a, Type: 49, Ttl: 9, Text: []byte("zz")}, impl.Rr{Name: b, Type: 1}},
		{impl.Rr{Name: a, Type: 49, Text: []byte("zz")}, impl.Rr{Name: sub, Type: 1}},
		{impl.Rr{Name: sub, Type: 49}, impl.Rr{Name: b, Type: 1}},
		{impl.Rr{Name: a, Type: 1, Addr: 1<<32 - 1}, impl.Rr{Name: a, Type: 2}},
		{impl.Rr{Name: a, Type: 5, To: labels("z")}, impl.Rr{Name: a, Type: 6, To: labels("a"), Nums: []int{0, 0}}},
		{impl.Rr{Name: a, Type: 6, To: labels("z"), Nums: []int{9, 9}}, impl.Rr{Name: a, Type: 12}},
		{impl.Rr{Name: a, Type: 12, To: labels("z")}, impl.Rr{Name: a, Type: 16}},
		{impl.Rr{Name: a, Type: 16, Text: []byte("z")}, impl.Rr{Name: a, Type: 49}},
		{impl.Rr{Name: a, Type: 1, Addr: 255, Ttl: 100000}, impl.Rr{Name: a, Type: 1, Addr: 256}},
		{impl.Rr{Name: a, Type: 1, Addr: 1<<31 - 1}, impl.Rr{Name: a, Type: 1, Addr: 1 << 31}},
		{impl.Rr{Name: a, Type: 2, To: labels("z")}, impl.Rr{Name: a, Type: 2, To: labels("aa")}},
		{impl.Rr{Name: a, Type: 2, To: labels("a", "z")}, impl.Rr{Name: a, Type: 2, To: labels("b", "a")}},
		{impl.Rr{Name: a, Type: 2}, impl.Rr{Name: a, Type: 2, To: labels("-")}},
		{impl.Rr{Name: a, Type: 6, To: labels("a"), Nums: []int{7, 100000}}, impl.Rr{Name: a, Type: 6, To: labels("a"), Nums: []int{8, 0}}},
		{impl.Rr{Name: a, Type: 6, To: labels("a"), Nums: []int{7, 0}}, impl.Rr{Name: a, Type: 6, To: labels("a"), Nums: []int{7, 1}}},
		{impl.Rr{Name: a, Type: 16, Text: []byte("z")}, impl.Rr{Name: a, Type: 16, Text: []byte("aa")}},
		{impl.Rr{Name: a, Type: 16, Text: []byte("aa")}, impl.Rr{Name: a, Type: 16, Text: []byte("ab")}},
		{impl.Rr{Name: a, Type: 16, Text: []byte{127}}, impl.Rr{Name: a, Type: 16, Text: []byte{128}}},
	} {
		if got := impl.RrCmp(c.less, c.more); got != -1 {
			t.Errorf("RrCmp(%s, %s) = %d", toldRr(c.less), toldRr(c.more), got)
		}
		if got := impl.RrCmp(c.more, c.less); got != 1 {
			t.Errorf("RrCmp(%s, %s) = %d", toldRr(c.more), toldRr(c.less), got)
		}
		if impl.RrSame(c.less, c.more) {
			t.Errorf("RrSame(%s, %s)", toldRr(c.less), toldRr(c.more))
		}
	}
}

func TestTimesDoNotPartRecords(t *testing.T) {
	for _, r := range append(goodRecords(), fewRecords()...) {
		for _, ttl := range someTtls() {
			x := r
			x.Ttl = ttl
			if impl.RrCmp(r, x) != 0 || !impl.RrSame(r, x) || !impl.RrSame(x, r) {
				t.Fatalf("%s and %s", toldRr(r), toldRr(x))
			}
		}
	}
}

func TestOrderOfWrongRecords(t *testing.T) {
	few := append(fewRecords(), impl.Rr{})
	for _, bad := range badRecords() {
		for _, other := range append(few, bad) {
			if impl.RrCmp(bad, other) != 0 || impl.RrCmp(other, bad) != 0 {
				t.Errorf("RrCmp of %s and %s is not 0", toldRr(bad), toldRr(other))
			}
			if impl.RrSame(bad, other) || impl.RrSame(other, bad) {
				t.Errorf("RrSame of %s and %s", toldRr(bad), toldRr(other))
			}
		}
	}
}

func TestRrText(t *testing.T) {
	pc := labels("pc", "home")
	for want, r := range map[string]impl.Rr{
		"pc.home. 60 A 10.0.0.3":               {Name: pc, Type: 1, Ttl: 60, Addr: 167772163},
		". 0 A 0.0.0.0":                        {Type: 1},
		"home. 100000 A 255.255.255.255":       {Name: labels("home"), Type: 1, Ttl: 100000, Addr: 1<<32 - 1},
		"home. 1 NS ns.home.":                  {Name: labels("home"), Type: 2, Ttl: 1, To: labels("ns", "home")},
		"tv.home. 60 CNAME pc.home.":           {Name: labels("tv", "home"), Type: 5, Ttl: 60, To: pc},
		"a. 60 SOA b. 7 30":                    {Name: labels("a"), Type: 6, Ttl: 60, To: labels("b"), Nums: []int{7, 30}},
		". 0 SOA . 0 0":                        {Type: 6, Nums: []int{0, 0}},
		". 0 SOA . 4294967295 100000":          {Type: 6, Nums: []int{1<<32 - 1, 100000}},
		"3.0.0.10.in-addr.arpa. 60 PTR pc.":    {Name: labels("3", "0", "0", "10", "in-addr", "arpa"), Type: 12, Ttl: 60, To: labels("pc")},
		"a. 60 PTR .":                          {Name: labels("a"), Type: 12, Ttl: 60},
		". 0 TXT 01ff":                         {Type: 16, Text: []byte{1, 255}},
		"a. 5 TXT 4869":                        {Name: labels("a"), Type: 16, Ttl: 5, Text: []byte("Hi")},
		"a. 5 DHCID 000101abcdef":              {Name: labels("a"), Type: 49, Ttl: 5, Text: []byte{0, 1, 1, 0xab, 0xcd, 0xef}},
		"a. 5 TXT " + strings.Repeat("78", 40): {Name: labels("a"), Type: 16, Ttl: 5, Text: bytes.Repeat([]byte("x"), 40)},
		"a. 5 DHCID ":                          {Name: labels("a"), Type: 49, Ttl: 5},
	} {
		if got := impl.RrText(r); string(got) != want {
			t.Errorf("RrText(%s) = %q, want %q", toldRr(r), got, want)
		}
	}
	for _, r := range badRecords() {
		if got := impl.RrText(r); len(got) != 0 {
			t.Errorf("RrText(%s) = %q", toldRr(r), got)
		}
	}
}

func TestTextsOfAllData(t *testing.T) {
	for _, s := range allSaid() {
		for i, n := range goodNames() {
			r := s.rr
			r.Name, r.Ttl = n, someTtls()[i%len(someTtls())]
			want := wordsOfName(n) + " " + strconv.Itoa(r.Ttl) + " " + typeTexts()[r.Type] + " " + s.words
			if got := impl.RrText(r); string(got) != want {
				t.Fatalf("RrText(%s) = %q, want %q", toldRr(r), got, want)
			}
		}
	}
}

// readNumber says again what a number of so many bytes is.
func readNumber(b []byte) int {
	n := 0
	for _, c := range b {
		n = 256*n + int(c)
	}
	return n
}

// readData says again what DataGet does, cutting the message where the data must end.
func readData(ty int, msg []byte, at int, n int) (impl.Rr, bool) {
	if at < 0 || n < 0 || len(msg) > 512 || at > len(msg) || n > len(msg)-at {
		return impl.Rr{}, false
	}
	cut := msg[:at+n]
	r := impl.Rr{Type: ty}
	switch {
	case ty == 1:
		r.Addr = readNumber(cut[at:])
		return r, n == 4
	case ty == 16 || ty == 49:
		if n < 1 || n > 41 {
			return r, false
		}
		r.Text = cut[at+1:]
		return r, int(cut[at]) == n-1
	case hasTo(ty):
		l, end, ok := readName(cut, at, 0)
		if !ok {
			return r, false
		}
		r.To = labels(l...)
		if ty == 6 && len(cut) == end+8 {
			r.Nums = []int{readNumber(cut[end : end+4]), readNumber(cut[end+4:])}
			return r, r.Nums[1] <= 100000
		}
		return r, ty != 6 && end == len(cut)
	}
	return r, false
}

// readRecord says again what RrGet does; false where there is no record.
func readRecord(msg []byte, at int) (impl.Rr, int, bool) {
	l, next, ok := readName(msg, at, 0)
	if !ok || len(msg)-next < 10 {
		return impl.Rr{}, -1, false
	}
	head := msg[next : next+10]
	size := readNumber(head[8:])
	r, ok := readData(readNumber(head[:2]), msg, next+10, size)
	r.Name, r.Ttl = labels(l...), readNumber(head[4:8])
	return r, next + 10 + size, ok && readNumber(head[2:4]) == 1 && r.Ttl <= 100000
}

// checkRecords holds RrGet at every place to the other reader; what it read must come back once it is written.
func checkRecords(t *testing.T, msg []byte) int {
	t.Helper()
	found := 0
	for at := -1; at <= len(msg); at++ {
		want, end, ok := readRecord(msg, at)
		if !ok {
			expectNoRr(t, msg, at)
			continue
		}
		found++
		expectRr(t, msg, at, want, end)
		got, _ := impl.RrGet(msg, at)
		b, wrote := impl.RrPut(nil, got)
		if !wrote || !impl.RrOk(got) || !impl.RrSame(got, want) {
			t.Fatalf("what RrGet(%q, %d) read is refused: %s", msg, at, toldRr(got))
		}
		expectRr(t, b, 0, got, len(b))
	}
	if t.Failed() {
		t.FailNow()
	}
	return found
}

// checkAllData holds DataGet to the other reader for every type, place and size.
func checkAllData(t *testing.T, msg []byte) int {
	t.Helper()
	found := 0
	for _, ty := range append(typeNumbers(), 0, 3, 255) {
		for at := -1; at <= len(msg)+1; at++ {
			for n := -1; n <= len(msg)+1; n++ {
				want, ok := readData(ty, msg, at, n)
				if !ok {
					expectNoData(t, ty, msg, at, n)
					continue
				}
				found++
				expectData(t, ty, msg, at, n, want)
			}
		}
	}
	if t.Failed() {
		t.FailNow()
	}
	return found
}

func TestAllDataOfSmallMessages(t *testing.T) {
	signs := []byte{0, 1, 3, 'a', 'B', 192}
	found := 0
	var walk func(msg []byte)
	walk = func(msg []byte) {
		found += checkAllData(t, msg)
		if len(msg) == 4 {
			return
		}
		for _, c := range signs {
			walk(append(msg[:len(msg):len(msg)], c))
		}
	}
	walk(nil)
	for _, msg := range []string{"\x01a\x00\x00\x00\x00\x07\x00\x00\x00\x1e\xc0\x00\x00\x00\x00\x01\x00\x01\x86\xa0", "\x00\x00\x00\x00\x00\x00\x00\x00\x00\x00\x00", "\x00\xc0\x00\xc0\x01\x00\x00\x00\x01\x00\x01\x86\xa1\x00"} {
		found += checkAllData(t, []byte(msg))
	}
	if found < 1000 {
		t.Error("too few data were found:", found)
	}
}

func TestRecordsOneByteAway(t *testing.T) {
	for _, r := range fewRecords() {
		b, _ := impl.RrPut([]byte("\x01x\x00"), r)
		for _, msg := range changedTexts(b) {
			want, end, ok := readRecord(msg, 3)
			if ok {
				expectRr(t, msg, 3, want, end)
			} else {
				expectNoRr(t, msg, 3)
			}
		}
		if t.Failed() {
			return
		}
	}
}

// mixer gives numbers that look mixed and are the same in every run.
type mixer uint64

func (m *mixer) below(n int) int {
	*m = *m*6364136223846793005 + 1442695040888963407
	return int(*m>>33) % n
}

func (m *mixer) of(l ...int) int {
	return l[m.below(len(l))]
}

// appendName puts a name behind a message, often with a pointer to some place in it.
func (m *mixer) appendName(msg []byte) []byte {
	for range m.below(3) {
		msg = append(msg, 1, "aZ9-"[m.below(4)])
	}
	if len(msg) > 0 && m.below(2) == 0 {
		return append(msg, 192, byte(m.below(min(len(msg), 256))))
	}
	return append(msg, 0)
}

func (m *mixer) data(ty int, msg []byte) []byte {
	switch ty {
	case 1:
		return append(msg, byte(m.below(256)), 0, 0, byte(m.below(256)))
	case 6:
		msg = append(m.appendName(msg), 0, byte(m.below(256)), 255, 0)
		return append(msg, highestFirst(m.of(0, 30, 99999, 100000, 100001, 1<<32-1), 4)...)
	case 16, 49:
		size := m.of(0, 1, 2, 39, 40, 41)
		return append(append(msg, byte(size)), bytes.Repeat([]byte{'T'}, size)...)
	}
	return m.appendName(msg)
}

// appendRecord puts one behind a message that is wrong now and then.
func (m *mixer) appendRecord(msg []byte) []byte {
	ty := m.of(1, 2, 5, 6, 12, 16, 49, 1, 2, 5, 6, 12, 16, 49, 255, 3)
	msg = m.appendName(msg)
	msg = append(msg, highestFirst(ty, 2)...)
	msg = append(msg, highestFirst(m.of(1, 1, 1, 1, 1, 1, 1, 0, 254, 257), 2)...)
	msg = append(msg, highestFirst(m.of(0, 60, 99999, 100000, 60, 60, 100001, 1<<31), 4)...)
	at := len(msg)
	msg = m.data(ty, append(msg, 0, 0))
	size := len(msg) - at - 2 + m.of(0, 0, 0, 0, 0, 0, 0, 1, -1, 256)
	copy(msg[at:], highestFirst(max(size, 0), 2))
	return msg
}

func TestMixedRecords(t *testing.T) {
	m := mixer(3)
	found := 0
	for range 3000 {
		var msg []byte
		for range 1 + m.below(4) {
			msg = m.appendRecord(msg)
		}
		found += checkRecords(t, msg)
	}
	if found < 2000 {
		t.Error("too few records were found:", found)
	}
}

// roomyRr has a record's lists with spare room behind each.
func roomyRr(r impl.Rr) impl.Rr {
	r.Name, r.To = roomyName(r.Name), roomyName(r.To)
	r.Text = append(bytes.Clone(r.Text), "SPARE"...)[:len(r.Text)]
	r.Nums = append(slices.Clone(r.Nums), 77, 78)[:len(r.Nums)]
	return r
}

// wholeRr tells all that a record holds, the spare room, too.
func wholeRr(r impl.Rr) string {
	return fmt.Sprintf("%s %d %d %d %s %q %v", wholeName(r.Name), r.Type, r.Ttl, r.Addr, wholeName(r.To), r.Text[:cap(r.Text)], r.Nums[:cap(r.Nums)])
}

func scribbleRr(r impl.Rr) {
	scribbleName(r.Name)
	scribbleName(r.To)
	scribble(r.Text)
	nums := r.Nums[:cap(r.Nums)]
	for i := range nums {
		nums[i] ^= 0x55
	}
}

// recordCalls are calls of every function of the chapter; each gives the record and the bytes that it answers.
func recordCalls() map[string]func(r impl.Rr, b []byte) (impl.Rr, []byte) {
	type answer = func(r impl.Rr, b []byte) (impl.Rr, []byte)
	return map[string]answer{
		"TypeOk":  func(r impl.Rr, b []byte) (impl.Rr, []byte) { impl.TypeOk(r.Type); return impl.Rr{}, nil },
		"RrOk":    func(r impl.Rr, b []byte) (impl.Rr, []byte) { impl.RrOk(r); return impl.Rr{}, nil },
		"RrCmp":   func(r impl.Rr, b []byte) (impl.Rr, []byte) { impl.RrCmp(r, r); return impl.Rr{}, nil },
		"RrSame":  func(r impl.Rr, b []byte) (impl.Rr, []byte) { impl.RrSame(r, r); return impl.Rr{}, nil },
		"DataPut": func(r impl.Rr, b []byte) (impl.Rr, []byte) { l, _ := impl.DataPut(r); return impl.Rr{}, l },
		"RrPut":   func(r impl.Rr, b []byte) (impl.Rr, []byte) { l, _ := impl.RrPut(b, r); return impl.Rr{}, l },
		"RrText":  func(r impl.Rr, b []byte) (impl.Rr, []byte) { return impl.Rr{}, impl.RrText(r) },
		"RrGet":   func(r impl.Rr, b []byte) (impl.Rr, []byte) { x, _ := impl.RrGet(b, 0); return x, nil },
		"DataGet": func(r impl.Rr, b []byte) (impl.Rr, []byte) {
			x, _ := impl.DataGet(r.Type, b, 0, len(b))
			return x, nil
		},
	}
}

func TestRecordAnswersAreNewMemory(t *testing.T) {
	plain := append(fewRecords(), impl.Rr{Type: 1}, impl.Rr{Type: 12}, impl.Rr{Type: 16}, impl.Rr{Name: labels("a"), Type: 6, To: labels("a"), Nums: []int{0, 0}})
	var texts []string
	for _, r := range plain {
		data, _ := impl.DataPut(r)
		whole, _ := impl.RrPut(nil, r)
		texts = append(texts, string(data), string(whole))
	}
	for call, run := range recordCalls() {
		for _, r := range plain {
			for _, text := range texts {
				checkNewMemory(t, call, run, r, text)
			}
		}
		for i, r := range badRecords() {
			if len(r.Text) <= impl.MaxBytes {
				checkNewMemory(t, call, run, r, texts[i%len(texts)])
			}
		}
	}
}

func checkNewMemory(t *testing.T, call string, run func(impl.Rr, []byte) (impl.Rr, []byte), plain impl.Rr, text string) {
	t.Helper()
	r := roomyRr(plain)
	room := append([]byte(text), "SPAREROOM"...)
	b := room[:len(text)]
	before := wholeRr(r) + string(room)
	first, firstBytes := run(r, b)
	second, secondBytes := run(r, b)
	if wholeRr(r)+string(room) != before {
		t.Fatalf("%s of %s and %q wrote into an argument", call, toldRr(plain), text)
	}
	want := toldRr(second) + string(secondBytes)
	scribbleRr(first)
	scribble(firstBytes)
	if wholeRr(r)+string(room) != before || toldRr(second)+string(secondBytes) != want {
		t.Fatalf("%s of %s and %q shares memory", call, toldRr(plain), text)
	}
	scribbleRr(r)
	scribble(room)
	if toldRr(second)+string(secondBytes) != want {
		t.Fatalf("%s of %s and %q keeps its argument", call, toldRr(plain), text)
	}
	checkListsApart(t, call, second)
}

// checkListsApart turns a record's lists one by one and looks at the others.
func checkListsApart(t *testing.T, call string, r impl.Rr) {
	t.Helper()
	to := told(r.To)
	l := slices.Clone(r.Name.L)
	for i := range r.Name.L[:cap(r.Name.L)] {
		r.Name.L[:cap(r.Name.L)][i] = []byte("turned")
	}
	if told(r.To) != to {
		t.Fatalf("%s: the names of %s share memory", call, toldRr(r))
	}
	l = append(l, r.To.L...)
	checkLabelsApart(t, call, impl.Name{L: append(l, r.Text)})
}

func TestListsOfOneAnswerAreApart(t *testing.T) {
	msg := []byte("\x02pc\x04home\x00\xc0\x00\x00\x05\x00\x01\x00\x00\x00\x3c\x00\x02\xc0\x00")
	r, end := impl.RrGet(msg, 9)
	if end != len(msg) || told(r.Name) != told(r.To) {
		t.Fatal(toldRr(r), end)
	}
	checkListsApart(t, "RrGet", r)
}

func TestSpareRoomOfRecordsIsNotRead(t *testing.T) {
	for _, plain := range fewRecords() {
		r := roomyRr(plain)
		if !impl.RrOk(r) || !impl.RrSame(r, plain) || string(impl.RrText(r)) != string(impl.RrText(plain)) {
			t.Errorf("%s is not %s", toldRr(r), toldRr(plain))
		}
		b, _ := impl.RrPut(nil, plain)
		for size := range len(b) {
			expectNoRr(t, b[:size:len(b)], 0)
		}
		data, _ := impl.DataPut(plain)
		for size := range len(data) {
			expectNoData(t, plain.Type, data[:size:len(data)], 0, len(data))
		}
	}
	room := make([]byte, 600)
	copy(room, "\x00\x00\x01\x00\x01\x00\x00\x00\x00\x00\x04\x01\x02\x03\x04")
	expectRr(t, room[:512], 0, impl.Rr{Type: 1, Addr: 16909060}, 15)
	expectNoRr(t, room[:513], 0)
}
