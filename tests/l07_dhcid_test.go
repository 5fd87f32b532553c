package tests

import (
	"bytes"
	"crypto/sha256"
	"encoding/hex"
	"fmt"
	"slices"
	"strings"
	"testing"

	"loop.example/g00422/impl"
)

// bytesOf gives so many mixed bytes.
func (m *mixer) bytesOf(n int) []byte {
	out := make([]byte, n)
	for i := range out {
		out[i] = byte(m.below(256))
	}
	return out
}

func sumOf(b []byte) []byte {
	out := sha256.Sum256(b)
	return out[:]
}

func expectSum(t *testing.T, b []byte) {
	t.Helper()
	if got := impl.Sha256(b); !bytes.Equal(got, sumOf(b)) {
		t.Fatalf("Sha256 of %d bytes %x = %x, want %x", len(b), b, got, sumOf(b))
	}
}

func TestSumsOfTheStandard(t *testing.T) {
	for text, want := range map[string]string{
		"":    "e3b0c44298fc1c149afbf4c8996fb92427ae41e4649b934ca495991b7852b855",
		"abc": "ba7816bf8f01cfea414140de5dae2223b00361a396177a9cb410ff61f20015ad",
		"abcdbcdecdefdefgefghfghighijhijkijkljklmklmnlmnomnopnopq": "248d6a61d20638b8e5c026930c3e6039a33ce45964ff2167f6ecedd419db06c1",
	} {
		if got := hex.EncodeToString(impl.Sha256([]byte(text))); got != want {
			t.Errorf("Sha256 of %q = %s, want %s", text, got, want)
		}
	}
	if got := hex.EncodeToString(impl.Sha256(nil)); got != hex.EncodeToString(impl.Sha256([]byte{})) || len(got) != 64 {
		t.Error("Sha256 of nil =", got)
	}
}

func TestSumsOfEveryLength(t *testing.T) {
	m := mixer(7)
	for n := range 4097 {
		expectSum(t, m.bytesOf(n))
	}
}

func edgeLengths() []int {
	return []int{0, 1, 54, 55, 56, 57, 62, 63, 64, 65, 118, 119, 120, 121, 127, 128, 129, 191, 192, 4031, 4032, 4087, 4088, 4095, 4096}
}

func TestSumsAtTheEdges(t *testing.T) {
	for _, n := range edgeLengths() {
		for _, c := range []byte{0, 1, 'a', 0x7f, 0x80, 0xff} {
			expectSum(t, bytes.Repeat([]byte{c}, n))
		}
	}
	for c := range 256 {
		expectSum(t, []byte{byte(c)})
	}
}

// A sum must hang on every bit of a text: on those of the last block's edges, too.
func TestSumsOfTextsOneBitAway(t *testing.T) {
	for _, n := range []int{1, 55, 56, 64, 119, 128} {
		b := mixedText(n)
		for i := range b {
			for bit := range 8 {
				b[i] ^= 1 << bit
				expectSum(t, b)
				b[i] ^= 1 << bit
			}
		}
	}
}

func mixedText(n int) []byte {
	m := mixer(n)
	return m.bytesOf(n)
}

func TestTextsTooLongHaveNoSum(t *testing.T) {
	for _, n := range []int{4097, 4098, 4160, 8192, 65536, 1 << 20} {
		if got := impl.Sha256(make([]byte, n)); len(got) != 0 {
			t.Errorf("Sha256 of %d bytes = %x", n, got)
		}
	}
	room := make([]byte, 5000)
	expectSum(t, room[:4096])
	expectSum(t, room[100:4196])
	if got := impl.Sha256(room[:4097]); len(got) != 0 {
		t.Errorf("Sha256 of 4097 bytes = %x", got)
	}
}

func clients() [][]byte {
	return [][]byte{
		[]byte("m"), {0}, {255}, []byte("M"), []byte("m1"), []byte("m2"), []byte("M1"), {0, 0}, {0, 1, 1},
		[]byte("a client"), []byte("0123456789abcde"), []byte("0123456789abcdef"), make([]byte, 16), bytes.Repeat([]byte{255}, 16),
	}
}

func TestDhcid(t *testing.T) {
	for _, c := range clients() {
		for _, n := range append(goodNames(), mixedNames()[:20]...) {
			want := "\x00\x01\x01" + string(sumOf([]byte(string(c)+bytesOfName(n))))
			got, ok := impl.Dhcid(c, n)
			if !ok || string(got) != want || len(got) != 35 {
				t.Errorf("Dhcid(%q, %s) = %x, %v, want %x", c, told(n), got, ok, want)
			}
			if r := (impl.Rr{Name: n, Type: impl.TyDhcid, Text: got}); !impl.RrOk(r) {
				t.Errorf("Dhcid(%q, %s) may not be a record's Text", c, told(n))
			}
		}
	}
	got, _ := impl.Dhcid([]byte("m1"), named("pc.home."))
	if hex.EncodeToString(got) != "000101"+hex.EncodeToString(sumOf([]byte("m1\x02pc\x04home\x00"))) {
		t.Errorf("Dhcid of m1 and pc.home. = %x", got)
	}
}

func TestAnotherClientOrNameHasAnotherSum(t *testing.T) {
	names := slices.CompactFunc(goodNames(), func(a, b impl.Name) bool { return told(a) == told(b) })
	for _, n := range names {
		of := map[string]string{}
		for _, c := range clients() {
			got, _ := impl.Dhcid(c, n)
			if other, had := of[string(got)]; had {
				t.Errorf("clients %q and %q have one sum with %s", other, c, told(n))
			}
			of[string(got)] = string(c)
		}
	}
	for _, c := range clients() {
		of := map[string]string{}
		for _, n := range names {
			got, _ := impl.Dhcid(c, n)
			if other, had := of[string(got)]; had {
				t.Errorf("names %s and %s have one sum with %q", other, told(n), c)
			}
			of[string(got)] = told(n)
		}
	}
}

func TestDhcidRefuses(t *testing.T) {
	refused := func(c []byte, n impl.Name) {
		t.Helper()
		if got, ok := impl.Dhcid(c, n); ok || len(got) != 0 {
			t.Errorf("Dhcid(%d bytes, %s) = %x, %v", len(c), told(n), got, ok)
		}
	}
	for _, n := range append(goodNames(), badNames()...) {
		for _, c := range [][]byte{nil, {}, make([]byte, 17), []byte("0123456789abcdefg"), make([]byte, 4096), make([]byte, 100000)} {
			refused(c, n)
		}
	}
	for _, n := range badNames() {
		for _, c := range clients() {
			refused(c, n)
		}
	}
}

func expectOwner(t *testing.T, z impl.Zone, name string, id string, free, mine bool) {
	t.Helper()
	if f, m := impl.Owner(z, named(name), []byte(id)); f != free || m != mine {
		t.Errorf("Owner of %s in %s with %q = %v, %v, want %v, %v", name, toldZone(z), id, f, m, free, mine)
	}
}

func TestOwner(t *testing.T) {
	z := zone("home.", soa, "home. 30 NS ns.home.",
		"text.home. 9 TXT id", "addr.home. 9 A 3", "web.home. 9 CNAME pc.home.", "sub.home. 9 NS id.", "back.home. 9 PTR id.",
		"one.home. 9 DHCID id", "two.home. 9 DHCID id", "two.home. 9 DHCID ie",
		"pc.home. 9 A 3", "pc.home. 9 A 4", "pc.home. 9 TXT ie", "pc.home. 9 DHCID id", "mix.home. 9 DHCID ie", "mix.home. 9 TXT id",
		"a.b.c.home. 9 DHCID id", "low.pc.home. 9 DHCID ie")
	for _, name := range []string{"no.home.", "x.one.home.", "x.pc.home.", "on.home.", "oone.home.", "x.sub.home.", "x.web.home.", "d.a.b.c.home."} {
		expectOwner(t, z, name, "id", true, false)
	}
	for _, name := range []string{"home.", "text.home.", "addr.home.", "web.home.", "sub.home.", "back.home."} {
		expectOwner(t, z, name, "id", false, false)
		expectOwner(t, z, name, "", false, false)
	}
	for _, c := range []struct {
		name string
		id   string
		mine bool
	}{
		{"one.home.", "id", true}, {"one.home.", "ie", false}, {"one.home.", "", false}, {"one.home.", "i", false}, {"one.home.", "idd", false}, {"one.home.", "ID", false}, {"one.home.", "\x02id", false},
		{"two.home.", "id", false}, {"two.home.", "ie", false}, {"two.home.", "if", false}, {"two.home.", "idie", false},
		{"pc.home.", "id", true}, {"pc.home.", "ie", false}, {"low.pc.home.", "ie", true}, {"low.pc.home.", "id", false},
		{"mix.home.", "ie", true}, {"mix.home.", "id", false},
		{"a.b.c.home.", "id", true}, {"a.b.c.home.", "ie", false},
	} {
		expectOwner(t, z, c.name, c.id, false, c.mine)
	}
}

func TestANameWithSomeUnderItIsFree(t *testing.T) {
	z := zone("home.", soa, "a.b.c.home. 9 DHCID id", "b.home. 9 A 1")
	for _, name := range []string{"b.c.home.", "c.home."} {
		expectOwner(t, z, name, "id", true, false)
		if !impl.HasName(z, named(name)) {
			t.Error("there is nothing under", name)
		}
	}
	expectOwner(t, z, "a.b.c.home.", "id", false, true)
}

func TestOwnerOfTheOriginAndTheRoot(t *testing.T) {
	expectOwner(t, zone("home.", soa), "home.", "id", false, false)
	expectOwner(t, zone("home.", soa, "home. 9 DHCID id"), "home.", "id", false, true)
	expectOwner(t, rootZone(), ".", "id", false, false)
	expectOwner(t, rootZone(), "com.", "id", false, false)
	expectOwner(t, rootZone(), "x.", "id", true, false)
	expectOwner(t, zone(".", ". 60 SOA . 1 60", ". 9 DHCID id"), ".", "id", false, true)
	expectOwner(t, zone(".", ". 60 SOA . 1 60", ". 9 DHCID id"), ".", "ie", false, false)
	expectOwner(t, deepZone(), "1.2.3.4.5.6.", "id", false, false)
}

// What is outside of the origin has no records in the zone.
func TestOwnerOfNamesOutside(t *testing.T) {
	z := zone("pc.home.", "pc.home. 60 SOA . 1 60", "pc.home. 9 DHCID id")
	for _, name := range []string{".", "home.", "com.", "pc.", "pc.com.", "tv.home.", "xpc.home.", "pc.home.com.", "1.2.3.4.5.6."} {
		expectOwner(t, z, name, "id", true, false)
		expectOwner(t, z, name, "", true, false)
	}
	expectOwner(t, z, "pc.home.", "id", false, true)
}

func TestOwnersByTextsOfEveryLength(t *testing.T) {
	name := named("pc.home.")
	for n := range 41 {
		text := mixedText(n)
		z := zoneOf("home.", rec(soa), impl.Rr{Name: name, Type: 49, Ttl: 9, Text: text})
		ids := [][]byte{nil, {}, text, append(bytes.Clone(text), 0), bytes.Repeat([]byte{'x'}, 41), make([]byte, n), make([]byte, 5000)}
		for i := range text {
			turned := bytes.Clone(text)
			turned[i] ^= 1
			ids = append(ids, turned, text[:i], text[i:])
		}
		for _, id := range ids {
			if free, mine := impl.Owner(z, name, id); free || mine != (string(id) == string(text)) {
				t.Errorf("Owner with %q as Text and %q = %v, %v", text, id, free, mine)
			}
		}
	}
}

func TestAnEmptyIdIsNotThatOfANameWithoutOne(t *testing.T) {
	name := named("pc.home.")
	z := zoneOf("home.", rec(soa), impl.Rr{Name: name, Type: 49}, impl.Rr{Name: named("tv.home."), Type: 16})
	for _, id := range [][]byte{nil, {}, []byte("id")[:0]} {
		if free, mine := impl.Owner(z, name, id); free || !mine {
			t.Error("an empty Text:", free, mine)
		}
		if free, mine := impl.Owner(z, named("tv.home."), id); free || mine {
			t.Error("an empty TyTxt:", free, mine)
		}
		if free, mine := impl.Owner(z, named("no.home."), id); !free || mine {
			t.Error("no records:", free, mine)
		}
	}
	z, _ = impl.Add(z, impl.Rr{Name: name, Type: 49, Text: []byte("id")})
	if free, mine := impl.Owner(z, name, nil); free || mine {
		t.Error("an empty Text and another one:", free, mine)
	}
}

func TestOwnerOfGreatNames(t *testing.T) {
	w := longLabel()
	n := labels(w, w, w, w, w, w)
	id, ok := impl.Dhcid([]byte("0123456789abcdef"), n)
	z, _ := impl.ZoneNew(labels(w), 5)
	free, mine := impl.Owner(z, n, id)
	z, put := impl.Add(z, impl.Rr{Name: n, Type: 49, Text: id})
	f2, m2 := impl.Owner(z, n, id)
	f3, m3 := impl.Owner(z, labels(w, w, w, w, w), id)
	if !ok || !put || !free || mine || f2 || !m2 || !f3 || m3 {
		t.Error(ok, put, free, mine, f2, m2, f3, m3)
	}
}

func TestOwnerRefuses(t *testing.T) {
	for _, z := range append(wrongZones(), zonesOfBadRecords()...) {
		for _, name := range []string{"pc.home.", "home.", ".", "no.home."} {
			expectOwner(t, z, name, "b", false, false)
			expectOwner(t, z, name, "", false, false)
		}
	}
	joined := []impl.Name{labels("Pc", "home"), labels("pc", "HOME"), labels("pc.home"), labels("home\x00pc"), labels("pc", "home", "")}
	for _, n := range append(badNames(), joined...) {
		for _, z := range []impl.Zone{house(), rootZone(), {}} {
			if free, mine := impl.Owner(z, n, []byte("b")); free || mine {
				t.Errorf("Owner of %s = %v, %v", told(n), free, mine)
			}
		}
	}
}

// ownerIn says again what Owner does, over a zone and a name that may be.
func ownerIn(z impl.Zone, n impl.Name, id []byte) (bool, bool) {
	var texts []string
	for _, r := range setIn(z, n, 49) {
		texts = append(texts, string(r.Text))
	}
	return len(setIn(z, n, 255)) == 0, slices.Equal(texts, []string{string(id)})
}

func checkOwner(t *testing.T, z impl.Zone, n impl.Name, id []byte) (bool, bool) {
	t.Helper()
	free, mine := impl.Owner(z, n, id)
	wantFree, wantMine := ownerIn(z, n, id)
	if free != wantFree || mine != wantMine || free && mine {
		t.Fatalf("Owner of %s in %s with %q = %v, %v, want %v, %v", told(n), toldZone(z), id, free, mine, wantFree, wantMine)
	}
	lacks := impl.Want{Rr: emptyOf(n, 255), Class: 254, Bare: true}
	if isUnder(n, z.Origin) && free != (impl.Prereqs(z, []impl.Want{lacks}) == impl.RcOk) {
		t.Fatalf("%s is free: %v, but a prerequisite says another thing", told(n), free)
	}
	return free, mine
}

func TestOwnersOfGoodZones(t *testing.T) {
	for _, z := range goodZones() {
		names := append(goodNames(), named("no.home."), named("c.home."), named("x.sub.home."))
		for _, r := range z.Rrs {
			names = append(names, r.Name, r.To)
		}
		for _, n := range names {
			for _, id := range []string{"", "a", "b", "Hi", strings.Repeat("a", 40)} {
				checkOwner(t, z, n, []byte(id))
			}
		}
	}
}

func TestOwnersOfMixedZones(t *testing.T) {
	m := mixer(77)
	freed, owned, nobodys := 0, 0, 0
	for i := range 100 {
		origin := []impl.Name{named("home."), named("."), named("z.home."), named("2.3.4.5.6.")}[i%4]
		z, _ := impl.ZoneNew(origin, 5)
		for range m.of(5, 15, 40) {
			r := m.record(origin)
			if m.below(2) == 0 {
				r = impl.Rr{Name: m.name(origin), Type: 49, Ttl: 9, Text: bytes.Repeat([]byte{byte('a' + m.below(3))}, m.of(0, 1))}
			}
			z, _ = impl.Add(z, r)
			for _, n := range []impl.Name{r.Name, m.name(origin)} {
				id := bytes.Repeat([]byte{byte('a' + m.below(3))}, m.of(0, 1, 1))
				switch free, mine := checkOwner(t, z, n, id); {
				case free:
					freed++
				case mine:
					owned++
				default:
					nobodys++
				}
			}
			checkFreed(t, z, r.Name)
		}
	}
	if freed < 500 || owned < 200 || nobodys < 500 {
		t.Error("too little was found:", freed, owned, nobodys)
	}
}

// checkFreed drops all of a name, which is free then, but for the origin, whose TySoa stays.
func checkFreed(t *testing.T, z impl.Zone, n impl.Name) {
	t.Helper()
	left, _ := impl.DropSet(z, n, 255)
	if free, mine := checkOwner(t, left, n, nil); free != (told(n) != told(z.Origin)) || mine {
		t.Fatalf("behind DropSet Owner of %s = %v, %v", told(n), free, mine)
	}
}

func TestANameGoesFromHandToHand(t *testing.T) {
	z, n := zone("home.", soa), named("pc.home.")
	first, _ := impl.Dhcid([]byte("m1"), n)
	second, _ := impl.Dhcid([]byte("m2"), n)
	expect := func(when string, free, byFirst, bySecond bool) {
		t.Helper()
		f1, m1 := impl.Owner(z, n, first)
		f2, m2 := impl.Owner(z, n, second)
		if f1 != free || f2 != free || m1 != byFirst || m2 != bySecond {
			t.Fatal(when, f1, f2, m1, m2)
		}
	}
	sign := func(id []byte) impl.Rr { return impl.Rr{Name: n, Type: 49, Ttl: 60, Text: id} }
	expect("at first", true, false, false)
	z, _ = impl.Add(z, sign(first))
	expect("the first one's", false, true, false)
	z, _ = impl.Add(z, rec("pc.home. 60 A 3"))
	expect("with an address", false, true, false)
	z, _ = impl.Add(z, sign(second))
	expect("of two", false, false, false)
	z, _ = impl.Drop(z, sign(first))
	expect("the second one's", false, false, true)
	z, _ = impl.Drop(z, sign(second))
	expect("with an address alone", false, false, false)
	z, _ = impl.DropSet(z, n, 255)
	expect("at last", true, false, false)
}

// ownerArgs are all arguments that a function of the chapter may take; b is a text, a client or an id.
type ownerArgs struct {
	z impl.Zone
	n impl.Name
	b []byte
}

func (a ownerArgs) roomy() ownerArgs {
	return ownerArgs{roomyZone(a.z), roomyName(a.n), append(bytes.Clone(a.b), "SPAREROOM"...)[:len(a.b)]}
}

func (a ownerArgs) whole() string {
	return wholeMsg(packed(a.z)) + wholeName(a.n) + fmt.Sprintf("%q", whole(a.b))
}

func (a ownerArgs) scribble() {
	scribbleMsg(packed(a.z))
	scribbleName(a.n)
	scribble(a.b)
}

// ownerCalls are calls of every function of the chapter; each gives its flags as bytes, where it has no others.
func ownerCalls() map[string]func(a ownerArgs) []byte {
	return map[string]func(a ownerArgs) []byte{
		"Sha256": func(a ownerArgs) []byte { return impl.Sha256(a.b) },
		"Dhcid":  func(a ownerArgs) []byte { b, _ := impl.Dhcid(a.b, a.n); return b },
		"Owner":  func(a ownerArgs) []byte { free, mine := impl.Owner(a.z, a.n, a.b); return fmt.Append(nil, free, mine) },
	}
}

func manyOwnerArgs() []ownerArgs {
	wrong := badZones()
	var out []ownerArgs
	for _, z := range []impl.Zone{house(), rootZone(), fullZone(60), zone("home.", soa, "pc.home. 9 DHCID m1"), wrong["two TySoa"], wrong["one too many"], {}} {
		for _, n := range append(goodNames(), badNames()...) {
			for _, size := range []int{0, 1, 16, 17, 55, 64} {
				out = append(out, ownerArgs{z, n, mixedText(size)})
			}
			out = append(out, ownerArgs{z, n, []byte("m1")}, ownerArgs{z, n, []byte("b")}, ownerArgs{z, n, nil})
		}
	}
	return append(out, ownerArgs{house(), named("pc.home."), mixedText(4096)}, ownerArgs{house(), named("pc.home."), mixedText(4097)})
}

func TestOwnerAnswersAreNewMemory(t *testing.T) {
	for call, run := range ownerCalls() {
		for _, plain := range manyOwnerArgs() {
			a := plain.roomy()
			before := a.whole()
			first, second := run(a), run(a)
			where := fmt.Sprintf("%s of %s and %q", call, told(plain.n), plain.b)
			if a.whole() != before {
				t.Fatalf("%s wrote into an argument", where)
			}
			want := string(second)
			if string(first) != want || string(run(plain)) != want {
				t.Fatalf("%s hangs on spare room", where)
			}
			scribble(first)
			if a.whole() != before || string(second) != want || string(run(a)) != want {
				t.Fatalf("%s shares memory", where)
			}
			a.scribble()
			if string(second) != want {
				t.Fatalf("%s keeps its argument", where)
			}
		}
	}
}
