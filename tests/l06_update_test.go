package tests

import (
	"fmt"
	"slices"
	"strings"
	"testing"

	"loop.example/g00422/impl"
)

func typeOfWord(word string) int {
	for ty, text := range typeTexts() {
		if text == word {
			return ty
		}
	}
	return 255
}

// wish makes a Want of words: + and - have a record, any and none are bare, with a name and a type.
func wish(text string) impl.Want {
	word, rest, _ := strings.Cut(text, " ")
	switch word {
	case "+":
		return impl.Want{Rr: rec(rest), Class: 1}
	case "-":
		return impl.Want{Rr: rec(rest), Class: 254}
	}
	w := strings.Fields(rest)
	return impl.Want{Rr: emptyOf(named(w[0]), typeOfWord(w[1])), Class: map[string]int{"any": 255, "none": 254}[word], Bare: true}
}

func wishes(texts ...string) []impl.Want {
	var out []impl.Want
	for _, text := range texts {
		out = append(out, wish(text))
	}
	return out
}

// without is a zone without these records, and with others.
func without(z impl.Zone, gone []string, come []string) impl.Zone {
	out := impl.Zone{Origin: z.Origin}
	texts := toldRrs(recs(gone...))
	for _, r := range z.Rrs {
		if !strings.Contains(texts, toldRr(r)) {
			out.Rrs = append(out.Rrs, r)
		}
	}
	if len(out.Rrs) != len(z.Rrs)-len(gone) {
		panic(texts)
	}
	out.Rrs = sorted(append(out.Rrs, recs(come...)...))
	return out
}

func withSerial(z impl.Zone, serial int) impl.Zone {
	out := impl.Zone{Origin: z.Origin}
	for _, r := range z.Rrs {
		if r.Type == 6 {
			r.Nums = []int{serial, r.Nums[1]}
		}
		out.Rrs = append(out.Rrs, r)
	}
	return out
}

func expectPrereqs(t *testing.T, z impl.Zone, code int, texts ...string) {
	t.Helper()
	if got := impl.Prereqs(z, wishes(texts...)); got != code {
		t.Errorf("Prereqs %q = %d, want %d", texts, got, code)
	}
}

func expectPrescan(t *testing.T, z impl.Zone, code int, texts ...string) {
	t.Helper()
	if got := impl.Prescan(z, wishes(texts...)); got != code {
		t.Errorf("Prescan %q = %d, want %d", texts, got, code)
	}
}

func TestPrereqsSayWhatIsThere(t *testing.T) {
	for text, code := range map[string]int{
		"any pc.home. A": impl.RcOk, "any pc.home. DHCID": impl.RcOk, "any home. SOA": impl.RcOk, "any web.home. CNAME": impl.RcOk, "any ns.sub.home. A": impl.RcOk,
		"any pc.home. NS": impl.RcNxSet, "any no.home. A": impl.RcNxSet, "any web.home. A": impl.RcNxSet, "any c.home. PTR": impl.RcNxSet, "any pc.home. SOA": impl.RcNxSet,
		"any pc.home. ANY": impl.RcOk, "any home. ANY": impl.RcOk, "any web.home. ANY": impl.RcOk, "any low.sub.home. ANY": impl.RcOk,
		"any no.home. ANY": impl.RcName, "any c.home. ANY": impl.RcName, "any x.pc.home. ANY": impl.RcName, "any x.sub.home. ANY": impl.RcName,
		"none pc.home. NS": impl.RcOk, "none no.home. A": impl.RcOk, "none web.home. A": impl.RcOk, "none c.home. PTR": impl.RcOk, "none pc.home. SOA": impl.RcOk,
		"none pc.home. A": impl.RcYxSet, "none pc.home. DHCID": impl.RcYxSet, "none home. SOA": impl.RcYxSet, "none web.home. CNAME": impl.RcYxSet, "none ns.sub.home. A": impl.RcYxSet,
		"none no.home. ANY": impl.RcOk, "none c.home. ANY": impl.RcOk, "none x.pc.home. ANY": impl.RcOk,
		"none pc.home. ANY": impl.RcYxName, "none home. ANY": impl.RcYxName, "none web.home. ANY": impl.RcYxName, "none low.sub.home. ANY": impl.RcYxName,
	} {
		expectPrereqs(t, house(), code, text)
	}
	expectPrereqs(t, house(), impl.RcOk)
	expectPrereqs(t, rootZone(), impl.RcOk, "any . ANY", "none com. A", "any . A", "none x. ANY")
}

func TestPrereqsOfWholeSets(t *testing.T) {
	type l = []string
	for _, c := range []struct {
		code int
		list l
	}{
		{0, l{"+ pc.home. 0 A 3", "+ pc.home. 0 A 8"}},
		{0, l{"+ pc.home. 0 A 8", "+ pc.home. 0 A 3"}},
		{0, l{"+ pc.home. 0 A 8", "+ pc.home. 0 A 3", "+ pc.home. 0 A 8"}},
		{8, l{"+ pc.home. 0 A 3"}}, {8, l{"+ pc.home. 0 A 8"}},
		{8, l{"+ pc.home. 0 A 3", "+ pc.home. 0 A 3"}},
		{8, l{"+ pc.home. 0 A 3", "+ pc.home. 0 A 8", "+ pc.home. 0 A 9"}},
		{8, l{"+ pc.home. 0 A 3", "+ pc.home. 0 A 9"}}, {8, l{"+ pc.home. 0 A 2", "+ pc.home. 0 A 8"}},
		{0, l{"+ pc.home. 0 TXT a"}}, {8, l{"+ pc.home. 0 TXT b"}}, {8, l{"+ pc.home. 0 DHCID a"}},
		{8, l{"+ pc.home. 0 NS a."}}, {8, l{"+ no.home. 0 A 3"}}, {8, l{"+ web.home. 0 A 3"}},
		{0, l{"+ web.home. 0 CNAME pc.home."}}, {8, l{"+ web.home. 0 CNAME tv.home."}},
		{0, l{"+ home. 0 SOA home. 5 60"}}, {8, l{"+ home. 0 SOA home. 6 60"}}, {8, l{"+ home. 0 SOA home. 5 61"}},
		{0, l{"+ home. 0 NS ns.out.", "+ home. 0 NS ns.home."}},
		{0, l{"+ pc.home. 0 A 3", "+ web.home. 0 CNAME pc.home.", "+ pc.home. 0 A 8"}},
		{0, l{"+ pc.home. 0 A 3", "+ pc.home. 0 TXT a", "+ pc.home. 0 A 8", "+ ns.home. 0 A 1"}},
		{8, l{"+ pc.home. 0 A 3", "+ pc.home. 0 TXT a", "+ ns.home. 0 A 1"}},
		{8, l{"+ pc.home. 0 A 3", "+ ns.home. 0 A 1", "+ pc.home. 0 A 8", "+ ns.home. 0 A 2"}},
		{8, l{"+ pc.home. 0 A 3", "+ ns.home. 0 A 8"}},
		{0, l{"any pc.home. A", "+ pc.home. 0 A 3", "none pc.home. NS", "+ pc.home. 0 A 8", "any home. ANY", "none no.home. ANY"}},
	} {
		expectPrereqs(t, house(), c.code, c.list...)
	}
	mixedTimes := zone("home.", soa, "pc.home. 1 A 1", "pc.home. 100000 A 2", "pc.home. 0 A 3")
	expectPrereqs(t, mixedTimes, 0, "+ pc.home. 0 A 3", "+ pc.home. 0 A 2", "+ pc.home. 0 A 1")
}

func TestTheFirstPrereqInOrderCounts(t *testing.T) {
	type l = []string
	for _, c := range []struct {
		code int
		list l
	}{
		{8, l{"any no.home. A", "none pc.home. A"}}, {7, l{"none pc.home. A", "any no.home. A"}},
		{3, l{"any no.home. ANY", "none pc.home. ANY"}}, {6, l{"none pc.home. ANY", "any no.home. ANY"}},
		{7, l{"+ pc.home. 0 A 3", "none pc.home. TXT"}}, {8, l{"+ pc.home. 0 A 3", "any pc.home. TXT"}},
		{10, l{"+ pc.home. 0 A 3", "any com. A"}}, {10, l{"any com. A", "any no.home. ANY"}}, {3, l{"any no.home. ANY", "any com. A"}},
		{10, l{"+ com. 9 A 3"}}, {10, l{"- com. 0 A 3"}}, {10, l{"none com. ANY"}}, {10, l{"+ . 0 A 3"}}, {10, l{"any xhome. A"}}, {10, l{"none pc.home.com. A"}},
		{1, l{"+ pc.home. 9 A 3", "any com. A"}}, {10, l{"any com. A", "+ pc.home. 9 A 3"}},
		{1, l{"+ pc.home. 1 A 3", "any no.home. ANY"}}, {3, l{"any no.home. ANY", "+ pc.home. 9 A 3"}},
		{1, l{"- pc.home. 0 A 3", "none pc.home. A"}}, {7, l{"none pc.home. A", "- pc.home. 0 A 3"}},
		{1, l{"+ pc.home. 0 A 3", "+ pc.home. 9 A 8"}}, {1, l{"+ pc.home. 100000 A 3"}}, {1, l{"- no.home. 0 A 3"}},
	} {
		expectPrereqs(t, house(), c.code, c.list...)
	}
}

func TestPrescan(t *testing.T) {
	type l = []string
	for _, c := range []struct {
		code int
		list l
	}{
		{0, nil}, {0, l{"+ pc.home. 9 A 3"}}, {0, l{"- pc.home. 0 A 3"}}, {0, l{"any pc.home. A"}}, {0, l{"any no.home. ANY"}},
		{0, l{"+ web.home. 9 A 3", "+ pc.home. 9 CNAME a.", "+ pc.home. 9 SOA a. 1 1", "- home. 0 NS a.", "any home. SOA", "any home. ANY"}},
		{1, l{"none pc.home. A"}}, {1, l{"none no.home. ANY"}}, {1, l{"+ pc.home. 9 A 3", "none pc.home. A"}},
		{10, l{"+ com. 9 A 3"}}, {10, l{"- com. 0 A 3"}}, {10, l{"any com. A"}}, {10, l{"any . ANY"}}, {10, l{"+ xhome. 9 A 3"}}, {10, l{"+ home.com. 9 A 3"}},
		{10, l{"none com. A"}}, {10, l{"any com. A", "none pc.home. A"}}, {1, l{"none pc.home. A", "any com. A"}}, {10, l{"+ pc.home. 9 A 3", "- . 0 A 3", "none home. SOA"}},
	} {
		expectPrescan(t, house(), c.code, c.list...)
	}
	expectPrescan(t, rootZone(), 0, "+ com. 9 A 3", "any . ANY", "- x. 0 A 3")
	expectPrescan(t, deepZone(), 10, "+ 2.3.4.5.6. 9 A 3")
}

func TestHowManyWants(t *testing.T) {
	for n := 10; n <= 15; n++ {
		some := slices.Repeat(wishes("any pc.home. A"), n)
		wrong := slices.Repeat(wishes("any com. A"), n)
		want, wantWrong := impl.RcOk, impl.RcNotZone
		if n > impl.MaxList {
			want, wantWrong = impl.RcForm, impl.RcForm
		}
		for call, run := range map[string]func(impl.Zone, []impl.Want) int{"Prereqs": impl.Prereqs, "Prescan": impl.Prescan} {
			if got, gotWrong := run(house(), some), run(house(), wrong); got != want || gotWrong != wantWrong {
				t.Errorf("%s of %d = %d, %d", call, n, got, gotWrong)
			}
		}
	}
}

// fewBadWants leave out those that are wrong in the same way.
func fewBadWants() []impl.Want {
	var out []impl.Want
	for i, w := range badWants() {
		if i%7 == 0 {
			out = append(out, w)
		}
	}
	return append(out, impl.Want{}, impl.Want{Rr: rec("pc.home. 9 A 3"), Class: 254}, impl.Want{Rr: rec("pc.home. 0 A 3"), Class: 255}, impl.Want{Rr: emptyOf(named("pc.home."), 1), Class: 1, Bare: true})
}

func TestWantsThatMayNotBe(t *testing.T) {
	z := house()
	for _, w := range fewBadWants() {
		if x, ok := impl.Change(z, w); ok || !isZeroZone(x) {
			t.Fatalf("Change %s = %s, %v", toldWant(w), toldZone(x), ok)
		}
		for _, first := range []string{"any pc.home. A", "any no.home. A", "any com. A", "none pc.home. ANY"} {
			l := append(wishes(first), w)
			if c, d := impl.Prereqs(z, l), impl.Prescan(z, l); c != impl.RcForm || d != impl.RcForm {
				t.Fatalf("Prereqs, Prescan of %s behind %s = %d, %d", toldWant(w), first, c, d)
			}
		}
	}
}

func TestUpdatesOfWrongZones(t *testing.T) {
	m := update(named("home."))
	m.Ups = wishes("+ pc.home. 9 A 3")
	for _, z := range append(wrongZones(), zonesOfBadRecords()...) {
		for _, l := range [][]impl.Want{nil, m.Ups, wishes("any com. A"), wishes("any pc.home. A")} {
			if c, d := impl.Prereqs(z, l), impl.Prescan(z, l); c != impl.RcForm || d != impl.RcForm {
				t.Fatalf("Prereqs, Prescan of %s = %d, %d", toldZone(z), c, d)
			}
		}
		x, ok := impl.Change(z, m.Ups[0])
		y, reply := impl.Update(z, m)
		if ok || !isZeroZone(x) || !isZeroZone(y) || !isZeroMsg(reply) {
			t.Fatalf("%s is changed to %s, %s", toldZone(z), toldZone(x), toldZone(y))
		}
		for _, pair := range [][2]impl.Zone{{z, house()}, {house(), z}, {z, z}} {
			if a, b, ok := impl.ZoneDiff(pair[0], pair[1]); ok || len(a)+len(b) > 0 {
				t.Fatalf("ZoneDiff tells %s, %s", toldRrs(a), toldRrs(b))
			}
		}
	}
}

// expectChange does a change twice: the second time it may change nothing more.
func expectChange(t *testing.T, z impl.Zone, text string, want impl.Zone) {
	t.Helper()
	got, ok := impl.Change(z, wish(text))
	expectZone(t, "Change "+text, got, ok, want, true)
	again, ok := impl.Change(got, wish(text))
	expectZone(t, "Change again "+text, again, ok, want, true)
}

func TestChangesThatDrop(t *testing.T) {
	for text, gone := range map[string][]string{
		"any pc.home. ANY":                      {"pc.home. 9 A 3", "pc.home. 9 A 8", "pc.home. 7 TXT a", "pc.home. 8 DHCID b"},
		"any pc.home. A":                        {"pc.home. 9 A 3", "pc.home. 9 A 8"},
		"any pc.home. NS":                       nil,
		"any pc.home. SOA":                      nil,
		"any no.home. ANY":                      nil,
		"any c.home. ANY":                       nil,
		"any home. ANY":                         {"home. 40 TXT Hi"},
		"any home. TXT":                         {"home. 40 TXT Hi"},
		"any home. NS":                          nil,
		"any home. SOA":                         nil,
		"any sub.home. NS":                      {"sub.home. 9 NS ns.sub.home.", "sub.home. 9 NS ns.home.", "sub.home. 9 NS ns.com."},
		"any sub.home. ANY":                     {"sub.home. 9 NS ns.sub.home.", "sub.home. 9 NS ns.home.", "sub.home. 9 NS ns.com.", "sub.home. 9 TXT x"},
		"any web.home. ANY":                     {"web.home. 9 CNAME pc.home."},
		"any web.home. A":                       nil,
		"- pc.home. 0 A 3":                      {"pc.home. 9 A 3"},
		"- pc.home. 0 A 4":                      nil,
		"- pc.home. 0 TXT b":                    nil,
		"- no.home. 0 A 3":                      nil,
		"- home. 0 NS ns.out.":                  {"home. 30 NS ns.out."},
		"- home. 0 NS ns.home.":                 {"home. 30 NS ns.home."},
		"- home. 0 NS no.":                      nil,
		"- home. 0 TXT Hi":                      {"home. 40 TXT Hi"},
		"- home. 0 SOA home. 5 60":              nil,
		"- sub.home. 0 NS ns.com.":              {"sub.home. 9 NS ns.com."},
		"- low.sub.home. 0 NS ns.low.sub.home.": {"low.sub.home. 9 NS ns.low.sub.home."},
		"- web.home. 0 CNAME pc.home.":          {"web.home. 9 CNAME pc.home."},
		"- web.home. 0 CNAME tv.home.":          nil,
	} {
		expectChange(t, house(), text, without(house(), gone, nil))
	}
}

func TestServersOfTheOriginStay(t *testing.T) {
	one := zone("home.", soa, "home. 30 NS ns.home.", "home. 9 A 3", "a.home. 30 NS ns.home.")
	two := zone("home.", soa, "home. 30 NS ns.home.", "home. 30 NS ns.out.", "home. 9 A 3")
	expectChange(t, one, "- home. 0 NS ns.home.", one)
	expectChange(t, one, "- home. 0 NS ns.out.", one)
	expectChange(t, one, "any home. NS", one)
	expectChange(t, one, "any home. ANY", without(one, []string{"home. 9 A 3"}, nil))
	expectChange(t, one, "- a.home. 0 NS ns.home.", without(one, []string{"a.home. 30 NS ns.home."}, nil))
	expectChange(t, one, "any a.home. NS", without(one, []string{"a.home. 30 NS ns.home."}, nil))
	expectChange(t, two, "- home. 0 NS ns.out.", without(two, []string{"home. 30 NS ns.out."}, nil))
	expectChange(t, two, "any home. NS", two)
	expectChange(t, two, "any home. ANY", without(two, []string{"home. 9 A 3"}, nil))
	expectChange(t, zone("home.", soa), "- home. 0 NS ns.home.", zone("home.", soa))
	expectChange(t, rootZone(), "- . 0 NS ns.", rootZone())
	expectChange(t, rootZone(), "any . ANY", without(rootZone(), []string{". 60 A 9"}, nil))
	expectChange(t, rootZone(), "any com. NS", without(rootZone(), []string{"com. 60 NS ns.com."}, nil))
	expectChange(t, deepZone(), "any 1.2.3.4.5.6. ANY", without(deepZone(), []string{"1.2.3.4.5.6. 0 A 4294967295"}, nil))
}

func TestChangesThatAdd(t *testing.T) {
	type l = []string
	for _, c := range []struct {
		text       string
		gone, come l
	}{
		{"+ pc.home. 9 A 4", nil, l{"pc.home. 9 A 4"}},
		{"+ pc.home. 9 A 3", nil, nil},
		{"+ pc.home. 30 A 3", l{"pc.home. 9 A 3", "pc.home. 9 A 8"}, l{"pc.home. 30 A 3", "pc.home. 30 A 8"}},
		{"+ pc.home. 0 A 4", l{"pc.home. 9 A 3", "pc.home. 9 A 8"}, l{"pc.home. 0 A 3", "pc.home. 0 A 4", "pc.home. 0 A 8"}},
		{"+ pc.home. 100000 TXT a", l{"pc.home. 7 TXT a"}, l{"pc.home. 100000 TXT a"}},
		{"+ no.home. 9 A 3", nil, l{"no.home. 9 A 3"}},
		{"+ home. 9 NS a.", l{"home. 30 NS ns.home.", "home. 30 NS ns.out."}, l{"home. 9 NS ns.home.", "home. 9 NS ns.out.", "home. 9 NS a."}},
		{"+ x.sub.home. 9 A 3", nil, l{"x.sub.home. 9 A 3"}},
		{"+ no.home. 9 CNAME pc.home.", nil, l{"no.home. 9 CNAME pc.home."}},
		{"+ c.home. 9 CNAME pc.home.", nil, l{"c.home. 9 CNAME pc.home."}},
		{"+ x.web.home. 9 A 1", nil, l{"x.web.home. 9 A 1"}},
		{"+ web.home. 9 CNAME pc.home.", nil, nil},
		{"+ web.home. 30 CNAME pc.home.", l{"web.home. 9 CNAME pc.home."}, l{"web.home. 30 CNAME pc.home."}},
	} {
		expectChange(t, house(), c.text, without(house(), c.gone, c.come))
	}
	for _, text := range []string{
		"+ web.home. 9 CNAME tv.home.", "+ web.home. 30 CNAME tv.home.", "+ pc.home. 9 CNAME tv.home.", "+ home. 9 CNAME tv.home.", "+ sub.home. 9 CNAME pc.home.", "+ a.b.c.home. 9 CNAME pc.home.",
		"+ web.home. 9 A 3", "+ web.home. 9 NS a.", "+ web.home. 9 PTR a.", "+ web.home. 9 TXT a", "+ web.home. 30 DHCID a",
		"+ pc.home. 60 SOA home. 6 60", "+ web.home. 60 SOA home. 6 60", "+ no.home. 60 SOA home. 6 60",
	} {
		expectChange(t, house(), text, house())
	}
}

func TestChangesOfTheSerial(t *testing.T) {
	for _, old := range []int{0, 1, 5, 1<<31 - 1, 1 << 31, 1<<31 + 1, 1<<32 - 2, 1<<32 - 1} {
		z := withSerial(house(), old)
		for ahead, taken := range map[int]bool{0: false, 1: true, 2: true, 1 << 30: true, 1<<31 - 1: true, 1 << 31: false, 1<<31 + 1: false, 1<<32 - 2: false, 1<<32 - 1: false} {
			text := fmt.Sprintf("home. 61 SOA other. %d 0", (old+ahead)%(1<<32))
			want := z
			if taken {
				want = without(z, []string{fmt.Sprintf("home. 60 SOA home. %d 60", old)}, []string{text})
			}
			expectChange(t, z, "+ "+text, want)
			expectUpdate(t, z, upsOf("+ "+text), want, 0)
			expectChange(t, z, "+ pc."+text, z)
		}
	}
}

func TestChangesThatAreRefused(t *testing.T) {
	for _, text := range []string{"+ com. 9 A 3", "- com. 0 A 3", "any com. A", "any . ANY", "none com. A", "none pc.home. A", "none no.home. ANY", "none home. SOA", "+ xhome. 9 A 3", "+ com. 9 SOA home. 6 60"} {
		if x, ok := impl.Change(house(), wish(text)); ok || !isZeroZone(x) {
			t.Errorf("Change %s = %s, %v", text, toldZone(x), ok)
		}
	}
}

func TestChangesOfAFullZone(t *testing.T) {
	one := "one.home. 7 TXT a"
	full := fullZone(60)
	expectChange(t, fullZone(59), "+ "+one, without(fullZone(59), nil, []string{one}))
	if x, ok := impl.Change(full, wish("+ "+one)); ok || !isZeroZone(x) {
		t.Errorf("one more: %s, %v", toldZone(x), ok)
	}
	expectChange(t, full, "+ n1.home. 60 A 999", full)
	expectChange(t, full, "+ n1.home. 7 CNAME a.", full)
	expectChange(t, full, "+ one.home. 7 SOA a. 6 60", full)
	expectChange(t, full, "+ home. 7 SOA a. 6 60", without(full, []string{soa}, []string{"home. 7 SOA a. 6 60"}))
	expectChange(t, full, "- n1.home. 0 A 999", without(full, []string{"n1.home. 60 A 999"}, nil))
}

func upsOf(texts ...string) impl.Msg {
	m := update(named("home."))
	m.Ups = wishes(texts...)
	return m
}

// expectUpdate holds the zone and the whole reply to what they must be.
func expectUpdate(t *testing.T, z impl.Zone, m impl.Msg, want impl.Zone, code int) {
	t.Helper()
	got, reply := impl.Update(z, m)
	wantReply := impl.Msg{Id: m.Id, Reply: true, Op: 5, Code: code, Qs: m.Qs}
	if toldZone(got) != toldZone(want) || toldMsg(reply) != toldMsg(wantReply) {
		t.Errorf("Update of %s by %s = %s, %s, want %s, %s", toldZone(z), toldMsg(m), toldZone(got), toldMsg(reply), toldZone(want), toldMsg(wantReply))
	}
}

func TestUpdate(t *testing.T) {
	type l = []string
	for _, c := range []struct {
		ups, gone, come l
	}{
		{l{"+ no.home. 9 A 3"}, nil, l{"no.home. 9 A 3"}},
		{l{"+ no.home. 9 A 3", "any pc.home. ANY"}, l{"pc.home. 9 A 3", "pc.home. 9 A 8", "pc.home. 7 TXT a", "pc.home. 8 DHCID b"}, l{"no.home. 9 A 3"}},
		{l{"any pc.home. A", "+ pc.home. 9 A 3"}, l{"pc.home. 9 A 8"}, nil},
		{l{"+ pc.home. 9 A 4", "any pc.home. A"}, l{"pc.home. 9 A 3", "pc.home. 9 A 8"}, nil},
		{l{"any web.home. ANY", "+ web.home. 9 A 3"}, l{"web.home. 9 CNAME pc.home."}, l{"web.home. 9 A 3"}},
		{l{"+ web.home. 9 A 3", "any web.home. CNAME"}, l{"web.home. 9 CNAME pc.home."}, nil},
		{l{"- web.home. 0 CNAME pc.home.", "+ web.home. 9 CNAME tv.home."}, l{"web.home. 9 CNAME pc.home."}, l{"web.home. 9 CNAME tv.home."}},
		{l{"- home. 0 NS ns.home.", "- home. 0 NS ns.out."}, l{"home. 30 NS ns.home."}, nil},
		{l{"- home. 0 NS ns.out.", "- home. 0 NS ns.home."}, l{"home. 30 NS ns.out."}, nil},
		{l{"- home. 0 NS ns.out.", "+ home. 30 NS a.", "- home. 0 NS ns.home."}, l{"home. 30 NS ns.out.", "home. 30 NS ns.home."}, l{"home. 30 NS a."}},
		{l{"+ pc.home. 10 TXT a"}, l{"pc.home. 7 TXT a"}, l{"pc.home. 10 TXT a"}},
		{l{"+ web.home. 10 CNAME pc.home."}, l{"web.home. 9 CNAME pc.home."}, l{"web.home. 10 CNAME pc.home."}},
		{l{"+ pc.home. 10 A 4", "- pc.home. 0 A 4"}, l{"pc.home. 9 A 3", "pc.home. 9 A 8"}, l{"pc.home. 10 A 3", "pc.home. 10 A 8"}},
		{l{"+ home. 9 SOA a. 5 9", "+ no.home. 9 A 3"}, nil, l{"no.home. 9 A 3"}},
		{l{"+ no.home. 9 SOA a. 9 9", "+ home. 9 SOA a. 4 9", "any home. ANY"}, l{"home. 40 TXT Hi"}, nil},
	} {
		want := without(house(), c.gone, c.come)
		for _, serials := range [][2]int{{5, 6}, {0, 1}, {1<<31 - 1, 1 << 31}, {1<<32 - 2, 1<<32 - 1}, {1<<32 - 1, 0}} {
			ups := slices.Clone(c.ups)
			for i := range ups {
				ups[i] = strings.Replace(ups[i], "SOA a. 5 ", fmt.Sprintf("SOA a. %d ", serials[0]), 1)
				ups[i] = strings.Replace(ups[i], "SOA a. 4 ", fmt.Sprintf("SOA a. %d ", (serials[0]+1<<31)%(1<<32)), 1)
			}
			expectUpdate(t, withSerial(house(), serials[0]), upsOf(ups...), withSerial(want, serials[1]), 0)
		}
	}
}

func TestUpdatesThatChangeNothing(t *testing.T) {
	for _, ups := range [][]string{
		nil, {"+ pc.home. 9 A 3"}, {"+ pc.home. 9 A 4", "- pc.home. 0 A 4"}, {"any pc.home. TXT", "+ pc.home. 7 TXT a"}, {"+ pc.home. 10 TXT a", "+ pc.home. 7 TXT a"},
		{"any no.home. ANY", "- no.home. 0 A 3", "- pc.home. 0 A 4"}, {"any home. NS", "any home. SOA", "- home. 0 SOA home. 5 60"},
		{"+ web.home. 9 A 3", "+ pc.home. 9 CNAME a.", "+ web.home. 9 CNAME tv.home."}, {"+ home. 61 SOA a. 5 61"}, {"+ home. 61 SOA a. 4 61", "+ pc.home. 60 SOA home. 6 60"},
		{"+ home. 60 SOA home. 1073741829 60", "+ home. 60 SOA home. 2147483653 60", "+ home. 60 SOA home. 3221225477 60", "+ home. 60 SOA home. 5 60"},
	} {
		expectUpdate(t, house(), upsOf(ups...), house(), 0)
		m := upsOf(ups...)
		m.Pres = wishes("any pc.home. A", "none no.home. ANY", "+ ns.home. 0 A 1")
		expectUpdate(t, house(), m, house(), 0)
	}
}

func TestUpdatesThatSetTheSerial(t *testing.T) {
	soas := []string{soa}
	for _, c := range []struct{ ups, come []string }{
		{[]string{"+ home. 60 SOA home. 6 60"}, []string{"home. 60 SOA home. 6 60"}},
		{[]string{"+ home. 0 SOA a. 100 0", "+ no.home. 9 A 3"}, []string{"home. 0 SOA a. 100 0", "no.home. 9 A 3"}},
		{[]string{"+ no.home. 9 A 3", "+ home. 60 SOA home. 100 60", "+ home. 60 SOA home. 99 60"}, []string{"home. 60 SOA home. 100 60", "no.home. 9 A 3"}},
		{[]string{"+ home. 60 SOA home. 2147483652 60", "+ home. 60 SOA home. 3 60"}, []string{"home. 60 SOA home. 3 60"}},
		{[]string{"+ home. 60 SOA home. 2147483652 60", "+ home. 60 SOA home. 4 60"}, []string{"home. 60 SOA home. 2147483652 60"}},
	} {
		expectUpdate(t, house(), upsOf(c.ups...), without(house(), soas, c.come), 0)
	}
	// Serials that went round all the way are z's again, so what changed has to be bumped.
	round := upsOf("+ home. 60 SOA home. 1073741829 60", "+ home. 60 SOA home. 2147483653 60", "+ home. 60 SOA home. 3221225477 60", "+ home. 61 SOA home. 5 60")
	expectUpdate(t, house(), round, without(house(), soas, []string{"home. 61 SOA home. 6 60"}), 0)
	round.Ups[3] = wish("+ home. 60 SOA home. 5 60")
	round.Ups = append(round.Ups, wish("+ no.home. 9 A 3"))
	expectUpdate(t, house(), round, without(house(), soas, []string{"home. 60 SOA home. 6 60", "no.home. 9 A 3"}), 0)
}

func TestUpdatesThatAreRefused(t *testing.T) {
	fine, notZone := "+ no.home. 9 A 3", "+ com. 9 A 3"
	for _, c := range []struct {
		code int
		pre  string
		up   string
	}{
		{1, "+ pc.home. 9 A 3", fine}, {1, "- pc.home. 0 A 3", fine}, {3, "any no.home. ANY", fine}, {6, "none pc.home. ANY", fine}, {7, "none pc.home. A", fine},
		{8, "any no.home. A", fine}, {8, "+ pc.home. 0 A 3", fine}, {10, "any com. A", fine},
		{10, "any pc.home. A", notZone}, {1, "any pc.home. A", "none pc.home. TXT"},
		{7, "none pc.home. A", notZone}, {1, "+ pc.home. 9 A 3", notZone}, {3, "any no.home. ANY", "none pc.home. TXT"}, {10, "any com. A", "none pc.home. TXT"},
	} {
		m := update(named("home."))
		m.Pres = wishes("any home. SOA", c.pre, "none no.home. A")
		m.Ups = wishes("any pc.home. ANY", c.up, "+ tv.home. 9 A 3")
		expectUpdate(t, house(), m, house(), c.code)
		m.Id, m.Auth, m.Code = 65535, true, 3
		expectUpdate(t, house(), m, house(), c.code)
		for _, name := range []string{".", "com.", "pc.home.", "sub.home.", "xhome."} {
			m.Qs = update(named(name)).Qs
			expectUpdate(t, house(), m, house(), impl.RcNotAuth)
		}
	}
}

func TestUpdatesOfAFullZone(t *testing.T) {
	one, two := "one.home. 7 TXT a", "two.home. 7 TXT a"
	full, almost := fullZone(60), fullZone(59)
	gone := []string{"n1.home. 60 A 999"}
	expectUpdate(t, almost, upsOf("+ "+one), withSerial(without(almost, nil, []string{one}), 6), 0)
	expectUpdate(t, almost, upsOf("+ "+one, "+ "+two), almost, impl.RcFail)
	expectUpdate(t, full, upsOf("+ "+one), full, impl.RcFail)
	expectUpdate(t, full, upsOf("+ "+one, "- n1.home. 0 A 999"), withSerial(without(full, gone, []string{one}), 6), 0)
	expectUpdate(t, full, upsOf("- n1.home. 0 A 999", "+ "+one), withSerial(without(full, gone, []string{one}), 6), 0)
	expectUpdate(t, full, upsOf("- n1.home. 0 A 999", "+ "+one, "+ "+two), full, impl.RcFail)
	expectUpdate(t, full, upsOf("+ "+one, "- one.home. 0 TXT a"), full, 0)
	expectUpdate(t, full, upsOf("+ "+one, "+ home. 60 SOA home. 9 60"), full, impl.RcFail)
	expectUpdate(t, full, upsOf("+ "+one, "+ one.home. 7 CNAME a.", "any one.home. TXT"), full, 0)
	expectUpdate(t, full, upsOf("+ "+one, "+ "+two, "any one.home. ANY", "- n1.home. 0 A 999"), withSerial(without(full, gone, []string{two}), 6), 0)
	expectUpdate(t, full, upsOf("+ "+one, "+ com. 9 A 3"), full, impl.RcNotZone)
	var ups []string
	for i := range impl.MaxList {
		ups = append(ups, fmt.Sprintf("+ a%d.home. 7 A 1", i))
	}
	expectUpdate(t, full, upsOf(ups...), full, impl.RcFail)
	got, reply := impl.Update(fullZone(48), upsOf(ups...))
	if reply.Code != 0 || len(got.Rrs) != impl.MaxRecords || impl.Serial(got) != 6 {
		t.Errorf("%s, %s", toldZone(got), toldMsg(reply))
	}
	ups[10], ups[11] = "any n1.home. A", "any n2.home. A"
	got, reply = impl.Update(full, upsOf(ups...))
	left := 60 + 10 - len(setIn(full, named("n1.home."), 1)) - len(setIn(full, named("n2.home."), 1))
	if reply.Code != 0 || len(got.Rrs) != left || impl.Serial(got) != 6 {
		t.Errorf("%s, %s", toldZone(got), toldMsg(reply))
	}
}

func TestUpdateByWhatIsNoUpdate(t *testing.T) {
	m := upsOf("+ pc.home. 9 A 4")
	wrong := append(badMsgs(), turned(m, func(m *impl.Msg) { m.Reply = true }), query(named("home."), 6), query(named("home."), 255))
	for _, l := range [][]impl.Want{slices.Repeat(m.Ups, 13), {{}}, wishes("- pc.home. 9 A 3")} {
		wrong = append(wrong, turned(m, func(m *impl.Msg) { m.Ups = l }), turned(m, func(m *impl.Msg) { m.Pres = l }))
	}
	wrong = append(wrong, turned(m, func(m *impl.Msg) { m.Qs = nil }), turned(m, func(m *impl.Msg) { m.Qs = append(m.Qs, m.Qs...) }), turned(m, func(m *impl.Msg) { m.Id = 65536 }))
	for _, x := range wrong {
		z, reply := impl.Update(house(), x)
		if !isZeroZone(z) || !isZeroMsg(reply) {
			t.Errorf("Update by %s = %s, %s", toldMsg(x), toldZone(z), toldMsg(reply))
		}
	}
}

func expectDiff(t *testing.T, a, b impl.Zone, onlyA, onlyB []impl.Rr) {
	t.Helper()
	x, y, ok := impl.ZoneDiff(a, b)
	if !ok || toldRrs(x) != toldRrs(onlyA) || toldRrs(y) != toldRrs(onlyB) {
		t.Errorf("ZoneDiff of %s and %s = %s, %s, %v", toldZone(a), toldZone(b), toldRrs(x), toldRrs(y), ok)
	}
}

func TestZoneDiff(t *testing.T) {
	a := zone("home.", soa, "a.home. 9 A 1", "b.home. 9 A 1", "b.home. 9 A 3", "c.home. 9 TXT a", "d.home. 9 CNAME a.")
	b := zone("home.", "home. 60 SOA home. 6 60", "a.home. 10 A 1", "b.home. 9 A 2", "b.home. 9 A 3", "c.home. 9 DHCID a", "e.home. 9 CNAME a.")
	onlyA := sorted(recs(soa, "b.home. 9 A 1", "c.home. 9 TXT a", "d.home. 9 CNAME a."))
	onlyB := sorted(recs("home. 60 SOA home. 6 60", "b.home. 9 A 2", "c.home. 9 DHCID a", "e.home. 9 CNAME a."))
	expectDiff(t, a, b, onlyA, onlyB)
	expectDiff(t, b, a, onlyB, onlyA)
	for _, z := range goodZones() {
		expectDiff(t, z, z, nil, nil)
		times := impl.Zone{Origin: z.Origin}
		for _, r := range z.Rrs {
			r.Ttl = 100000 - r.Ttl
			times.Rrs = append(times.Rrs, r)
		}
		expectDiff(t, z, times, nil, nil)
		for _, x := range goodZones() {
			left, _ := lackedBy(z, x)
			right, _ := lackedBy(x, z)
			expectDiff(t, z, x, left, right)
		}
	}
}

// lackedBy has those records of a zone that another one lacks, and how many both have.
func lackedBy(z, other impl.Zone) ([]impl.Rr, int) {
	var out []impl.Rr
	for _, r := range z.Rrs {
		if !slices.ContainsFunc(other.Rrs, func(x impl.Rr) bool { return placeOf(x) == placeOf(r) }) {
			out = append(out, r)
		}
	}
	return out, len(z.Rrs) - len(out)
}

// prereqsIn says again what Prereqs does.
func prereqsIn(z impl.Zone, l []impl.Want) int {
	asked := map[string][]string{}
	for _, w := range l {
		there := len(setIn(z, w.Rr.Name, w.Rr.Type)) > 0
		switch {
		case !isUnder(w.Rr.Name, z.Origin):
			return 10
		case !w.Bare && (w.Rr.Ttl > 0 || w.Class != 1):
			return 1
		case !w.Bare:
			key := fmt.Sprint(wordsOfName(w.Rr.Name), w.Rr.Type)
			asked[key] = append(asked[key], placeOf(w.Rr))
		case w.Class == 255 && !there:
			return map[bool]int{true: 3, false: 8}[w.Rr.Type == 255]
		case w.Class == 254 && there:
			return map[bool]int{true: 6, false: 7}[w.Rr.Type == 255]
		}
	}
	for _, w := range l {
		if w.Bare {
			continue
		}
		told := asked[fmt.Sprint(wordsOfName(w.Rr.Name), w.Rr.Type)]
		have := 0
		for _, r := range setIn(z, w.Rr.Name, w.Rr.Type) {
			have++
			if !slices.Contains(told, placeOf(r)) {
				return 8
			}
		}
		slices.Sort(told)
		if len(slices.Compact(slices.Clone(told))) != have {
			return 8
		}
	}
	return 0
}

func prescanIn(z impl.Zone, l []impl.Want) int {
	for _, w := range l {
		if !isUnder(w.Rr.Name, z.Origin) {
			return 10
		}
		if w.Bare && w.Class == 254 {
			return 1
		}
	}
	return 0
}

// changedIn says again what Change does, but for what it refuses.
func changedIn(z impl.Zone, w impl.Want) impl.Zone {
	ofOrigin := wordsOfName(w.Rr.Name) == wordsOfName(z.Origin)
	gone := []impl.Rr{w.Rr}
	if w.Bare {
		gone = setIn(z, w.Rr.Name, w.Rr.Type)
	}
	switch {
	case w.Class != 1:
		if ofOrigin && (w.Bare || len(setIn(z, z.Origin, 2)) < 2) {
			gone = slices.DeleteFunc(gone, func(r impl.Rr) bool { return r.Type == 2 })
		}
		out, _ := leftOf(z, gone)
		return out
	case w.Rr.Type == 6:
		ahead := uint32(w.Rr.Nums[0]) - uint32(setIn(z, z.Origin, 6)[0].Nums[0])
		if !ofOrigin || ahead == 0 || ahead >= 1<<31 {
			return z
		}
		out := impl.Zone{Origin: z.Origin}
		for _, r := range z.Rrs {
			if r.Type == 6 {
				r = w.Rr
			}
			out.Rrs = append(out.Rrs, r)
		}
		return out
	}
	out := with(z, w.Rr)
	all := setIn(out, w.Rr.Name, 255)
	if len(all) > 1 && slices.ContainsFunc(all, func(r impl.Rr) bool { return r.Type == 5 }) {
		return z
	}
	return out
}

func updatedIn(z impl.Zone, m impl.Msg) (impl.Zone, int) {
	if wordsOfName(m.Qs[0].Name) != wordsOfName(z.Origin) {
		return z, 9
	}
	if code := prereqsIn(z, m.Pres); code != 0 {
		return z, code
	}
	if code := prescanIn(z, m.Ups); code != 0 {
		return z, code
	}
	out := z
	for _, w := range m.Ups {
		out = changedIn(out, w)
	}
	if !mayBe(out) {
		return z, 2
	}
	serial := setIn(z, z.Origin, 6)[0].Nums[0]
	if toldZone(out) != toldZone(z) && setIn(out, z.Origin, 6)[0].Nums[0] == serial {
		out = withSerial(out, (serial+1)%(1<<32))
	}
	return out, 0
}

// checkChange holds Change to the second one; a change that is done again changes nothing more.
func checkChange(t *testing.T, z impl.Zone, w impl.Want) {
	t.Helper()
	call := fmt.Sprintf("of %s by %s", toldZone(z), toldWant(w))
	want := changedIn(z, w)
	may := prescanIn(z, []impl.Want{w}) == 0 && mayBe(want)
	if !may {
		want = impl.Zone{}
	}
	got, ok := impl.Change(z, w)
	expectZone(t, "Change "+call, got, ok, want, may)
	if may {
		again, ok := impl.Change(got, w)
		expectZone(t, "Change again "+call, again, ok, want, true)
	}
}

// checkUpdate holds all that is said of an update to the second one, and gives its zone and its code.
func checkUpdate(t *testing.T, z impl.Zone, m impl.Msg) (impl.Zone, int) {
	t.Helper()
	call := fmt.Sprintf("of %s by %s", toldZone(z), toldMsg(m))
	if c, d := impl.Prereqs(z, m.Pres), impl.Prescan(z, m.Ups); c != prereqsIn(z, m.Pres) || d != prescanIn(z, m.Ups) {
		t.Fatalf("Prereqs, Prescan %s = %d, %d", call, c, d)
	}
	got, reply := impl.Update(z, m)
	want, code := updatedIn(z, m)
	expectZone(t, "Update "+call, got, reply.Code, want, code)
	if !impl.ZoneOk(got) || toldMsg(reply) != toldMsg(impl.Msg{Id: m.Id, Reply: true, Op: 5, Code: code, Qs: m.Qs}) {
		t.Fatalf("Update %s = %s, %s", call, toldZone(got), toldMsg(reply))
	}
	same := toldZone(got) == toldZone(z)
	if code != 0 && !same || same != (impl.Serial(got) == impl.Serial(z)) {
		t.Fatalf("Update %s = %s, %d", call, toldZone(got), code)
	}
	gone, _ := lackedBy(z, got)
	come, _ := lackedBy(got, z)
	expectDiff(t, z, got, gone, come)
	return got, code
}

// want gives one that may be, often of what the zone has.
func (m *mixer) want(z impl.Zone) impl.Want {
	r := m.record(z.Origin)
	if m.below(2) == 0 {
		r = z.Rrs[m.below(len(z.Rrs))]
	}
	if r.Type == 6 && m.below(2) == 0 {
		r.Nums = []int{(impl.Serial(z) + m.of(0, 1, 7, 1<<31-1, 1<<31, 1<<32-1)) % (1 << 32), m.of(60, 60, 61)}
	}
	switch m.below(6) {
	case 0:
		return impl.Want{Rr: emptyOf(r.Name, m.of(r.Type, r.Type, r.Type, 255)), Class: 255, Bare: true}
	case 1:
		r.Ttl = 0
		return impl.Want{Rr: r, Class: 254}
	}
	return impl.Want{Rr: r, Class: 1}
}

// pres gives prerequisites that are mostly met.
func (m *mixer) pres(z impl.Zone) []impl.Want {
	var out []impl.Want
	for range m.of(0, 0, 0, 1, 1, 2) {
		r := z.Rrs[m.below(len(z.Rrs))]
		switch m.below(8) {
		case 0:
			out = append(out, m.want(z))
		case 1, 2, 3:
			l := setIn(z, r.Name, r.Type)
			if len(l) > 5 {
				continue
			}
			for i := range l {
				l[i].Ttl = m.of(0, 0, 0, 0, 0, 0, 0, 9)
			}
			out = append(out, inClass(l[m.of(0, 0, 0, len(l)-1):])...)
		case 4, 5:
			out = append(out, impl.Want{Rr: emptyOf(r.Name, m.of(r.Type, 255)), Class: m.of(255, 255, 255, 254), Bare: true})
		default:
			out = append(out, impl.Want{Rr: emptyOf(m.name(z.Origin), m.of(1, 49, 255)), Class: m.of(254, 254, 254, 255), Bare: true})
		}
	}
	return out
}

// update gives a message that may be, and is refused now and then.
func (m *mixer) update(z impl.Zone) impl.Msg {
	out := update(z.Origin)
	if m.below(30) == 0 {
		out = update(named([]string{".", "com.", "a.home."}[m.below(3)]))
	}
	out.Pres = m.pres(z)
	for range m.of(0, 1, 2, 3, 5, 8) {
		w := m.want(z)
		if !isUnder(w.Rr.Name, z.Origin) && m.below(4) > 0 {
			continue
		}
		if w.Bare && m.below(20) == 0 {
			w.Class = 254
		}
		out.Ups = append(out.Ups, w)
	}
	return out
}

// crowded has nearly as many records as a zone may have, half of them of the origin.
func crowded(origin impl.Name) impl.Zone {
	z, _ := impl.ZoneNew(origin, 1<<32-2)
	lower, _ := impl.Child(origin, []byte("a"))
	for i := range 57 {
		z, _ = impl.Add(z, impl.Rr{Name: []impl.Name{origin, lower}[i%2], Type: 1, Ttl: 9, Addr: i})
	}
	return z
}

func TestMixedUpdates(t *testing.T) {
	m := mixer(6)
	var codes [11]int
	changed := 0
	for i := range 150 {
		origin := []impl.Name{named("home."), named("home."), named("."), named("z.home."), named("2.3.4.5.6.")}[i%5]
		z, _ := impl.ZoneNew(origin, m.of(0, 5, 1<<31-1, 1<<32-1))
		if i%3 == 0 {
			z = crowded(origin)
		}
		for range 40 {
			msg := m.update(z)
			if !impl.MsgOk(msg) {
				continue
			}
			for _, w := range msg.Ups {
				checkChange(t, z, w)
			}
			next, code := checkUpdate(t, z, msg)
			codes[code]++
			if toldZone(next) != toldZone(z) {
				changed++
			}
			z = next
		}
	}
	for code, n := range codes {
		if n < 20 && code != 4 && code != 5 {
			t.Error("too few with code", code, ":", codes)
		}
	}
	if changed < 1000 {
		t.Error("too few that change anything:", changed, codes)
	}
}

// updateArgs are all arguments that a function of the chapter may take.
type updateArgs struct {
	z, other impl.Zone
	m        impl.Msg
}

func (a updateArgs) roomy() updateArgs {
	return updateArgs{roomyZone(a.z), roomyZone(a.other), roomyMsg(a.m)}
}

func (a updateArgs) whole() string {
	return wholeMsg(packed(a.z)) + wholeMsg(packed(a.other)) + wholeMsg(a.m)
}

func (a updateArgs) scribble() {
	scribbleMsg(packed(a.z))
	scribbleMsg(packed(a.other))
	scribbleMsg(a.m)
}

func (a updateArgs) told() string {
	return toldZone(a.z) + toldZone(a.other) + toldMsg(a.m)
}

// updateCalls are calls of every function of the chapter; each gives what it answers as a message.
func updateCalls() map[string]func(a updateArgs) impl.Msg {
	return map[string]func(a updateArgs) impl.Msg{
		"Prereqs": func(a updateArgs) impl.Msg { return impl.Msg{Code: impl.Prereqs(a.z, a.m.Pres)} },
		"Prescan": func(a updateArgs) impl.Msg { return impl.Msg{Code: impl.Prescan(a.z, a.m.Ups)} },
		"Change": func(a updateArgs) impl.Msg {
			if len(a.m.Ups) == 0 {
				return impl.Msg{}
			}
			z, _ := impl.Change(a.z, a.m.Ups[0])
			return packed(z)
		},
		"Update": func(a updateArgs) impl.Msg {
			z, out := impl.Update(a.z, a.m)
			out.Qs = append(out.Qs, impl.Question{Name: z.Origin})
			out.Answers = z.Rrs
			return out
		},
		"ZoneDiff": func(a updateArgs) impl.Msg {
			x, y, _ := impl.ZoneDiff(a.z, a.other)
			return impl.Msg{Answers: x, Auths: y}
		},
	}
}

// manyUpdateArgs put zones together with updates of every kind, good and bad ones.
func manyUpdateArgs() []updateArgs {
	wrong := badZones()
	zones := []impl.Zone{house(), fullZone(60), zone("home.", soa, "pc.home. 9 A 3"), rootZone(), wrong["two TySoa"], {}}
	pres := [][]impl.Want{nil, wishes("any pc.home. A", "+ pc.home. 0 A 3", "+ pc.home. 0 A 8"), wishes("none pc.home. ANY"), wishes("+ pc.home. 9 A 3"), {{}}}
	ups := [][]impl.Want{
		nil, wishes("+ no.home. 9 A 3", "+ no.home. 9 TXT a"), wishes("+ home. 9 SOA a.home. 9 9", "+ no.home. 9 CNAME a.home."), wishes("+ pc.home. 30 A 3"), wishes("+ pc.home. 9 CNAME a.", "any pc.home. ANY"),
		wishes("any home. ANY", "- home. 0 NS ns.home."), wishes("- web.home. 0 CNAME pc.home.", "+ web.home. 9 DHCID b"), wishes("none pc.home. A"), wishes("+ com. 9 A 3"), {{}},
	}
	var out []updateArgs
	for i, z := range zones {
		for k, p := range pres {
			for _, u := range ups {
				a := updateArgs{z: z, other: zones[(i+k)%len(zones)], m: update(named("home."))}
				a.m.Pres, a.m.Ups = p, u
				out = append(out, a)
			}
		}
	}
	reply := turned(upsOf("+ no.home. 9 A 3"), func(m *impl.Msg) { m.Reply = true })
	return append(out, updateArgs{house(), rootZone(), reply}, updateArgs{house(), house(), update(named("com."))}, updateArgs{house(), deepZone(), query(named("home."), 6)})
}

func TestUpdateAnswersAreNewMemory(t *testing.T) {
	for call, run := range updateCalls() {
		for _, plain := range manyUpdateArgs() {
			a := plain.roomy()
			before := a.whole()
			first, second := run(a), run(a)
			if a.whole() != before {
				t.Fatalf("%s of %s wrote into an argument", call, plain.told())
			}
			want := toldMsg(second)
			if toldMsg(first) != want || toldMsg(run(plain)) != want {
				t.Fatalf("%s of %s hangs on spare room", call, plain.told())
			}
			scribbleMsg(first)
			if a.whole() != before || toldMsg(second) != want {
				t.Fatalf("%s of %s shares memory", call, plain.told())
			}
			a.scribble()
			if toldMsg(second) != want {
				t.Fatalf("%s of %s keeps its argument", call, plain.told())
			}
			checkMsgApart(t, call, second)
		}
	}
}

// Arguments may share memory with each other; what is answered may not.
func TestUpdatesBySharedMemory(t *testing.T) {
	home, a := named("home."), rec("pc.home. 9 TXT abc")
	shared := impl.Rr{Name: a.Name, Type: 49, Ttl: 9, Text: a.Text}
	server := impl.Rr{Name: home, Type: 2, Ttl: 9, To: a.Name}
	other := impl.Rr{Name: home, Type: 6, Ttl: 9, To: home, Nums: []int{7, 7}}
	z := zoneOf("home.", impl.Rr{Name: home, Type: 6, To: home, Nums: []int{6, 6}}, a, impl.Rr{Name: home, Type: 12, To: a.Name})
	z.Origin = home
	m := update(home)
	m.Ups = inClass([]impl.Rr{shared, shared, server, other})
	for call, run := range updateCalls() {
		args := updateArgs{z: z, other: zoneOf("home.", other, shared, server), m: m}
		before := args.whole()
		got := run(args)
		checkMsgApart(t, call, got)
		if args.whole() != before {
			t.Errorf("%s shares memory with its arguments", call)
		}
	}
}
