package tests

import (
	"bytes"
	"fmt"
	"math"
	"slices"
	"strconv"
	"strings"
	"testing"

	"loop.example/g00422/impl"
)

// named makes a name of a text with a dot behind each label.
func named(text string) impl.Name {
	if text == "." {
		return impl.Name{}
	}
	return labels(strings.Split(strings.TrimSuffix(text, "."), ".")...)
}

func number(text string) int {
	n, err := strconv.Atoi(text)
	if err != nil {
		panic(err)
	}
	return n
}

// rec makes a record of words: its name, time, type and data, an address being one number.
func rec(text string) impl.Rr {
	w := strings.Fields(text)
	r := impl.Rr{Name: named(w[0]), Ttl: number(w[1])}
	for ty, word := range typeTexts() {
		if word == w[2] {
			r.Type = ty
		}
	}
	switch w[2] {
	case "A":
		r.Addr = number(w[3])
	case "TXT", "DHCID":
		r.Text = []byte(w[3])
	case "SOA":
		r.To, r.Nums = named(w[3]), []int{number(w[4]), number(w[5])}
	default:
		r.To = named(w[3])
	}
	return r
}

func recs(texts ...string) []impl.Rr {
	var out []impl.Rr
	for _, text := range texts {
		out = append(out, rec(text))
	}
	return out
}

// placeOf is a text that ascends as records do, and is one just for those that are the same.
func placeOf(r impl.Rr) string {
	var w writer
	w.data(r)
	return recordKey(r, string(w.out))
}

func sorted(l []impl.Rr) []impl.Rr {
	return slices.SortedFunc(slices.Values(l), func(a, b impl.Rr) int { return strings.Compare(placeOf(a), placeOf(b)) })
}

// zoneOf puts records in order behind a name, whether that may be or not.
func zoneOf(origin string, l ...impl.Rr) impl.Zone {
	return impl.Zone{Origin: named(origin), Rrs: sorted(l)}
}

func zone(origin string, texts ...string) impl.Zone {
	return zoneOf(origin, recs(texts...)...)
}

func toldRrs(l []impl.Rr) string {
	return toldAll(l, toldRr)
}

func toldZone(z impl.Zone) string {
	return told(z.Origin) + toldRrs(z.Rrs)
}

func isZeroZone(z impl.Zone) bool {
	return toldZone(z) == toldZone(impl.Zone{})
}

const soa = "home. 60 SOA home. 5 60"

// house has something of all that a zone may have.
func house() impl.Zone {
	return zone("home.", soa,
		"home. 30 NS ns.home.", "home. 30 NS ns.out.", "home. 40 TXT Hi",
		"ns.home. 30 A 1", "pc.home. 9 A 3", "pc.home. 9 A 8", "pc.home. 7 TXT a", "pc.home. 8 DHCID b",
		"web.home. 9 CNAME pc.home.", "www.home. 9 CNAME web.home.", "far.home. 9 CNAME pc.com.",
		"sub.home. 9 NS ns.sub.home.", "sub.home. 9 NS ns.home.", "sub.home. 9 NS ns.com.", "sub.home. 9 TXT x",
		"ns.sub.home. 9 A 4", "ns.sub.home. 9 A 2", "low.sub.home. 9 NS ns.low.sub.home.", "ns.low.sub.home. 9 A 5",
		"in.sub.home. 9 CNAME pc.home.", "to.home. 9 CNAME x.sub.home.", "off.home. 9 CNAME no.home.", "dry.home. 9 CNAME ns.home.",
		"a.b.c.home. 9 PTR pc.home.")
}

// rootZone has the root as its origin.
func rootZone() impl.Zone {
	return zone(".", ". 60 SOA . 1 60", ". 60 NS ns.", ". 60 A 9", "ns. 60 A 1", "com. 60 NS ns.com.", "ns.com. 60 A 2", "home. 60 CNAME ns.")
}

func deepZone() impl.Zone {
	return zone("1.2.3.4.5.6.", "1.2.3.4.5.6. 100000 SOA . 4294967295 100000", "1.2.3.4.5.6. 0 NS .", "1.2.3.4.5.6. 0 A 4294967295")
}

// fullZone has so many records, TySoa with them.
func fullZone(n int) impl.Zone {
	l := recs(soa)
	for len(l) < n {
		l = append(l, rec(fmt.Sprintf("n%d.home. 60 A %d", len(l)%7, 1000-len(l))))
	}
	return zoneOf("home.", l...)
}

func goodZones() []impl.Zone {
	mixedTimes := zone("home.", soa, "pc.home. 1 A 1", "pc.home. 100000 A 2", "pc.home. 0 A 3")
	return []impl.Zone{
		house(), rootZone(), deepZone(), fullZone(1), fullZone(2), fullZone(59), fullZone(60), mixedTimes,
		zone("home.", "home. 0 SOA . 0 0"), zone("home.", soa, "a.home. 0 CNAME a.home."), zone("home.", soa, "home. 0 NS home."),
		zone("home.", soa, "a.home. 0 CNAME a.", "a.a.home. 0 CNAME a.", "aa.home. 0 CNAME a.", "a-.home. 0 CNAME a."),
	}
}

// badZones are not ZoneOk, each in one way.
func badZones() map[string]impl.Zone {
	out := map[string]impl.Zone{
		"nothing":                   {},
		"no records":                zone("home."),
		"no TySoa":                  zone("home.", "pc.home. 9 A 3"),
		"one too many":              fullZone(61),
		"far too many":              fullZone(1000),
		"two TySoa":                 zone("home.", soa, "home. 60 SOA home. 6 60"),
		"two TySoa by To":           zone("home.", soa, "home. 60 SOA a.home. 5 60"),
		"a TySoa of a lower name":   zone("home.", "a.home. 60 SOA home. 5 60"),
		"two TySoa of two names":    zone("home.", soa, "a.home. 60 SOA home. 5 60"),
		"a TySoa of an upper name":  zone("home.", ". 60 SOA home. 5 60"),
		"a TySoa of another name":   zone("home.", "com. 60 SOA home. 5 60"),
		"a name above":              zone("home.", soa, ". 9 A 3"),
		"a name beside":             zone("home.", soa, "pc.com. 9 A 3"),
		"a name that ends alike":    zone("home.", soa, "xhome. 9 A 3"),
		"a name with the origin in": zone("home.", soa, "pc.home.com. 9 A 3"),
		"an alias of the origin":    zone("home.", soa, "home. 9 CNAME pc.home."),
		"an alias with an alias":    zone("home.", soa, "a.home. 9 CNAME pc.home.", "a.home. 9 CNAME tv.home."),
		"one twice":                 zone("home.", soa, "pc.home. 9 A 3", "pc.home. 9 A 3"),
		"one twice but for times":   zone("home.", soa, "pc.home. 9 A 3", "pc.home. 8 A 3"),
		"TySoa twice":               zone("home.", soa, soa),
		"TySoa twice but for times": zone("home.", soa, "home. 61 SOA home. 5 60"),
	}
	for _, r := range fewRecords() {
		if r.Type != 5 && r.Type != 6 {
			out["an alias beside type "+strconv.Itoa(r.Type)] = zoneOf("home.", rec(soa), rec("pc.home. 9 CNAME home."), r)
		}
	}
	for i, n := range badNames() {
		z := house()
		z.Origin = n
		out[fmt.Sprint("a wrong origin ", i)] = z
		out[fmt.Sprint("a wrong origin alone ", i)] = impl.Zone{Origin: n, Rrs: []impl.Rr{{Name: n, Type: 6, To: n, Nums: []int{5, 60}}}}
	}
	for i := range house().Rrs[1:] {
		z := house()
		z.Rrs[i], z.Rrs[i+1] = z.Rrs[i+1], z.Rrs[i]
		out[fmt.Sprint("out of order at ", i)] = z
	}
	return out
}

// zonesOfBadRecords have a record that is not RrOk ahead of all, behind all, or alone.
func zonesOfBadRecords() []impl.Zone {
	var out []impl.Zone
	for _, r := range badRecords() {
		for at := range 3 {
			z := zone("home.", soa, "a.home. 9 A 3")
			z.Rrs = slices.Insert(z.Rrs, at, r)
			out = append(out, z)
		}
		z := zone("pc.home.", "pc.home. 60 SOA home. 7 30")
		z.Rrs[0] = r
		out = append(out, z)
	}
	return out
}

func wrongZones() []impl.Zone {
	var out []impl.Zone
	for _, z := range badZones() {
		out = append(out, z)
	}
	slices.SortFunc(out, func(a, b impl.Zone) int { return strings.Compare(toldZone(a), toldZone(b)) })
	return out
}

func TestZoneLimits(t *testing.T) {
	kinds := []int{impl.LkAnswer, impl.LkAlias, impl.LkReferral, impl.LkNoData, impl.LkNoName, impl.LkOut}
	if impl.MaxRecords != 60 || !slices.Equal(kinds, []int{0, 1, 2, 3, 4, 5}) {
		t.Error(impl.MaxRecords, kinds)
	}
}

func TestZoneOk(t *testing.T) {
	for _, z := range goodZones() {
		if !impl.ZoneOk(z) || !mayBe(z) {
			t.Errorf("ZoneOk(%s) = false", toldZone(z))
		}
	}
	for why, z := range badZones() {
		if impl.ZoneOk(z) || mayBe(z) {
			t.Errorf("%s: ZoneOk(%s) = true", why, toldZone(z))
		}
	}
	for _, z := range zonesOfBadRecords() {
		if impl.ZoneOk(z) {
			t.Errorf("ZoneOk(%s) = true", toldZone(z))
		}
	}
}

func TestZoneNew(t *testing.T) {
	for i, n := range goodNames() {
		for _, serial := range []int{0, 1, 5, i, 1 << 31, 1<<32 - 2, 1<<32 - 1} {
			z, ok := impl.ZoneNew(n, serial)
			want := impl.Zone{Origin: n, Rrs: []impl.Rr{{Name: n, Type: 6, Ttl: 60, To: n, Nums: []int{serial, 60}}}}
			if !ok || toldZone(z) != toldZone(want) || !impl.ZoneOk(z) || impl.Serial(z) != serial {
				t.Errorf("ZoneNew(%s, %d) = %s, %v", told(n), serial, toldZone(z), ok)
			}
		}
		for _, serial := range []int{-1, -60, 1 << 32, 1<<32 + 5, math.MaxInt, math.MinInt} {
			if z, ok := impl.ZoneNew(n, serial); ok || !isZeroZone(z) {
				t.Errorf("ZoneNew(%s, %d) = %s, %v", told(n), serial, toldZone(z), ok)
			}
		}
	}
	for _, n := range badNames() {
		if z, ok := impl.ZoneNew(n, 5); ok || !isZeroZone(z) {
			t.Errorf("ZoneNew(%s, 5) = %s, %v", told(n), toldZone(z), ok)
		}
	}
}

func TestSetOf(t *testing.T) {
	for _, c := range []struct {
		name string
		ty   int
		want []string
	}{
		{"pc.home.", 1, []string{"pc.home. 9 A 3", "pc.home. 9 A 8"}},
		{"pc.home.", 16, []string{"pc.home. 7 TXT a"}},
		{"pc.home.", 255, []string{"pc.home. 9 A 3", "pc.home. 9 A 8", "pc.home. 7 TXT a", "pc.home. 8 DHCID b"}},
		{"pc.home.", 5, nil},
		{"home.", 6, []string{soa}},
		{"home.", 255, []string{"home. 30 NS ns.home.", "home. 30 NS ns.out.", soa, "home. 40 TXT Hi"}},
		{"web.home.", 5, []string{"web.home. 9 CNAME pc.home."}},
		{"web.home.", 1, nil},
		{"sub.home.", 255, []string{"sub.home. 9 NS ns.com.", "sub.home. 9 NS ns.home.", "sub.home. 9 NS ns.sub.home.", "sub.home. 9 TXT x"}},
		{"ns.sub.home.", 1, []string{"ns.sub.home. 9 A 2", "ns.sub.home. 9 A 4"}},
		{"c.home.", 255, nil}, {"no.home.", 255, nil}, {"com.", 255, nil}, {".", 255, nil}, {"pc.", 1, nil},
	} {
		want := toldRrs(sorted(recs(c.want...)))
		if got := impl.SetOf(house(), named(c.name), c.ty); toldRrs(got) != want {
			t.Errorf("SetOf %s %d = %s, want %s", c.name, c.ty, toldRrs(got), want)
		}
	}
	for _, ty := range wrongTypes() {
		if got := impl.SetOf(house(), named("pc.home."), ty); ty != 255 && len(got) != 0 {
			t.Errorf("SetOf type %d = %s", ty, toldRrs(got))
		}
	}
	if got := impl.SetOf(rootZone(), named("."), 255); len(got) != 3 || got[0].Addr != 9 {
		t.Error(toldRrs(got))
	}
}

func TestHasName(t *testing.T) {
	for name, want := range map[string]bool{
		"pc.home.": true, "home.": true, ".": true, "c.home.": true, "b.c.home.": true, "a.b.c.home.": true, "web.home.": true, "low.sub.home.": true,
		"no.home.": false, "x.pc.home.": false, "x.a.b.c.home.": false, "c.b.home.": false, "com.": false, "pc.": false, "pc.com.": false, "ome.": false, "xhome.": false,
	} {
		if impl.HasName(house(), named(name)) != want {
			t.Errorf("HasName %s = %v", name, !want)
		}
	}
	if !impl.HasName(rootZone(), named(".")) || !impl.HasName(rootZone(), named("com.")) || impl.HasName(rootZone(), named("x.")) {
		t.Error("the root")
	}
}

// expectZone holds what a call answered to a zone and to what is told beside it.
func expectZone[T comparable](t *testing.T, call string, got impl.Zone, beside T, want impl.Zone, wantBeside T) {
	t.Helper()
	if toldZone(got) != toldZone(want) || beside != wantBeside {
		t.Fatalf("%s = %s, %v, want %s, %v", call, toldZone(got), beside, toldZone(want), wantBeside)
	}
}

func TestWhatIsPutIntoAZoneIsThere(t *testing.T) {
	for _, c := range []struct {
		put  string
		have []string
		want []string
	}{
		{"pc.home. 9 A 3", nil, []string{"pc.home. 9 A 3"}},
		{"pc.home. 30 A 4", []string{"pc.home. 9 A 3", "pc.home. 8 A 5"}, []string{"pc.home. 30 A 3", "pc.home. 30 A 4", "pc.home. 30 A 5"}},
		{"pc.home. 30 A 3", []string{"pc.home. 9 A 3", "pc.home. 9 A 5"}, []string{"pc.home. 30 A 3", "pc.home. 30 A 5"}},
		{"pc.home. 9 A 3", []string{"pc.home. 9 A 3"}, []string{"pc.home. 9 A 3"}},
		{"pc.home. 0 A 3", []string{"pc.home. 9 A 3", "pc.home. 9 TXT a", "tv.home. 9 A 3"}, []string{"pc.home. 0 A 3", "pc.home. 9 TXT a", "tv.home. 9 A 3"}},
		{"pc.home. 30 TXT b", []string{"pc.home. 9 A 3", "pc.home. 9 TXT a"}, []string{"pc.home. 9 A 3", "pc.home. 30 TXT a", "pc.home. 30 TXT b"}},
		{"a.pc.home. 30 A 3", []string{"pc.home. 9 A 3", "pc.home. 9 A 4"}, []string{"pc.home. 9 A 3", "pc.home. 9 A 4", "a.pc.home. 30 A 3"}},
		{"web.home. 30 CNAME tv.home.", nil, []string{"web.home. 30 CNAME tv.home."}},
		{"web.home. 30 CNAME tv.home.", []string{"web.home. 9 CNAME tv.home."}, []string{"web.home. 30 CNAME tv.home."}},
		{"x.web.home. 30 A 1", []string{"web.home. 9 CNAME tv.home."}, []string{"web.home. 9 CNAME tv.home.", "x.web.home. 30 A 1"}},
		{"home. 30 NS ns.home.", []string{"home. 9 NS ns.com."}, []string{"home. 30 NS ns.home.", "home. 30 NS ns.com."}},
		{"home. 100000 TXT a", []string{"home. 9 DHCID a"}, []string{"home. 100000 TXT a", "home. 9 DHCID a"}},
	} {
		z := zone("home.", append(c.have, soa)...)
		got, ok := impl.Add(z, rec(c.put))
		expectZone(t, "Add "+c.put, got, ok, zone("home.", append(c.want, soa)...), true)
		again, ok := impl.Add(got, rec(c.put))
		expectZone(t, "Add again "+c.put, again, ok, got, true)
	}
}

func TestAddOfTheSoa(t *testing.T) {
	z := house()
	got, ok := impl.Add(z, rec("home. 61 SOA home. 5 60"))
	want := house()
	want.Rrs[2].Ttl = 61
	expectZone(t, "Add of the same TySoa", got, ok, want, true)
	for _, text := range []string{"home. 60 SOA home. 6 60", "home. 60 SOA home. 5 61", "home. 60 SOA a.home. 5 60", "pc.home. 60 SOA home. 5 60", ". 60 SOA home. 5 60"} {
		got, ok = impl.Add(z, rec(text))
		expectZone(t, "Add "+text, got, ok, z, false)
	}
}

func TestWhatMayNotBeInAZoneIsNotPut(t *testing.T) {
	z := house()
	for _, text := range []string{
		". 9 A 3", "com. 9 A 3", "pc.com. 9 A 3", "xhome. 9 A 3", "pc.home.com. 9 A 3",
		"home. 9 CNAME a.", "pc.home. 9 CNAME a.", "web.home. 9 CNAME tv.home.", "web.home. 10 CNAME pc.", "sub.home. 9 CNAME a.", "a.b.c.home. 9 CNAME a.",
		"web.home. 9 A 3", "web.home. 9 NS a.", "web.home. 9 PTR a.", "web.home. 9 TXT a", "web.home. 9 DHCID a",
	} {
		got, ok := impl.Add(z, rec(text))
		expectZone(t, "Add "+text, got, ok, z, false)
	}
	for _, text := range []string{"c.home. 9 CNAME a.", "x.web.home. 9 A 1", "x.pc.home. 9 CNAME a."} {
		if _, ok := impl.Add(z, rec(text)); !ok {
			t.Errorf("Add %s is refused", text)
		}
	}
}

func TestAddToAFullZone(t *testing.T) {
	one := rec("one.home. 7 TXT a")
	almost, full := fullZone(59), fullZone(60)
	got, ok := impl.Add(almost, one)
	expectZone(t, "the last one", got, ok, zoneOf("home.", append(almost.Rrs, one)...), true)
	if len(got.Rrs) != impl.MaxRecords {
		t.Fatal(len(got.Rrs))
	}
	z, ok := impl.Add(full, one)
	expectZone(t, "one more", z, ok, full, false)
	for _, r := range full.Rrs[:5] {
		z, ok = impl.Add(full, r)
		expectZone(t, "one that is there", z, ok, full, true)
	}
	z, gone := impl.Drop(got, one)
	expectZone(t, "Drop", z, gone, almost, true)
}

func TestWhatIsDroppedIsGone(t *testing.T) {
	for i, r := range house().Rrs {
		want := house()
		want.Rrs = slices.Delete(want.Rrs, i, i+1)
		r.Ttl = 100000 - r.Ttl
		got, had := impl.Drop(house(), r)
		if r.Type == 6 {
			expectZone(t, "Drop "+toldRr(r), got, had, house(), false)
			continue
		}
		expectZone(t, "Drop "+toldRr(r), got, had, want, true)
		again, had := impl.Drop(got, r)
		expectZone(t, "Drop again "+toldRr(r), again, had, want, false)
	}
	for _, text := range []string{"pc.home. 9 A 4", "pc.home. 9 NS pc.", "no.home. 9 A 3", "tv.pc.home. 9 A 3", "pc. 9 A 3", ". 9 A 3", "home. 60 SOA home. 6 60", "pc.home. 60 SOA home. 5 60", "web.home. 9 CNAME home."} {
		got, had := impl.Drop(house(), rec(text))
		expectZone(t, "Drop "+text, got, had, house(), false)
	}
}

func TestDropSet(t *testing.T) {
	for _, c := range []struct {
		name  string
		ty    int
		count int
		gone  []string
	}{
		{"pc.home.", 1, 2, []string{"pc.home. 9 A 3", "pc.home. 9 A 8"}},
		{"pc.home.", 49, 1, []string{"pc.home. 8 DHCID b"}},
		{"pc.home.", 255, 4, []string{"pc.home. 9 A 3", "pc.home. 9 A 8", "pc.home. 7 TXT a", "pc.home. 8 DHCID b"}},
		{"web.home.", 255, 1, []string{"web.home. 9 CNAME pc.home."}},
		{"web.home.", 1, 0, nil}, {"pc.home.", 6, 0, nil}, {"c.home.", 255, 0, nil}, {"no.home.", 255, 0, nil}, {".", 255, 0, nil}, {"com.", 2, 0, nil},
		{"home.", 6, 0, nil},
		{"home.", 2, 2, []string{"home. 30 NS ns.home.", "home. 30 NS ns.out."}},
		{"home.", 255, 3, []string{"home. 30 NS ns.home.", "home. 30 NS ns.out.", "home. 40 TXT Hi"}},
		{"sub.home.", 255, 4, []string{"sub.home. 9 NS ns.com.", "sub.home. 9 NS ns.home.", "sub.home. 9 NS ns.sub.home.", "sub.home. 9 TXT x"}},
	} {
		want := house()
		gone := toldRrs(recs(c.gone...))
		want.Rrs = slices.DeleteFunc(want.Rrs, func(r impl.Rr) bool { return strings.Contains(gone, toldRr(r)) })
		got, count := impl.DropSet(house(), named(c.name), c.ty)
		expectZone(t, fmt.Sprint("DropSet ", c.name, c.ty), got, count, want, c.count)
		again, count := impl.DropSet(got, named(c.name), c.ty)
		expectZone(t, fmt.Sprint("DropSet again ", c.name, c.ty), again, count, want, 0)
	}
	got, count := impl.DropSet(rootZone(), named("."), 255)
	expectZone(t, "DropSet of the root", got, count, zone(".", ". 60 SOA . 1 60", "ns. 60 A 1", "com. 60 NS ns.com.", "ns.com. 60 A 2", "home. 60 CNAME ns."), 2)
}

func TestSerialAndBump(t *testing.T) {
	for _, z := range goodZones() {
		for _, c := range [][2]int{{0, 1}, {5, 6}, {255, 256}, {1<<31 - 1, 1 << 31}, {1<<32 - 2, 1<<32 - 1}, {1<<32 - 1, 0}} {
			before, after := impl.Zone{Origin: z.Origin}, impl.Zone{Origin: z.Origin}
			for _, r := range z.Rrs {
				x := r
				if r.Type == 6 {
					r.Nums, x.Nums = []int{c[0], r.Nums[1]}, []int{c[1], r.Nums[1]}
				}
				before.Rrs, after.Rrs = append(before.Rrs, r), append(after.Rrs, x)
			}
			got, ok := impl.Bump(before)
			expectZone(t, "Bump", got, ok, after, true)
			if impl.Serial(before) != c[0] || impl.Serial(got) != c[1] || !impl.ZoneOk(got) {
				t.Errorf("Serial = %d, behind Bump %d", impl.Serial(before), impl.Serial(got))
			}
		}
	}
}

func TestLookup(t *testing.T) {
	sub := []string{"sub.home. 9 NS ns.com.", "sub.home. 9 NS ns.home.", "sub.home. 9 NS ns.sub.home."}
	for _, c := range []struct {
		name string
		ty   int
		kind int
		want []string
	}{
		{"pc.home.", 1, impl.LkAnswer, []string{"pc.home. 9 A 3", "pc.home. 9 A 8"}},
		{"pc.home.", 255, impl.LkAnswer, []string{"pc.home. 9 A 3", "pc.home. 9 A 8", "pc.home. 7 TXT a", "pc.home. 8 DHCID b"}},
		{"home.", 6, impl.LkAnswer, []string{soa}},
		{"home.", 2, impl.LkAnswer, []string{"home. 30 NS ns.home.", "home. 30 NS ns.out."}},
		{"web.home.", 5, impl.LkAnswer, []string{"web.home. 9 CNAME pc.home."}},
		{"web.home.", 255, impl.LkAnswer, []string{"web.home. 9 CNAME pc.home."}},
		{"web.home.", 1, impl.LkAlias, []string{"web.home. 9 CNAME pc.home."}},
		{"web.home.", 6, impl.LkAlias, []string{"web.home. 9 CNAME pc.home."}},
		{"sub.home.", 2, impl.LkReferral, sub}, {"sub.home.", 16, impl.LkReferral, sub}, {"sub.home.", 255, impl.LkReferral, sub},
		{"ns.sub.home.", 1, impl.LkReferral, sub}, {"x.sub.home.", 1, impl.LkReferral, sub}, {"in.sub.home.", 5, impl.LkReferral, sub},
		{"low.sub.home.", 2, impl.LkReferral, sub}, {"a.b.low.sub.home.", 1, impl.LkReferral, sub},
		{"pc.home.", 2, impl.LkNoData, nil}, {"home.", 1, impl.LkNoData, nil}, {"c.home.", 1, impl.LkNoData, nil}, {"b.c.home.", 255, impl.LkNoData, nil},
		{"no.home.", 1, impl.LkNoName, nil}, {"x.pc.home.", 1, impl.LkNoName, nil}, {"x.web.home.", 1, impl.LkNoName, nil}, {"xsub.home.", 255, impl.LkNoName, nil},
		{"com.", 1, impl.LkOut, nil}, {".", 1, impl.LkOut, nil}, {"xhome.", 1, impl.LkOut, nil}, {"pc.com.", 255, impl.LkOut, nil}, {"home.com.", 6, impl.LkOut, nil},
	} {
		expectLookup(t, house(), c.name, c.ty, c.kind, c.want...)
	}
}

func expectLookup(t *testing.T, z impl.Zone, name string, ty int, kind int, want ...string) {
	t.Helper()
	got, k := impl.Lookup(z, named(name), ty)
	if k != kind || toldRrs(got) != toldRrs(sorted(recs(want...))) {
		t.Errorf("Lookup %s %d = %s, %d, want %v, %d", name, ty, toldRrs(got), k, want, kind)
	}
}

func TestWhoANameIsHandedTo(t *testing.T) {
	z := zone("home.", soa, "home. 9 NS a.", "c.home. 9 NS x.", "a.b.c.home. 9 NS y.", "b.c.home. 9 A 1")
	for _, name := range []string{"c.home.", "b.c.home.", "a.b.c.home.", "z.a.b.c.home.", "q.c.home."} {
		expectLookup(t, z, name, 1, impl.LkReferral, "c.home. 9 NS x.")
	}
	low := zone("home.", soa, "home. 9 NS a.", "a.b.c.home. 9 NS y.", "b.c.home. 9 A 1")
	expectLookup(t, low, "c.home.", 1, impl.LkNoData)
	expectLookup(t, low, "b.c.home.", 1, impl.LkAnswer, "b.c.home. 9 A 1")
	expectLookup(t, low, "z.a.b.c.home.", 1, impl.LkReferral, "a.b.c.home. 9 NS y.")
	expectLookup(t, low, "b.b.c.home.", 1, impl.LkNoName)
	expectLookup(t, low, "home.", 2, impl.LkAnswer, "home. 9 NS a.")
	expectLookup(t, low, "no.home.", 2, impl.LkNoName)
}

func TestLookupFromTheRoot(t *testing.T) {
	z := rootZone()
	expectLookup(t, z, ".", 2, impl.LkAnswer, ". 60 NS ns.")
	expectLookup(t, z, ".", 1, impl.LkAnswer, ". 60 A 9")
	expectLookup(t, z, ".", 16, impl.LkNoData)
	expectLookup(t, z, "com.", 1, impl.LkReferral, "com. 60 NS ns.com.")
	expectLookup(t, z, "a.b.c.d.e.com.", 1, impl.LkReferral, "com. 60 NS ns.com.")
	expectLookup(t, z, "home.", 1, impl.LkAlias, "home. 60 CNAME ns.")
	expectLookup(t, z, "x.", 1, impl.LkNoName)
	expectLookup(t, deepZone(), "1.2.3.4.5.6.", 2, impl.LkAnswer, "1.2.3.4.5.6. 0 NS .")
	expectLookup(t, deepZone(), "2.3.4.5.6.", 2, impl.LkOut)
}

// reply is what a question of house() and the like must be answered with.
func reply(m impl.Msg, code int, auth bool, answers, auths, more []string) impl.Msg {
	return impl.Msg{Id: m.Id, Reply: true, Auth: auth, Code: code, Qs: m.Qs, Answers: recs(answers...), Auths: recs(auths...), More: recs(more...)}
}

func expectAnswer(t *testing.T, z impl.Zone, m impl.Msg, want impl.Msg) {
	t.Helper()
	got := impl.Answer(z, m)
	if toldMsg(got) != toldMsg(want) || !impl.MsgOk(got) {
		t.Errorf("Answer to %s = %s, want %s", toldMsg(m), toldMsg(got), toldMsg(want))
	}
}

func TestAnswer(t *testing.T) {
	type l = []string
	sub := l{"sub.home. 9 NS ns.com.", "sub.home. 9 NS ns.sub.home.", "sub.home. 9 NS ns.home."}
	subMore := l{"ns.sub.home. 9 A 2", "ns.sub.home. 9 A 4", "ns.home. 30 A 1"}
	pc := l{"pc.home. 9 A 3", "pc.home. 9 A 8"}
	for _, c := range []struct {
		name    string
		ty      int
		code    int
		auth    bool
		answers l
		auths   l
		more    l
	}{
		{"pc.home.", 1, 0, true, pc, nil, nil},
		{"pc.home.", 255, 0, true, append(slices.Clone(pc), "pc.home. 7 TXT a", "pc.home. 8 DHCID b"), nil, nil},
		{"home.", 2, 0, true, l{"home. 30 NS ns.out.", "home. 30 NS ns.home."}, nil, nil},
		{"web.home.", 1, 0, true, append(l{"web.home. 9 CNAME pc.home."}, pc...), nil, nil},
		{"www.home.", 1, 0, true, append(l{"www.home. 9 CNAME web.home.", "web.home. 9 CNAME pc.home."}, pc...), nil, nil},
		{"www.home.", 5, 0, true, l{"www.home. 9 CNAME web.home."}, nil, nil},
		{"www.home.", 255, 0, true, l{"www.home. 9 CNAME web.home."}, nil, nil},
		{"www.home.", 2, 0, true, l{"www.home. 9 CNAME web.home.", "web.home. 9 CNAME pc.home."}, l{soa}, nil},
		{"far.home.", 1, 0, true, l{"far.home. 9 CNAME pc.com."}, nil, nil},
		{"off.home.", 1, 3, true, l{"off.home. 9 CNAME no.home."}, l{soa}, nil},
		{"dry.home.", 2, 0, true, l{"dry.home. 9 CNAME ns.home."}, l{soa}, nil},
		{"to.home.", 1, 0, true, l{"to.home. 9 CNAME x.sub.home."}, sub, subMore},
		{"sub.home.", 2, 0, false, nil, sub, subMore},
		{"x.sub.home.", 255, 0, false, nil, sub, subMore},
		{"ns.sub.home.", 1, 0, false, nil, sub, subMore},
		{"in.sub.home.", 5, 0, false, nil, sub, subMore},
		{"pc.home.", 2, 0, true, nil, l{soa}, nil},
		{"c.home.", 255, 0, true, nil, l{soa}, nil},
		{"no.home.", 1, 3, true, nil, l{soa}, nil},
		{"com.", 1, 5, false, nil, nil, nil},
		{".", 255, 5, false, nil, nil, nil},
	} {
		m := query(named(c.name), c.ty)
		want := reply(m, c.code, c.auth, c.answers, c.auths, c.more)
		expectAnswer(t, house(), m, want)
		m.Id, m.Auth, m.Code, m.Answers, m.More = 65535, true, 3, recs("a. 9 A 9"), recs("b. 9 A 9")
		want.Id = 65535
		expectAnswer(t, house(), m, want)
	}
}

func TestAnswerHandsOnWithoutAddresses(t *testing.T) {
	z := zone("home.", soa, "sub.home. 9 NS ns.com.", "sub.home. 9 NS no.home.", "sub.home. 9 NS txt.home.", "txt.home. 9 TXT a")
	m := query(named("x.sub.home."), 1)
	want := reply(m, 0, false, nil, nil, nil)
	want.Auths = impl.SetOf(z, named("sub.home."), 2)
	if len(want.Auths) != 3 {
		t.Fatal(toldRrs(want.Auths))
	}
	expectAnswer(t, z, m, want)
}

// aliasChain has so many aliases that lead on to an address.
func aliasChain(n int) impl.Zone {
	l := recs(soa, fmt.Sprintf("a%d.home. 9 A 7", n))
	for i := range n {
		l = append(l, rec(fmt.Sprintf("a%d.home. 9 CNAME a%d.home.", i, i+1)))
	}
	return zoneOf("home.", l...)
}

func TestAliasesThatLeadOn(t *testing.T) {
	for n := range 10 {
		var answers []string
		for i := range min(n, 6) {
			answers = append(answers, fmt.Sprintf("a%d.home. 9 CNAME a%d.home.", i, i+1))
		}
		if n < 6 {
			answers = append(answers, fmt.Sprintf("a%d.home. 9 A 7", n))
		}
		m := query(named("a0.home."), 1)
		expectAnswer(t, aliasChain(n), m, reply(m, 0, true, answers, nil, nil))
	}
}

func TestAliasesInACircle(t *testing.T) {
	z := zone("home.", soa, "a.home. 9 CNAME a.home.", "b.home. 9 CNAME c.home.", "c.home. 9 CNAME b.home.")
	a, b, c := "a.home. 9 CNAME a.home.", "b.home. 9 CNAME c.home.", "c.home. 9 CNAME b.home."
	m := query(named("a.home."), 1)
	expectAnswer(t, z, m, reply(m, 0, true, []string{a, a, a, a, a, a}, nil, nil))
	m = query(named("c.home."), 16)
	expectAnswer(t, z, m, reply(m, 0, true, []string{c, b, c, b, c, b}, nil, nil))
	m = query(named("c.home."), 5)
	expectAnswer(t, z, m, reply(m, 0, true, []string{c}, nil, nil))
}

// severalTexts are of records that differ in their last number.
func severalTexts(n int, form string) []string {
	var out []string
	for i := range n {
		out = append(out, fmt.Sprintf(form, 100+i))
	}
	return out
}

func TestAnswersThatAreTooLong(t *testing.T) {
	fail := func(m impl.Msg) impl.Msg { return reply(m, 2, false, nil, nil, nil) }
	for n := 11; n <= 14; n++ {
		addrs := severalTexts(n, "pc.home. 9 A %d")
		z := zone("home.", append(addrs, soa, "web.home. 9 CNAME pc.home.")...)
		m, alias := query(named("pc.home."), 1), query(named("web.home."), 1)
		want, wantAlias := reply(m, 0, true, addrs, nil, nil), reply(alias, 0, true, append([]string{"web.home. 9 CNAME pc.home."}, addrs...), nil, nil)
		if n > 12 {
			want = fail(m)
		}
		if n > 11 {
			wantAlias = fail(alias)
		}
		expectAnswer(t, z, m, want)
		expectAnswer(t, z, alias, wantAlias)
		servers := severalTexts(n, "s. 9 NS n%d.")
		z = zone(".", append(servers, ". 60 SOA . 1 60")...)
		m = query(named("s."), 1)
		want = reply(m, 0, false, nil, servers, nil)
		if n > 12 {
			want = fail(m)
		}
		expectAnswer(t, z, m, want)
		z = zone(".", append(severalTexts(n, "n. 9 A %d"), ". 60 SOA . 1 60", "s. 9 NS n.")...)
		want = reply(m, 0, false, nil, []string{"s. 9 NS n."}, severalTexts(n, "n. 9 A %d"))
		if n > 12 {
			want = fail(m)
		}
		expectAnswer(t, z, m, want)
	}
}

func TestAnswersOfTooManyBytes(t *testing.T) {
	for size := 508; size <= 516; size++ {
		m := query(named("."), 16)
		l := filling(size - headSize)
		for i := range l {
			l[i].Text[0] = byte('a' + i)
		}
		want := reply(m, 0, true, nil, nil, nil)
		want.Answers = sorted(l)
		if size > 512 {
			want = reply(m, 2, false, nil, nil, nil)
		}
		expectAnswer(t, zoneOf(".", append(l, rec(". 60 SOA . 1 60"))...), m, want)
	}
}

func TestAnswerOfWhatIsNotAsked(t *testing.T) {
	m := query(named("pc.home."), 1)
	wrong := append(badMsgs(), turned(m, func(m *impl.Msg) { m.Reply = true }), update(named("home.")), update(named("pc.home.")))
	for _, x := range wrong {
		if got := impl.Answer(house(), x); !isZeroMsg(got) {
			t.Errorf("Answer to %s = %s", toldMsg(x), toldMsg(got))
		}
	}
}

func TestCallsWithWrongZones(t *testing.T) {
	r, n, m := rec("pc.home. 9 A 3"), named("pc.home."), query(named("pc.home."), 1)
	for _, z := range append(wrongZones(), zonesOfBadRecords()...) {
		if l := impl.SetOf(z, n, 1); len(l) != 0 {
			t.Errorf("SetOf %s = %s", toldZone(z), toldRrs(l))
		}
		l, kind := impl.Lookup(z, n, 1)
		if impl.HasName(z, n) || impl.HasName(z, named(".")) || impl.Serial(z) != 0 || len(l) != 0 || kind != 5 || !isZeroMsg(impl.Answer(z, m)) {
			t.Errorf("%s tells something", toldZone(z))
		}
		a, ok := impl.Add(z, r)
		d, had := impl.Drop(z, r)
		s, count := impl.DropSet(z, n, 1)
		b, bumped := impl.Bump(z)
		if !isZeroZone(a) || ok || !isZeroZone(d) || had || !isZeroZone(s) || count != 0 || !isZeroZone(b) || bumped {
			t.Errorf("%s is changed", toldZone(z))
		}
	}
}

func TestZoneCallsWithOtherWrongArguments(t *testing.T) {
	z := house()
	for _, r := range badRecords() {
		a, ok := impl.Add(z, r)
		d, had := impl.Drop(z, r)
		if !isZeroZone(a) || ok || !isZeroZone(d) || had {
			t.Errorf("%s is taken", toldRr(r))
		}
	}
	joined := []impl.Name{labels("home\x00pc"), labels("home.pc"), labels("pc.home"), labels("pc\x00home"), labels("\x02pc\x04home"), labels("pc", "home", "")}
	for _, n := range append(badNames(), joined...) {
		for _, x := range []impl.Zone{z, rootZone()} {
			l, kind := impl.Lookup(x, n, 1)
			d, count := impl.DropSet(x, n, 1)
			if len(impl.SetOf(x, n, 255)) != 0 || impl.HasName(x, n) || len(l) != 0 || kind != 5 || !isZeroZone(d) || count != 0 {
				t.Errorf("%s is taken", told(n))
			}
		}
	}
	for _, ty := range wrongTypes() {
		if ty == 255 {
			continue
		}
		for _, name := range []string{"pc.home.", "web.home.", "sub.home.", "no.home.", "com."} {
			l, kind := impl.Lookup(z, named(name), ty)
			d, count := impl.DropSet(z, named(name), ty)
			if len(l) != 0 || kind != 5 || !isZeroZone(d) || count != 0 {
				t.Errorf("type %d of %s is taken", ty, name)
			}
		}
	}
}

// isUnder says again what Under does, by texts.
func isUnder(n, zone impl.Name) bool {
	return len(zone.L) == 0 || strings.HasSuffix("."+wordsOfName(n), "."+wordsOfName(zone))
}

// mayBe says again what ZoneOk does, but for what NameOk and RrOk ask.
func mayBe(z impl.Zone) bool {
	if !impl.NameOk(z.Origin) || len(z.Rrs) > 60 {
		return false
	}
	soas, of, aliases := 0, map[string]int{}, map[string]int{}
	for i, r := range z.Rrs {
		if !impl.RrOk(r) || !isUnder(r.Name, z.Origin) || i > 0 && placeOf(z.Rrs[i-1]) >= placeOf(r) {
			return false
		}
		text := wordsOfName(r.Name)
		of[text]++
		if r.Type == 5 {
			aliases[text]++
		}
		if r.Type == 6 {
			soas++
			if text != wordsOfName(z.Origin) {
				return false
			}
		}
	}
	for text := range aliases {
		if of[text] > 1 {
			return false
		}
	}
	return soas == 1
}

func setIn(z impl.Zone, n impl.Name, ty int) []impl.Rr {
	var out []impl.Rr
	for _, r := range z.Rrs {
		if wordsOfName(r.Name) == wordsOfName(n) && (ty == 255 || ty == r.Type) {
			out = append(out, r)
		}
	}
	return out
}

func hasIn(z impl.Zone, n impl.Name) bool {
	return slices.ContainsFunc(z.Rrs, func(r impl.Rr) bool { return isUnder(r.Name, n) })
}

// with is a zone with a record, whether that may be or not.
func with(z impl.Zone, r impl.Rr) impl.Zone {
	out := impl.Zone{Origin: z.Origin}
	for _, x := range z.Rrs {
		if wordsOfName(x.Name) == wordsOfName(r.Name) && x.Type == r.Type {
			x.Ttl = r.Ttl
		}
		if placeOf(x) != placeOf(r) {
			out.Rrs = append(out.Rrs, x)
		}
	}
	out.Rrs = sorted(append(out.Rrs, r))
	return out
}

func addedTo(z impl.Zone, r impl.Rr) (impl.Zone, bool) {
	out := with(z, r)
	if !mayBe(out) {
		return z, false
	}
	return out, true
}

// leftOf has those records that none of l is the same as, and tells how many went.
func leftOf(z impl.Zone, l []impl.Rr) (impl.Zone, int) {
	out := impl.Zone{Origin: z.Origin}
	for _, x := range z.Rrs {
		same := slices.ContainsFunc(l, func(r impl.Rr) bool { return placeOf(r) == placeOf(x) })
		if !same || x.Type == 6 {
			out.Rrs = append(out.Rrs, x)
		}
	}
	return out, len(z.Rrs) - len(out.Rrs)
}

func foundIn(z impl.Zone, n impl.Name, ty int) ([]impl.Rr, int) {
	if !isUnder(n, z.Origin) {
		return nil, 5
	}
	var servers []impl.Rr
	for _, r := range z.Rrs {
		handed := r.Type == 2 && isUnder(n, r.Name) && len(r.Name.L) > len(z.Origin.L)
		if handed && (servers == nil || len(servers[0].Name.L) == len(r.Name.L)) {
			servers = append(servers, r)
		}
	}
	all := setIn(z, n, 255)
	switch {
	case servers != nil:
		return servers, 2
	case len(setIn(z, n, ty)) > 0:
		return setIn(z, n, ty), 0
	case len(all) == 1 && all[0].Type == 5:
		return all, 1
	case hasIn(z, n):
		return nil, 3
	}
	return nil, 4
}

// followed puts behind a message what one name tells, and then what that leads to.
func followed(z impl.Zone, out impl.Msg, n impl.Name, left int) impl.Msg {
	if left == 0 {
		return out
	}
	l, kind := foundIn(z, n, out.Qs[0].Type)
	out.Auth = out.Auth || kind != 2 && kind != 5
	switch kind {
	case 0:
		out.Answers = append(out.Answers, l...)
	case 1:
		out.Answers = append(out.Answers, l...)
		return followed(z, out, l[0].To, left-1)
	case 2:
		out.Auths = l
		for _, r := range l {
			out.More = append(out.More, setIn(z, r.To, 1)...)
		}
	case 3:
		out.Auths = setIn(z, z.Origin, 6)
	case 4:
		out.Auths, out.Code = setIn(z, z.Origin, 6), 3
	case 5:
		if left == 6 {
			out.Code = 5
		}
	}
	return out
}

func answered(z impl.Zone, m impl.Msg) impl.Msg {
	start := impl.Msg{Id: m.Id, Reply: true, Qs: m.Qs}
	out := followed(z, start, m.Qs[0].Name, 6)
	if len(out.Answers) > 12 || len(out.Auths) > 12 || len(out.More) > 12 || len(bytesOfMsg(out)) > 512 {
		start.Code = 2
		return start
	}
	return out
}

// checkReads holds all that a zone tells to what the second zone does.
func checkReads(t *testing.T, z impl.Zone, n impl.Name, ty int) impl.Msg {
	t.Helper()
	call := fmt.Sprintf("of %s, %s, %d", toldZone(z), told(n), ty)
	if got := impl.SetOf(z, n, ty); toldRrs(got) != toldRrs(setIn(z, n, ty)) {
		t.Fatalf("SetOf %s = %s", call, toldRrs(got))
	}
	if impl.HasName(z, n) != hasIn(z, n) {
		t.Fatalf("HasName %s = %v", call, !hasIn(z, n))
	}
	got, kind := impl.Lookup(z, n, ty)
	want, wantKind := foundIn(z, n, ty)
	if kind != wantKind || toldRrs(got) != toldRrs(want) {
		t.Fatalf("Lookup %s = %s, %d, want %s, %d", call, toldRrs(got), kind, toldRrs(want), wantKind)
	}
	m := query(n, ty)
	a := impl.Answer(z, m)
	if toldMsg(a) != toldMsg(answered(z, m)) || !impl.MsgOk(a) {
		t.Fatalf("Answer %s = %s, want %s", call, toldMsg(a), toldMsg(answered(z, m)))
	}
	for _, r := range slices.Concat(a.Answers, a.Auths, a.More) {
		if !slices.ContainsFunc(z.Rrs, func(x impl.Rr) bool { return toldRr(x) == toldRr(r) }) {
			t.Fatalf("Answer %s tells %s", call, toldRr(r))
		}
	}
	return a
}

// checkWrites holds all that changes a zone to what the second zone does, and gives one of the zones.
func checkWrites(t *testing.T, z impl.Zone, r impl.Rr) (impl.Zone, bool) {
	t.Helper()
	call := fmt.Sprintf("of %s, %s", toldZone(z), toldRr(r))
	added, ok := impl.Add(z, r)
	want, wantOk := addedTo(z, r)
	expectZone(t, "Add "+call, added, ok, want, wantOk)
	d, had := impl.Drop(added, r)
	left, gone := leftOf(added, []impl.Rr{r})
	expectZone(t, "Drop "+call, d, had, left, gone == 1)
	for _, ty := range []int{r.Type, 255} {
		s, count := impl.DropSet(added, r.Name, ty)
		left, gone = leftOf(added, setIn(added, r.Name, ty))
		expectZone(t, "DropSet "+call, s, count, left, gone)
	}
	for _, x := range []impl.Zone{added, d} {
		if !impl.ZoneOk(x) || !mayBe(x) || impl.Serial(x) != setIn(z, z.Origin, 6)[0].Nums[0] {
			t.Fatalf("%s gives %s", call, toldZone(x))
		}
	}
	return added, ok
}

// name gives one of few names, most of them under the origin.
func (m *mixer) name(origin impl.Name) impl.Name {
	out := origin
	for range min(m.of(0, 1, 1, 1, 2, 2, 3), 6-len(origin.L)) {
		out = impl.Name{L: slices.Insert(slices.Clone(out.L), 0, []byte{"abc"[m.below(3)]})}
	}
	if m.below(12) == 0 {
		return named([]string{".", "com.", "a.com.", "xhome.", "b.", "6."}[m.below(6)])
	}
	return out
}

// record gives one that may be, of any type, with small data.
func (m *mixer) record(origin impl.Name) impl.Rr {
	r := impl.Rr{Name: m.name(origin), Type: m.of(1, 1, 1, 2, 2, 5, 5, 5, 12, 16, 49, 6), Ttl: m.of(0, 9, 60, 100000)}
	switch r.Type {
	case 1:
		r.Addr = m.below(9)
	case 16, 49:
		r.Text = bytes.Repeat([]byte{byte('a' + m.below(3))}, m.of(0, 1, 2, 40))
	case 6:
		r.To, r.Nums = origin, []int{m.of(4, 5), 60}
		if m.below(2) == 0 {
			r.Name = origin
		}
	default:
		r.To = m.name(origin)
	}
	return r
}

// crowd has texts of the origin instead of other records, and asks for them, so that answers get too long.
func (m *mixer) crowd(origin impl.Name, r impl.Rr, asked impl.Name) (impl.Rr, impl.Name) {
	if r.Type != 2 && r.Type != 5 {
		r = impl.Rr{Name: origin, Type: 16, Ttl: r.Ttl, Text: []byte{byte(m.below(60))}}
	}
	if m.below(3) == 0 {
		return r, asked
	}
	return r, origin
}

func TestMixedZones(t *testing.T) {
	m := mixer(5)
	var kinds [11]int
	put, refused := 0, 0
	for i := range 120 {
		origin := []impl.Name{named("home."), named("home."), named("."), named("z.home."), named("2.3.4.5.6.")}[i%5]
		z, _ := impl.ZoneNew(origin, 5)
		for range m.of(5, 15, 30, 90) {
			r, asked := m.record(origin), m.name(origin)
			if i%4 == 0 {
				r, asked = m.crowd(origin, r, asked)
			}
			next, ok := checkWrites(t, z, r)
			if ok {
				put++
			} else {
				refused++
			}
			z = next
			if i%4 != 0 && m.below(5) == 0 {
				z, _ = impl.DropSet(z, m.name(origin), 255)
			}
			kinds[checkReads(t, z, asked, m.of(1, 1, 2, 5, 6, 12, 16, 49, 255)).Code]++
		}
	}
	if put < 1000 || refused < 300 || kinds[0] < 1000 || kinds[2] < 20 || kinds[3] < 300 || kinds[5] < 50 {
		t.Error("too little was found:", put, refused, kinds)
	}
}

func TestGoodZonesTellTheirRecords(t *testing.T) {
	for _, z := range goodZones() {
		names := append(goodNames(), named("no.home."), named("x.sub.home."), named("c.home."))
		for _, r := range z.Rrs {
			names = append(names, r.Name, r.To)
			checkWrites(t, z, r)
		}
		for _, n := range names {
			for _, ty := range append(typeNumbers(), 255) {
				checkReads(t, z, n, ty)
			}
		}
		for _, r := range append(fewRecords(), goodRecords()[:60]...) {
			checkWrites(t, z, r)
		}
	}
}

// zoneArgs are all arguments that a function of the chapter may take.
type zoneArgs struct {
	z  impl.Zone
	r  impl.Rr
	m  impl.Msg
	ty int
}

// packed is a zone as a message, so that it can be looked at as those are.
func packed(z impl.Zone) impl.Msg {
	return impl.Msg{Qs: []impl.Question{{Name: z.Origin}}, Answers: z.Rrs}
}

func roomyZone(z impl.Zone) impl.Zone {
	return impl.Zone{Origin: roomyName(z.Origin), Rrs: roomy(z.Rrs, roomyRr, impl.Rr{Type: 1, Addr: 77})}
}

func (a zoneArgs) roomy() zoneArgs {
	return zoneArgs{roomyZone(a.z), roomyRr(a.r), roomyMsg(a.m), a.ty}
}

func (a zoneArgs) whole() string {
	return wholeMsg(packed(a.z)) + wholeRr(a.r) + wholeMsg(a.m)
}

func (a zoneArgs) scribble() {
	scribbleMsg(packed(a.z))
	scribbleRr(a.r)
	scribbleMsg(a.m)
}

// zoneCalls are calls of every function of the chapter; each gives what it answers as a message.
func zoneCalls() map[string]func(a zoneArgs) impl.Msg {
	list := func(l []impl.Rr) impl.Msg { return impl.Msg{Answers: l} }
	return map[string]func(a zoneArgs) impl.Msg{
		"ZoneOk":  func(a zoneArgs) impl.Msg { impl.ZoneOk(a.z); return impl.Msg{} },
		"ZoneNew": func(a zoneArgs) impl.Msg { z, _ := impl.ZoneNew(a.z.Origin, 5); return packed(z) },
		"SetOf":   func(a zoneArgs) impl.Msg { return list(impl.SetOf(a.z, a.r.Name, a.ty)) },
		"HasName": func(a zoneArgs) impl.Msg { impl.HasName(a.z, a.r.Name); return impl.Msg{} },
		"Add":     func(a zoneArgs) impl.Msg { z, _ := impl.Add(a.z, a.r); return packed(z) },
		"Drop":    func(a zoneArgs) impl.Msg { z, _ := impl.Drop(a.z, a.r); return packed(z) },
		"DropSet": func(a zoneArgs) impl.Msg { z, _ := impl.DropSet(a.z, a.r.Name, a.ty); return packed(z) },
		"Serial":  func(a zoneArgs) impl.Msg { impl.Serial(a.z); return impl.Msg{} },
		"Bump":    func(a zoneArgs) impl.Msg { z, _ := impl.Bump(a.z); return packed(z) },
		"Lookup":  func(a zoneArgs) impl.Msg { l, _ := impl.Lookup(a.z, a.r.Name, a.ty); return list(l) },
		"Answer":  func(a zoneArgs) impl.Msg { return impl.Answer(a.z, a.m) },
	}
}

// manyZoneArgs put zones together with records and questions, good and bad ones.
func manyZoneArgs() []zoneArgs {
	circle := zone("home.", soa, "a.home. 9 CNAME a.home.", "pc.home. 9 NS ns.pc.home.", "ns.pc.home. 9 A 1")
	wrong := badZones()
	zones := []impl.Zone{house(), rootZone(), deepZone(), fullZone(60), circle, wrong["two TySoa"], wrong["a name beside"], wrong["out of order at 3"], {}}
	records := append(fewRecords(), recs("a.home. 9 CNAME a.home.", "home. 9 TXT a", "x.sub.home. 9 A 4", "www.home. 9 A 1", "com. 9 NS ns.com.", ". 9 A 9", soa, "no.home. 9 A 1", "to.home. 9 A 1")...)
	records = append(records, badRecords()[:12]...)
	var out []zoneArgs
	for i, z := range zones {
		for k, r := range records {
			a := zoneArgs{z: z, r: r, m: query(r.Name, 1), ty: []int{1, 2, 255, 5, 6, 3}[(i+k)%6]}
			if k%2 == 0 {
				a.m.Qs[0].Type = 255
			}
			a.m.Answers = recs("more.home. 9 A 1")
			out = append(out, a)
		}
	}
	return out
}

func TestZoneAnswersAreNewMemory(t *testing.T) {
	for call, run := range zoneCalls() {
		for _, plain := range manyZoneArgs() {
			a := plain.roomy()
			before := a.whole()
			first, second := run(a), run(a)
			if a.whole() != before {
				t.Fatalf("%s of %s and %s wrote into an argument", call, toldZone(plain.z), toldRr(plain.r))
			}
			want := toldMsg(second)
			if toldMsg(first) != want || toldMsg(run(plain)) != want {
				t.Fatalf("%s of %s and %s hangs on spare room", call, toldZone(plain.z), toldRr(plain.r))
			}
			scribbleMsg(first)
			if a.whole() != before || toldMsg(second) != want {
				t.Fatalf("%s of %s and %s shares memory", call, toldZone(plain.z), toldRr(plain.r))
			}
			a.scribble()
			if toldMsg(second) != want {
				t.Fatalf("%s of %s and %s keeps its argument", call, toldZone(plain.z), toldRr(plain.r))
			}
			checkMsgApart(t, call, second)
		}
	}
}

func TestZonesAreToldInOneOrder(t *testing.T) {
	one := rec("one.home. 7 TXT a")
	for _, z := range []impl.Zone{house(), fullZone(59), zone("home.", append(severalTexts(40, "pc.home. 9 A %d"), soa)...)} {
		args := zoneArgs{z: z, r: one, m: query(named("pc.home."), 255), ty: 255}
		for call, run := range zoneCalls() {
			want := toldMsg(run(args))
			for range 40 {
				if got := toldMsg(run(args)); got != want {
					t.Fatalf("%s told %s, then %s", call, want, got)
				}
			}
		}
	}
}
