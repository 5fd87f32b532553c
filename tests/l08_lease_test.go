package tests

import (
	"bytes"
	"fmt"
	"math"
	"slices"
	"strconv"
	"strings"
	"testing"

	"loop.example/g00422/impl"
)

// subnet is Subnet, said again.
const subnet = 10 << 24

const backOrigin = "0.0.10.in-addr.arpa."

type texts = []string

// lease makes one of words: the last number of its address, client, host, until when, and won or lost.
func lease(text string) impl.Lease {
	w := strings.Fields(text)
	return impl.Lease{Ip: subnet + number(w[0]), Client: []byte(w[1]), Host: []byte(w[2]), Until: number(w[3]), Won: len(w) > 4 && w[4] == "won"}
}

func signOf(client, host string) []byte {
	return append([]byte{0, 1, 1}, sumOf([]byte(client+bytesOfName(labels(host, "home"))))...)
}

func backName(ip int) impl.Name {
	return labels(strconv.Itoa(ip-subnet), "0", "0", "10", "in-addr", "arpa")
}

// ownRecords are the two of a lease's name, and the one of its address.
func ownRecords(l impl.Lease) ([]impl.Rr, impl.Rr) {
	name := labels(string(l.Host), "home")
	address := impl.Rr{Name: name, Type: 1, Ttl: 60, Addr: l.Ip}
	sign := impl.Rr{Name: name, Type: 49, Ttl: 60, Text: signOf(string(l.Client), string(l.Host))}
	return []impl.Rr{address, sign}, impl.Rr{Name: backName(l.Ip), Type: 12, Ttl: 60, To: name}
}

// other makes a record of words; a client behind an @ stands for its sign with the name.
func other(text string) impl.Rr {
	r := rec(text)
	if client, is := strings.CutPrefix(string(r.Text), "@"); is {
		r.Text = signOf(client, string(r.Name.L[0]))
	}
	return r
}

func withOwn(h impl.House, l impl.Lease) impl.House {
	own, back := ownRecords(l)
	h.Zone = with(with(h.Zone, own[0]), own[1])
	h.Rev = with(h.Rev, back)
	return h
}

// home is a house at a moment, with the serials of both zones, leases with what they won, and other records.
func home(now int, serial, back int, leases texts, others ...string) impl.House {
	h := impl.House{
		Now:  now,
		Zone: zone("home.", fmt.Sprintf("home. 60 SOA home. %d 60", serial)),
		Rev:  zone(backOrigin, fmt.Sprintf("%s 60 SOA %s %d 60", backOrigin, backOrigin, back)),
	}
	for _, text := range others {
		if r := other(text); isUnder(r.Name, named(backOrigin)) {
			h.Rev = with(h.Rev, r)
		} else {
			h.Zone = with(h.Zone, r)
		}
	}
	for _, text := range leases {
		l := lease(text)
		h.Leases = append(h.Leases, l)
		if l.Won {
			h = withOwn(h, l)
		}
	}
	return h
}

func toldLease(l impl.Lease) string {
	return fmt.Sprintf("{%d %q %q %d %v}", l.Ip, l.Client, l.Host, l.Until, l.Won)
}

func toldHouse(h impl.House) string {
	return fmt.Sprintf("{now %d zone %s rev %s leases %s}", h.Now, toldZone(h.Zone), toldZone(h.Rev), toldAll(h.Leases, toldLease))
}

func isZeroHouse(h impl.House) bool {
	return toldHouse(h) == toldHouse(impl.House{})
}

// expectHouse holds a house and what is told beside it to what they must be.
func expectHouse(t *testing.T, call string, got impl.House, beside int, want impl.House, wantBeside int) {
	t.Helper()
	if toldHouse(got) != toldHouse(want) || beside != wantBeside {
		t.Fatalf("%s = %s, %d, want %s, %d", call, toldHouse(got), beside, toldHouse(want), wantBeside)
	}
}

func bind(h impl.House, l impl.Lease) (impl.House, int) {
	return impl.Bind(h, l.Ip, l.Client, l.Host, l.Until)
}

func expectBind(t *testing.T, h impl.House, text string, want impl.House, code int) {
	t.Helper()
	if !impl.HouseOk(h) || !impl.HouseOk(want) {
		t.Fatalf("no house: %s, %s", toldHouse(h), toldHouse(want))
	}
	got, c := bind(h, lease(text))
	expectHouse(t, "Bind "+text, got, c, want, code)
}

func expectRelease(t *testing.T, h impl.House, ip int, client string, want impl.House, code int) {
	t.Helper()
	if !impl.HouseOk(h) || !impl.HouseOk(want) {
		t.Fatalf("no house: %s, %s", toldHouse(h), toldHouse(want))
	}
	got, c := impl.Release(h, ip, []byte(client))
	expectHouse(t, fmt.Sprint("Release ", ip, client), got, c, want, code)
}

func expectTick(t *testing.T, h impl.House, now int, want impl.House, count int) {
	t.Helper()
	if !impl.HouseOk(h) || !impl.HouseOk(want) {
		t.Fatalf("no house: %s, %s", toldHouse(h), toldHouse(want))
	}
	got, n := impl.Tick(h, now)
	expectHouse(t, fmt.Sprint("Tick ", now), got, n, want, count)
}

func TestHouseLimits(t *testing.T) {
	codes := []int{impl.LsWell, impl.LsForm, impl.LsTaken, impl.LsFull, impl.LsNone, impl.LsName}
	if impl.MaxLeases != 8 || impl.MaxNow != 1000000 || impl.Subnet != subnet || !slices.Equal(codes, []int{0, 1, 2, 3, 4, 5}) {
		t.Error(impl.MaxLeases, impl.MaxNow, impl.Subnet, codes)
	}
}

func TestHouseNew(t *testing.T) {
	for _, serial := range []int{0, 1, 5, 1<<31 - 1, 1 << 31, 1<<32 - 2, 1<<32 - 1} {
		h, ok := impl.HouseNew(serial)
		if !ok || toldHouse(h) != toldHouse(home(0, serial, serial, nil)) || !impl.HouseOk(h) {
			t.Errorf("HouseNew(%d) = %s, %v", serial, toldHouse(h), ok)
		}
	}
	for _, serial := range []int{-1, -5, 1 << 32, 1<<32 + 1, math.MaxInt, math.MinInt} {
		if h, ok := impl.HouseNew(serial); ok || !isZeroHouse(h) {
			t.Errorf("HouseNew(%d) = %s, %v", serial, toldHouse(h), ok)
		}
	}
}

// base has leases of every kind: two of one client with one name, one that lost it, and one for itself.
func base() impl.House {
	return home(10, 5, 7, texts{"3 m1 pc 20 won", "4 m2 pc 30 lost", "5 m1 pc 40 won", "9 m3 tv 50 won", "12 m1 pc 60 lost"},
		"pc.home. 9 TXT a", "web.home. 9 CNAME pc.home.", "old.home. 9 A 3", "old.home. 9 TXT b", "sub.home. 9 NS ns.sub.home.", "ns.sub.home. 9 A 1",
		"low.home. 9 DHCID @m4", "low.home. 9 A 8", "7.0.0.10.in-addr.arpa. 9 PTR old.home.", "7.0.0.10.in-addr.arpa. 9 TXT c", "0.0.10.in-addr.arpa. 9 NS ns.home.")
}

// eight has as many leases as may be, the odd ones with their names.
func eight() impl.House {
	var l texts
	for i := range 8 {
		l = append(l, fmt.Sprintf("%d m%d h%d %d %s", 10+2*i, i, i/2, 100+i, []string{"won", "lost"}[i%2]))
	}
	return home(10, 5, 7, l)
}

func goodHouses() map[string]impl.House {
	times := home(0, 5, 5, texts{"3 m1 pc 20 won"})
	for i := range times.Zone.Rrs {
		times.Zone.Rrs[i].Ttl = 100000 - i
	}
	times.Rev.Rrs[1].Ttl = 0
	empty := home(0, 5, 5, nil)
	empty.Leases = []impl.Lease{}
	return map[string]impl.House{
		"base": base(), "eight": eight(), "times": times, "empty": empty,
		"new":               home(0, 0, 1<<32-1, nil),
		"the last moment":   home(1000000, 5, 5, texts{"1 m a 1000001 won", "254 0123456789abcdef abcdefghijklmno 2000000 won"}),
		"the first moment":  home(0, 5, 5, texts{"1 m - 1 won", "2 m 0 2000000 lost", "254 m z 1 won"}),
		"two have one name": home(0, 5, 5, texts{"3 m1 pc 20 won", "4 m2 pc 20 won"}, "pc.home. 9 DHCID x"),
		"lost without any":  home(0, 5, 5, texts{"3 m1 pc 20 lost", "4 m2 pc 20 lost", "5 m1 pc 20 lost"}),
		"one address twice": home(0, 5, 5, texts{"3 m1 pc 20 won"}, "3.0.0.10.in-addr.arpa. 9 PTR tv.home.", "3.0.0.10.in-addr.arpa. 9 TXT a", "tv.home. 9 A 167772163"),
		"both zones full":   full(60, 60, "3 m1 pc 20 won"),
	}
}

// full has so many records in each zone, those of its leases with them.
func full(zone, rev int, leases ...string) impl.House {
	h := home(0, 5, 5, leases)
	for i := 0; len(h.Zone.Rrs) < zone; i++ {
		h.Zone = with(h.Zone, rec(fmt.Sprintf("n%d.home. 60 A %d", i%7, i)))
	}
	for i := 0; len(h.Rev.Rrs) < rev; i++ {
		h.Rev = with(h.Rev, rec(fmt.Sprintf("%d.0.0.10.in-addr.arpa. 60 PTR n%d.home.", 200+i%7, i)))
	}
	return h
}

func lacking(h impl.House, text string) impl.House {
	r := other(text)
	gone, back := 0, 0
	h.Zone, gone = leftOf(h.Zone, []impl.Rr{r})
	h.Rev, back = leftOf(h.Rev, []impl.Rr{r})
	if gone+back != 1 {
		panic(text)
	}
	return h
}

func having(h impl.House, text string) impl.House {
	h.Zone = with(h.Zone, other(text))
	return h
}

// wrongZonesOfHouses have one wrong zone each.
func wrongZonesOfHouses() map[string]impl.House {
	out := map[string]impl.House{}
	for why, z := range badZones() {
		h := base()
		h.Zone = z
		out["Zone: "+why] = h
		h = base()
		h.Rev = z
		out["Rev: "+why] = h
	}
	for _, origin := range []string{".", "com.", "pc.home.", "xhome.", "homes.", "home.home.", backOrigin, "0.10.in-addr.arpa.", "0.0.0.10.in-addr.arpa.", "1.0.10.in-addr.arpa.", "arpa."} {
		h := home(0, 5, 5, nil)
		h.Zone, _ = impl.ZoneNew(named(origin), 5)
		out["Zone of "+origin] = h
		if origin != backOrigin {
			h = home(0, 5, 5, nil)
			h.Rev, _ = impl.ZoneNew(named(origin), 5)
			out["Rev of "+origin] = h
		}
	}
	h := home(0, 5, 5, nil)
	h.Rev = h.Zone
	out["Rev of home."] = h
	h = home(0, 5, 5, nil)
	h.Zone, h.Rev = h.Rev, h.Zone
	out["zones the other way round"] = h
	return out
}

// wrongLeases turn one field of a lease, each in one way.
func wrongLeases() map[string]func(l *impl.Lease) {
	out := map[string]func(l *impl.Lease){}
	for _, ip := range []int{subnet, subnet - 1, subnet + 255, subnet + 256, subnet + 65536 + 9, 9, 0, -1, -subnet - 9, 1<<32 + subnet + 9, math.MaxInt, math.MinInt} {
		out[fmt.Sprint("Ip ", ip)] = func(l *impl.Lease) { l.Ip = ip }
	}
	for _, size := range []int{0, 17, 18, 4096} {
		out[fmt.Sprint("Client of ", size)] = func(l *impl.Lease) { l.Client = make([]byte, size) }
	}
	for _, host := range []string{"", "abcdefghijklmnop", "Tv", "t.v", "tv.", ".", "t v", "t_v", "tv\x00", "\u00e4", strings.Repeat("a", 4096)} {
		out[fmt.Sprintf("Host %q", host)] = func(l *impl.Lease) { l.Host = []byte(host) }
	}
	for _, until := range []int{10, 9, 0, -1, 2000001, 1 << 32, math.MaxInt, math.MinInt} {
		out[fmt.Sprint("Until ", until)] = func(l *impl.Lease) { l.Until = until }
	}
	return out
}

// wrongLeasesOfHouses have one wrong lease, or leases out of order, or too many.
func wrongLeasesOfHouses() map[string]impl.House {
	out := map[string]impl.House{}
	for why, turn := range wrongLeases() {
		for _, text := range []string{"9 m3 tv 50 lost", "9 m3 tv 50 won"} {
			h := home(10, 5, 7, texts{text})
			turn(&h.Leases[0])
			out["alone: "+why+" "+text] = h
		}
		h := base()
		turn(&h.Leases[4])
		out[why] = h
	}
	for i := range base().Leases[1:] {
		h := base()
		h.Leases[i], h.Leases[i+1] = h.Leases[i+1], h.Leases[i]
		out[fmt.Sprint("out of order at ", i)] = h
		h = base()
		h.Leases = slices.Insert(h.Leases, i, h.Leases[i])
		out[fmt.Sprint("twice at ", i)] = h
	}
	out["two of one address"] = home(0, 5, 5, texts{"3 m1 pc 20 lost", "3 m2 tv 20 lost"})
	nine := eight()
	nine.Leases = append(nine.Leases, lease("254 m9 x 100 lost"))
	out["nine leases"] = nine
	many := home(0, 5, 5, nil)
	for i := range 254 {
		many.Leases = append(many.Leases, lease(fmt.Sprint(i+1, " m x 100 lost")))
	}
	out["many leases"] = many
	many.Leases = make([]impl.Lease, 5000)
	out["far too many leases"] = many
	return out
}

// lostRecords are houses with a lease that has Won without one of its records.
func lostRecords() map[string]impl.House {
	one := home(10, 5, 7, texts{"3 m1 pc 20 won", "9 m3 tv 50 won"})
	address, sign, back := "tv.home. 60 A 167772169", "tv.home. 60 DHCID @m3", "9.0.0.10.in-addr.arpa. 60 PTR tv.home."
	turned := func(turn func(l *impl.Lease)) impl.House {
		h := home(10, 5, 7, texts{"3 m1 pc 20 won", "9 m3 tv 50 won"})
		turn(&h.Leases[1])
		return h
	}
	otherBack := lacking(one, back)
	otherBack.Rev = with(otherBack.Rev, rec("9.0.0.10.in-addr.arpa. 60 PTR pc.home."))
	noBack := lacking(one, back)
	noBack.Rev = with(noBack.Rev, rec("8.0.0.10.in-addr.arpa. 60 PTR tv.home."))
	moved := lacking(one, back)
	moved.Zone = with(moved.Zone, rec("9.home. 60 PTR tv.home."))
	return map[string]impl.House{
		"no address":                lacking(one, address),
		"no sign":                   lacking(one, sign),
		"no name of the address":    lacking(one, back),
		"no records":                lacking(lacking(lacking(one, address), sign), back),
		"another address":           having(lacking(one, address), "tv.home. 60 A 167772163"),
		"another name's address":    having(lacking(one, address), "pc.home. 60 A 167772169"),
		"another client's sign":     having(lacking(one, sign), "tv.home. 60 DHCID @m1"),
		"a sign as a text":          withText(lacking(one, sign), 16),
		"an address as a text":      having(lacking(one, address), "tv.home. 60 TXT 167772169"),
		"to another name":           otherBack,
		"from another address":      noBack,
		"the name in another zone":  moved,
		"of another client":         turned(func(l *impl.Lease) { l.Client = []byte("m1") }),
		"of a longer client":        turned(func(l *impl.Lease) { l.Client = []byte("m3\x00") }),
		"of another host":           turned(func(l *impl.Lease) { l.Host = []byte("pc") }),
		"of another address":        turned(func(l *impl.Lease) { l.Ip++ }),
		"the sign of the first one": lacking(one, "pc.home. 60 DHCID @m1"),
	}
}

// withText has the sign of tv and m3, but as a record of another type.
func withText(h impl.House, ty int) impl.House {
	h.Zone = with(h.Zone, impl.Rr{Name: named("tv.home."), Type: ty, Ttl: 60, Text: signOf("m3", "tv")})
	return h
}

func badHouses() map[string]impl.House {
	out := map[string]impl.House{"nothing": {}}
	for _, now := range []int{-1, 1000001, -1000000, 1 << 32, math.MaxInt, math.MinInt} {
		h := home(0, 5, 5, nil)
		h.Now = now
		out[fmt.Sprint("Now ", now)] = h
	}
	for _, now := range []int{20, 21, 1000000} {
		h := home(0, 5, 5, texts{"3 m1 pc 20 won"})
		h.Now = now
		out[fmt.Sprint("a lease that is over at ", now)] = h
	}
	for _, l := range []map[string]impl.House{wrongZonesOfHouses(), wrongLeasesOfHouses(), lostRecords()} {
		for why, h := range l {
			out[why] = h
		}
	}
	return out
}

func TestHouseOk(t *testing.T) {
	for why, h := range goodHouses() {
		if !impl.HouseOk(h) || !houseMay(h) {
			t.Errorf("%s: HouseOk(%s) = %v", why, toldHouse(h), impl.HouseOk(h))
		}
	}
	for why, h := range badHouses() {
		if impl.HouseOk(h) || houseMay(h) {
			t.Errorf("%s: HouseOk(%s) = %v", why, toldHouse(h), impl.HouseOk(h))
		}
	}
}

func TestLeaseOf(t *testing.T) {
	for _, h := range goodHouses() {
		for ip := subnet - 2; ip < subnet+258; ip++ {
			i := slices.IndexFunc(h.Leases, func(l impl.Lease) bool { return l.Ip == ip })
			want := impl.Lease{}
			if i >= 0 {
				want = h.Leases[i]
			}
			if l, is := impl.LeaseOf(h, ip); is != (i >= 0) || toldLease(l) != toldLease(want) {
				t.Fatalf("LeaseOf %s, %d = %s, %v", toldHouse(h), ip, toldLease(l), is)
			}
		}
		for _, ip := range []int{0, 3, -1, -subnet - 3, 1<<32 + subnet + 3, math.MaxInt, math.MinInt} {
			if l, is := impl.LeaseOf(h, ip); is || toldLease(l) != toldLease(impl.Lease{}) {
				t.Fatalf("LeaseOf %d = %s, %v", ip, toldLease(l), is)
			}
		}
	}
}

func TestWrongHousesAreNotTaken(t *testing.T) {
	m, q := upsOf("+ no.home. 9 A 3"), query(named("pc.home."), 1)
	for why, h := range badHouses() {
		for _, ip := range []int{subnet + 3, subnet + 9, subnet + 77, subnet, -1} {
			l, is := impl.LeaseOf(h, ip)
			b, bound := impl.Bind(h, ip, []byte("m1"), []byte("pc"), 1000)
			r, released := impl.Release(h, ip, []byte("m1"))
			if is || toldLease(l) != toldLease(impl.Lease{}) || !isZeroHouse(b) || bound != 1 || !isZeroHouse(r) || released != 1 {
				t.Fatalf("%s: %s %v, %s %d, %s %d", why, toldLease(l), is, toldHouse(b), bound, toldHouse(r), released)
			}
		}
		for _, now := range []int{h.Now, 10, 15, 1000000, -1} {
			if x, n := impl.Tick(h, now); !isZeroHouse(x) || n != 0 {
				t.Fatalf("%s: Tick %d = %s, %d", why, now, toldHouse(x), n)
			}
		}
		for _, msg := range []impl.Msg{m, q, upsOf("any pc.home. ANY"), {}} {
			x, reply := impl.HouseUpdate(h, msg)
			if a := impl.HouseAnswer(h, msg); !isZeroHouse(x) || !isZeroMsg(reply) || !isZeroMsg(a) {
				t.Fatalf("%s: HouseUpdate = %s, %s; HouseAnswer = %s", why, toldHouse(x), toldMsg(reply), toldMsg(a))
			}
		}
	}
}

func TestBindOfAFreeName(t *testing.T) {
	others := texts{"tv.home. 9 A 3", "x.pc.home. 9 A 1", "xpc.home. 9 TXT a", "web.home. 9 CNAME pc.home.", "4.0.0.10.in-addr.arpa. 9 PTR y.", "0.0.10.in-addr.arpa. 9 TXT a"}
	expectBind(t, home(0, 5, 5, nil), "3 m1 pc 20", home(0, 6, 6, texts{"3 m1 pc 20 won"}), impl.LsWell)
	expectBind(t, home(7, 5, 9, nil, others...), "3 m1 pc 20", home(7, 6, 10, texts{"3 m1 pc 20 won"}, others...), impl.LsWell)
	two := texts{"2 m2 tv 30 won", "4 m2 box 30 lost"}
	for text, want := range map[string]texts{
		"1 m1 pc 20":  {"1 m1 pc 20 won", two[0], two[1]},
		"3 m1 pc 20":  {two[0], "3 m1 pc 20 won", two[1]},
		"5 m1 pc 20":  {two[0], two[1], "5 m1 pc 20 won"},
		"5 m2 pc 20":  {two[0], two[1], "5 m2 pc 20 won"},
		"5 m3 m2 20":  {two[0], two[1], "5 m3 m2 20 won"},
		"9 m3 home 9": {two[0], two[1], "9 m3 home 9 won"},
		"9 m3 box 9":  {two[0], two[1], "9 m3 box 9 won"},
	} {
		expectBind(t, home(0, 5, 5, two), text, home(0, 6, 6, want), impl.LsWell)
	}
}

func TestBindOfTheClientsName(t *testing.T) {
	expectBind(t, home(0, 5, 5, texts{"3 m1 pc 20 won"}), "5 m1 pc 30", home(0, 6, 6, texts{"3 m1 pc 20 won", "5 m1 pc 30 won"}), impl.LsWell)
	expectBind(t, home(0, 5, 5, texts{"3 m1 pc 20 won", "5 m1 pc 30 won"}), "1 m1 pc 30", home(0, 6, 6, texts{"1 m1 pc 30 won", "3 m1 pc 20 won", "5 m1 pc 30 won"}), impl.LsWell)
	have := texts{"pc.home. 9 DHCID @m1", "pc.home. 9 TXT a", "pc.home. 9 A 7"}
	want := home(0, 6, 6, texts{"3 m1 pc 20 won"}, "pc.home. 9 TXT a", "pc.home. 60 A 7")
	expectBind(t, home(0, 5, 5, nil, have...), "3 m1 pc 20", want, impl.LsWell)
	expectBind(t, home(0, 5, 5, nil, "pc.home. 9 DHCID @m1"), "3 m1 pc 20", home(0, 6, 6, texts{"3 m1 pc 20 won"}), impl.LsWell)
	expectBind(t, home(0, 5, 5, nil, "pc.home. 9 DHCID @m1", "pc.home. 0 A 167772163"), "3 m1 pc 20", home(0, 6, 6, texts{"3 m1 pc 20 won"}), impl.LsWell)
}

func TestBindOfANameThatIsNotToBeHad(t *testing.T) {
	for _, have := range []texts{
		{"pc.home. 9 DHCID @m2"}, {"pc.home. 9 DHCID @m1", "pc.home. 9 DHCID @m2"}, {"pc.home. 9 DHCID x", "pc.home. 9 A 167772163"},
		{"pc.home. 9 A 3"}, {"pc.home. 60 A 167772163"}, {"pc.home. 9 TXT a"}, {"pc.home. 9 TXT @m1"}, {"pc.home. 9 CNAME tv.home."}, {"pc.home. 9 NS ns."}, {"pc.home. 9 PTR a."},
	} {
		have = append(have, "3.0.0.10.in-addr.arpa. 9 PTR pc.home.", "3.0.0.10.in-addr.arpa. 9 TXT a")
		expectBind(t, home(0, 5, 5, nil, have...), "3 m1 pc 20", home(0, 5, 5, texts{"3 m1 pc 20 lost"}, have...), impl.LsName)
		leases := texts{"2 m1 tv 20 won", "9 m2 box 20 won"}
		want := texts{leases[0], "3 m1 pc 20 lost", leases[1]}
		expectBind(t, home(0, 5, 5, leases, have...), "3 m1 pc 20", home(0, 5, 5, want, have...), impl.LsName)
	}
	expectBind(t, home(0, 5, 5, texts{"3 m1 pc 20 won"}), "4 m2 pc 30", home(0, 5, 5, texts{"3 m1 pc 20 won", "4 m2 pc 30 lost"}), impl.LsName)
	expectBind(t, home(0, 5, 5, texts{"3 m1 pc 20 won", "4 m2 pc 20 won"}), "5 m1 pc 30", home(0, 5, 5, texts{"3 m1 pc 20 won", "4 m2 pc 20 won", "5 m1 pc 30 lost"}), impl.LsName)
}

func TestBindAgain(t *testing.T) {
	for _, c := range []struct {
		leases texts
		bind   string
		bumps  int
		want   texts
		code   int
	}{
		{texts{"3 m1 pc 20 won"}, "3 m1 pc 20", 2, texts{"3 m1 pc 20 won"}, impl.LsWell},
		{texts{"3 m1 pc 20 won"}, "3 m1 tv 20", 2, texts{"3 m1 tv 20 won"}, impl.LsWell},
		{texts{"3 m1 pc 20 won"}, "3 m1 pc 99", 2, texts{"3 m1 pc 99 won"}, impl.LsWell},
		{texts{"3 m1 pc 20 won"}, "3 m1 tv 11", 2, texts{"3 m1 tv 11 won"}, impl.LsWell},
		{texts{"3 m1 pc 20 won", "4 m2 tv 20 won"}, "3 m1 tv 30", 1, texts{"3 m1 tv 30 lost", "4 m2 tv 20 won"}, impl.LsName},
		{texts{"3 m1 pc 20 lost"}, "3 m1 pc 20", 1, texts{"3 m1 pc 20 won"}, impl.LsWell},
		{texts{"3 m1 pc 20 lost"}, "3 m1 tv 30", 1, texts{"3 m1 tv 30 won"}, impl.LsWell},
		{texts{"3 m1 pc 20 lost", "4 m2 pc 20 won"}, "3 m1 pc 30", 0, texts{"3 m1 pc 30 lost", "4 m2 pc 20 won"}, impl.LsName},
		{texts{"3 m1 pc 20 lost", "4 m2 pc 20 won"}, "3 m1 tv 30", 1, texts{"3 m1 tv 30 won", "4 m2 pc 20 won"}, impl.LsWell},
		{texts{"3 m1 pc 20 won", "5 m1 pc 30 won"}, "3 m1 pc 40", 2, texts{"3 m1 pc 40 won", "5 m1 pc 30 won"}, impl.LsWell},
		{texts{"3 m1 pc 20 won", "5 m1 pc 30 won"}, "5 m1 tv 40", 2, texts{"3 m1 pc 20 won", "5 m1 tv 40 won"}, impl.LsWell},
		{texts{"3 m1 pc 20 won", "5 m1 tv 30 won"}, "5 m1 pc 40", 2, texts{"3 m1 pc 20 won", "5 m1 pc 40 won"}, impl.LsWell},
		{texts{"3 m1 pc 20 won", "4 m2 pc 20 won"}, "3 m1 pc 40", 1, texts{"3 m1 pc 40 lost", "4 m2 pc 20 won"}, impl.LsName},
	} {
		others := texts{"old.home. 9 A 3", "x.pc.home. 9 TXT a", "4.0.0.10.in-addr.arpa. 9 TXT a"}
		expectBind(t, home(10, 5, 7, c.leases, others...), c.bind, home(10, 5+c.bumps, 7+c.bumps, c.want, others...), c.code)
	}
}

// A name that has something else behind its elder lease is nobody's then.
func TestBindAgainOfANameWithOtherRecords(t *testing.T) {
	more := texts{"pc.home. 9 TXT a", "pc.home. 60 A 7", "3.0.0.10.in-addr.arpa. 9 TXT b"}
	expectBind(t, home(0, 5, 5, texts{"3 m1 pc 20 won"}, more...), "3 m1 pc 20", home(0, 6, 6, texts{"3 m1 pc 20 lost"}, more...), impl.LsName)
	two, turned := texts{"3 m1 pc 20 won", "5 m1 pc 30 won"}, texts{"3 m1 pc 99 won", "5 m1 pc 30 won"}
	expectBind(t, home(0, 5, 5, two, more...), "3 m1 pc 99", home(0, 7, 7, turned, more[:2]...), impl.LsWell)
	both, left := texts{"3 m1 pc 20 won", "5 m1 pc 30 lost"}, texts{"3 m1 pc 99 lost", "5 m1 pc 30 lost"}
	expectBind(t, home(0, 5, 5, both, more...), "3 m1 pc 99", home(0, 6, 6, left, more...), impl.LsName)
	expectBind(t, home(0, 5, 5, texts{"3 m1 pc 20 won"}, more...), "3 m1 tv 20", home(0, 7, 7, texts{"3 m1 tv 20 won"}, more[:2]...), impl.LsWell)
}

func TestBindDropsWhatWasSaidOfTheAddress(t *testing.T) {
	stay := texts{"4.0.0.10.in-addr.arpa. 9 PTR y.", "33.0.0.10.in-addr.arpa. 9 TXT z", "0.0.10.in-addr.arpa. 9 NS ns.home.", "0.0.10.in-addr.arpa. 9 PTR pc.home."}
	for _, said := range []texts{
		{"3.0.0.10.in-addr.arpa. 9 PTR pc.home."}, {"3.0.0.10.in-addr.arpa. 9 PTR a.", "3.0.0.10.in-addr.arpa. 9 PTR b."}, {"3.0.0.10.in-addr.arpa. 9 CNAME a."},
		{"3.0.0.10.in-addr.arpa. 9 TXT a", "3.0.0.10.in-addr.arpa. 9 A 3", "3.0.0.10.in-addr.arpa. 9 NS a.", "3.0.0.10.in-addr.arpa. 9 DHCID a"},
	} {
		h := home(0, 5, 5, nil, append(said, stay...)...)
		want := home(0, 6, 6, texts{"3 m1 pc 20 won"}, stay...)
		expectBind(t, h, "3 m1 pc 20", want, impl.LsWell)
		expectRelease(t, want, subnet+3, "m1", home(0, 7, 7, nil, stay...), impl.LsWell)
	}
}

func TestBindOfWhatIsTaken(t *testing.T) {
	h := base()
	for _, text := range []string{"3 m2 tv 30", "3 m2 pc 20", "4 m1 pc 30", "9 m pc 20", "9 m33 tv 50", "9 M3 tv 50", "12 m3 new 99", "5 m1x pc 40"} {
		expectBind(t, h, text, h, impl.LsTaken)
	}
}

func TestBindOfAsManyLeasesAsMayBe(t *testing.T) {
	h := eight()
	for _, text := range []string{"1 m0 new 100", "11 m1 new 100", "254 m9 new 100", "25 m9 h0 100"} {
		expectBind(t, h, text, h, impl.LsFull)
	}
	expectBind(t, h, "10 m9 new 100", h, impl.LsTaken)
	got, code := bind(h, lease("10 m0 new 100"))
	if l, is := impl.LeaseOf(got, subnet+10); code != impl.LsWell || !is || toldLease(l) != toldLease(lease("10 m0 new 100 won")) || len(got.Leases) != 8 || !impl.HouseOk(got) {
		t.Error("of an address that has a lease:", code, toldHouse(got))
	}
	h.Leases = h.Leases[:7]
	got, code = bind(h, lease("254 m9 new 100"))
	if code != impl.LsWell || len(got.Leases) != 8 || !impl.HouseOk(got) {
		t.Error("the eighth one:", code, toldHouse(got))
	}
	again, code := bind(got, lease("253 m9 new 100"))
	expectHouse(t, "the ninth one", again, code, got, impl.LsFull)
	left, code := impl.Release(got, subnet+254, []byte("m9"))
	_, bound := bind(left, lease("253 m9 new 100"))
	if code != impl.LsWell || bound != impl.LsWell {
		t.Error("behind Release:", code, bound)
	}
}

func TestLimitsOfBind(t *testing.T) {
	for _, now := range []int{0, 1, 10, 999999, 1000000} {
		h := home(now, 5, 5, nil)
		for until, code := range map[int]int{
			now - 1: impl.LsForm, now: impl.LsForm, now + 1: impl.LsWell, now + 2: impl.LsWell, 1999999: impl.LsWell, 2000000: impl.LsWell, 2000001: impl.LsForm,
			-1: impl.LsForm, math.MaxInt: impl.LsForm, math.MinInt: impl.LsForm,
		} {
			checkBind(t, h, impl.Lease{Ip: subnet + 3, Client: []byte("m1"), Host: []byte("pc"), Until: until}, code)
		}
	}
	h := home(10, 5, 5, texts{"2 m2 tv 20 won"})
	for ip := subnet - 2; ip < subnet+258; ip++ {
		code := impl.LsForm
		if ip > subnet && ip < subnet+255 {
			code = impl.LsWell
		}
		if ip != subnet+2 {
			checkBind(t, h, impl.Lease{Ip: ip, Client: []byte("m1"), Host: []byte("pc"), Until: 20}, code)
		}
	}
	for size := range 20 {
		code := impl.LsForm
		if size >= 1 && size <= 16 {
			code = impl.LsWell
		}
		checkBind(t, h, impl.Lease{Ip: subnet + 3, Client: mixedText(size), Host: []byte("pc"), Until: 20}, code)
		code = impl.LsForm
		if size >= 1 && size <= 15 {
			code = impl.LsWell
		}
		checkBind(t, h, impl.Lease{Ip: subnet + 3, Client: []byte{0}, Host: bytes.Repeat([]byte{'-'}, size), Until: 20}, code)
	}
}

// checkBind holds Bind to the second one, and its code to what it must be.
func checkBind(t *testing.T, h impl.House, l impl.Lease, code int) impl.House {
	t.Helper()
	got, c := bind(h, l)
	want, wantCode := boundIn(h, l)
	expectHouse(t, "Bind "+toldLease(l), got, c, want, wantCode)
	if code >= 0 && c != code || !impl.HouseOk(got) {
		t.Fatalf("Bind %s to %s = %d, want %d", toldLease(l), toldHouse(h), c, code)
	}
	return got
}

func TestBindOfWhatMayNotBe(t *testing.T) {
	for _, h := range []impl.House{base(), eight(), home(10, 5, 5, nil)} {
		for why, turn := range wrongLeases() {
			for _, text := range []string{"9 m3 tv 50", "9 m8 tv 50", "3 m2 pc 50", "77 m1 pc 50", "77 m7 new 50"} {
				l := lease(text)
				turn(&l)
				got, code := bind(h, l)
				expectHouse(t, "Bind "+text+" with "+why, got, code, h, impl.LsForm)
			}
		}
	}
}

func TestBindToAFullZone(t *testing.T) {
	for _, c := range []struct {
		zone, rev int
		code      int
	}{
		{1, 1, impl.LsWell}, {57, 58, impl.LsWell}, {58, 59, impl.LsWell}, {58, 60, impl.LsFull}, {59, 59, impl.LsFull}, {60, 59, impl.LsFull}, {59, 1, impl.LsFull}, {60, 1, impl.LsFull}, {60, 60, impl.LsFull}, {1, 60, impl.LsFull},
	} {
		h := full(c.zone, c.rev)
		got := checkBind(t, h, lease("3 m1 pc 20"), c.code)
		if c.code == impl.LsFull && toldHouse(got) != toldHouse(h) || c.code == impl.LsWell && len(got.Zone.Rrs) != c.zone+2 {
			t.Errorf("%d, %d: %s", c.zone, c.rev, toldHouse(got))
		}
	}
	one := having(full(59, 1), "pc.home. 9 DHCID @m1")
	expectFull(t, one, "3 m1 pc 20")
	checkBind(t, having(full(58, 1), "pc.home. 9 DHCID @m1"), lease("3 m1 pc 20"), impl.LsWell)
	checkBind(t, having(having(full(58, 1), "pc.home. 9 DHCID @m1"), "pc.home. 9 A 167772163"), lease("3 m1 pc 20"), impl.LsWell)
	for _, back := range []texts{{"3.0.0.10.in-addr.arpa. 9 PTR a."}, {"3.0.0.10.in-addr.arpa. 9 TXT a", "3.0.0.10.in-addr.arpa. 9 TXT b"}, {"3.0.0.10.in-addr.arpa. 9 CNAME a."}} {
		h := full(1, 60-len(back))
		for _, text := range back {
			h.Rev = with(h.Rev, rec(text))
		}
		checkBind(t, h, lease("3 m1 pc 20"), impl.LsWell)
		expectFull(t, h, "4 m1 pc 20")
	}
}

func expectFull(t *testing.T, h impl.House, text string) {
	t.Helper()
	expectBind(t, h, text, h, impl.LsFull)
}

func TestBindAgainInAFullZone(t *testing.T) {
	for _, text := range []string{"3 m1 pc 99", "3 m1 tv 20"} {
		checkBind(t, full(60, 60, "3 m1 pc 20 won"), lease(text), impl.LsWell)
	}
	shared := full(60, 60, "3 m1 pc 20 won", "5 m1 pc 30 won")
	checkBind(t, shared, lease("3 m1 pc 99"), impl.LsWell)
	expectFull(t, shared, "3 m1 tv 20")
	expectFull(t, shared, "5 m1 tv 20")
	expectFull(t, shared, "7 m1 pc 20")
	checkBind(t, shared, lease("7 m2 pc 20"), impl.LsName)
	lost := full(59, 1, "3 m1 pc 20 lost")
	expectFull(t, lost, "3 m1 pc 20")
	expectFull(t, lost, "3 m1 tv 99")
	expectFull(t, full(1, 60, "3 m1 pc 20 lost"), "3 m1 pc 20")
	checkBind(t, full(58, 59, "3 m1 pc 20 lost"), lease("3 m1 pc 20"), impl.LsWell)
}

func TestSerialsGoRound(t *testing.T) {
	last := 1<<32 - 1
	won := texts{"3 m1 pc 20 won"}
	expectBind(t, home(0, last, 5, nil), "3 m1 pc 20", home(0, 0, 6, won), impl.LsWell)
	expectBind(t, home(0, 5, last, nil), "3 m1 pc 20", home(0, 6, 0, won), impl.LsWell)
	expectBind(t, home(0, last-1, last, won), "3 m1 pc 20", home(0, 0, 1, won), impl.LsWell)
	expectRelease(t, home(0, last, last, won), subnet+3, "m1", home(0, 0, 0, nil), impl.LsWell)
	expectTick(t, home(0, last, last-1, texts{"3 m1 pc 20 won", "4 m2 tv 20 won"}), 20, home(20, 1, 0, nil), 2)
}

func TestRelease(t *testing.T) {
	more := texts{"pc.home. 9 TXT a", "pc.home. 60 A 7", "x.pc.home. 9 A 1", "3.0.0.10.in-addr.arpa. 60 PTR tv.home.", "3.0.0.10.in-addr.arpa. 9 TXT b", "4.0.0.10.in-addr.arpa. 9 PTR pc.home."}
	expectRelease(t, home(0, 5, 7, texts{"3 m1 pc 20 won"}), subnet+3, "m1", home(0, 6, 8, nil), impl.LsWell)
	expectRelease(t, home(0, 5, 7, texts{"3 m1 pc 20 won"}, more...), subnet+3, "m1", home(0, 6, 8, nil, more...), impl.LsWell)
	expectRelease(t, home(0, 5, 7, texts{"3 m1 pc 20 lost"}, more...), subnet+3, "m1", home(0, 5, 7, nil, more...), impl.LsWell)
	expectRelease(t, home(0, 5, 7, texts{"3 m1 pc 20 lost"}, "pc.home. 60 A 167772163", "pc.home. 60 DHCID @m1", "3.0.0.10.in-addr.arpa. 60 PTR pc.home."), subnet+3, "m1",
		home(0, 5, 7, nil, "pc.home. 60 A 167772163", "pc.home. 60 DHCID @m1", "3.0.0.10.in-addr.arpa. 60 PTR pc.home."), impl.LsWell)
	three := texts{"2 m2 tv 20 won", "3 m1 pc 20 won", "9 m1 tv 30 lost"}
	expectRelease(t, home(0, 5, 7, three, more...), subnet+2, "m2", home(0, 6, 8, texts{three[1], three[2]}, more...), impl.LsWell)
	expectRelease(t, home(0, 5, 7, three, more...), subnet+3, "m1", home(0, 6, 8, texts{three[0], three[2]}, more...), impl.LsWell)
	expectRelease(t, home(0, 5, 7, three, more...), subnet+9, "m1", home(0, 5, 7, texts{three[0], three[1]}, more...), impl.LsWell)
}

func TestReleaseByTimesOfRecords(t *testing.T) {
	h := home(0, 5, 5, texts{"3 m1 pc 20 won"})
	for i, r := range h.Zone.Rrs {
		if r.Type != 6 {
			h.Zone.Rrs[i].Ttl = 7
		}
	}
	h.Rev.Rrs[1].Ttl = 100000
	expectRelease(t, h, subnet+3, "m1", home(0, 6, 6, nil), impl.LsWell)
}

func TestReleaseOfNone(t *testing.T) {
	for _, h := range []impl.House{base(), eight(), home(0, 5, 5, nil)} {
		for _, ip := range []int{subnet + 3, subnet + 4, subnet + 9, subnet + 10, subnet + 77, subnet, subnet + 255, 3, 0, -1, math.MaxInt, math.MinInt} {
			for _, client := range []string{"", "m", "m11", "M1", "m7", "pc", "m1\x00", strings.Repeat("m", 17), strings.Repeat("m", 5000)} {
				got, code := impl.Release(h, ip, []byte(client))
				expectHouse(t, fmt.Sprint("Release ", ip, client), got, code, h, impl.LsNone)
			}
		}
	}
	h := base()
	for ip, client := range map[int]string{3: "m2", 4: "m1", 5: "m3", 9: "m1", 12: "m2", 6: "m1", 255: "m1", 0: "m1"} {
		expectRelease(t, h, subnet+ip, client, h, impl.LsNone)
	}
}

func TestTick(t *testing.T) {
	h := base()
	expectTick(t, h, 10, h, 0)
	later := base()
	later.Now = 19
	expectTick(t, h, 19, later, 0)
	expectTick(t, home(0, 5, 5, nil), 1000000, home(1000000, 5, 5, nil), 0)
	expectTick(t, home(1000000, 5, 5, texts{"3 m1 pc 1000001 won"}), 1000000, home(1000000, 5, 5, texts{"3 m1 pc 1000001 won"}), 0)
	l := texts{"3 m1 pc 20 won", "4 m2 pc 30 lost", "5 m1 pc 40 won", "9 m3 tv 20 won", "12 m1 pc 20 lost"}
	for _, c := range []struct {
		now   int
		bumps int
		left  texts
	}{
		{19, 0, l}, {20, 2, texts{l[1], l[2]}}, {29, 2, texts{l[1], l[2]}}, {30, 2, texts{l[2]}}, {39, 2, texts{l[2]}}, {40, 3, nil}, {1000000, 3, nil},
	} {
		for _, now := range []int{0, 10, 19} {
			expectTick(t, home(now, 5, 7, l, "pc.home. 9 TXT a"), c.now, home(c.now, 5+c.bumps, 7+c.bumps, c.left, "pc.home. 9 TXT a"), 5-len(c.left))
		}
	}
}

func TestTickOfAllAtOnce(t *testing.T) {
	got, n := impl.Tick(eight(), 107)
	expectHouse(t, "Tick", got, n, home(107, 9, 11, nil), 8)
	got, n = impl.Tick(eight(), 99)
	want := eight()
	want.Now = 99
	expectHouse(t, "Tick", got, n, want, 0)
	all := full(60, 60, "1 m pc 20 won", "2 m pc 20 won", "3 m pc 20 won", "4 m pc 20 won", "5 m pc 20 won", "6 m pc 20 won", "7 m pc 20 won", "8 m pc 20 won")
	got, n = impl.Tick(all, 20)
	if n != 8 || len(got.Leases) != 0 || len(got.Zone.Rrs) != 51 || len(got.Rev.Rrs) != 52 || impl.Serial(got.Zone) != 13 || impl.Serial(got.Rev) != 13 {
		t.Error(n, toldHouse(got))
	}
}

func TestTickToNoMoment(t *testing.T) {
	for _, h := range []impl.House{base(), eight(), home(10, 5, 5, nil)} {
		for _, now := range []int{9, 0, -1, 1000001, 2000000, 1 << 32, math.MaxInt, math.MinInt} {
			if got, n := impl.Tick(h, now); !isZeroHouse(got) || n != 0 {
				t.Errorf("Tick %d = %s, %d", now, toldHouse(got), n)
			}
		}
	}
	if got, n := impl.Tick(home(0, 5, 5, nil), -1); !isZeroHouse(got) || n != 0 {
		t.Errorf("Tick -1 = %s, %d", toldHouse(got), n)
	}
	if got, n := impl.Tick(home(1000000, 5, 5, nil), 999999); !isZeroHouse(got) || n != 0 {
		t.Errorf("Tick back = %s, %d", toldHouse(got), n)
	}
}

func TestTwoLeasesOfOneClientShareTheSign(t *testing.T) {
	both := texts{"3 m1 pc 20 won", "5 m1 pc 40 won"}
	for _, order := range [][2]int{{0, 1}, {1, 0}} {
		h := home(0, 5, 5, both)
		first, second := lease(both[order[0]]), lease(both[order[1]])
		one := home(0, 6, 6, texts{both[order[1]]})
		expectRelease(t, h, first.Ip, "m1", one, impl.LsWell)
		if free, mine := impl.Owner(one.Zone, named("pc.home."), signOf("m1", "pc")); free || !mine {
			t.Error("behind the first one:", free, mine)
		}
		expectRelease(t, one, second.Ip, "m1", home(0, 7, 7, nil), impl.LsWell)
	}
	expectTick(t, home(0, 5, 5, both), 20, home(20, 6, 6, both[1:]), 1)
	expectTick(t, home(0, 5, 5, both), 40, home(40, 7, 7, nil), 2)
	three := texts{"2 m1 pc 20 won", "3 m1 pc 20 won", "4 m1 pc 40 won"}
	expectTick(t, home(0, 5, 5, three), 20, home(20, 7, 7, three[2:]), 2)
	expectRelease(t, home(0, 5, 5, three), subnet+3, "m1", home(0, 6, 6, texts{three[0], three[2]}), impl.LsWell)
}

// Neither another host of the client nor another client of the host keeps the sign.
func TestLeasesThatShareAHostOrAClientAlone(t *testing.T) {
	for _, other := range []string{"5 m1 tv 40 won", "5 m2 pc 40 lost", "5 m2 pc 40 won", "5 m1 pc 40 lost", "5 m1 pc1 40 won", "5 m1p c 40 won", "5 m c 40 won"} {
		expectRelease(t, home(0, 5, 5, texts{"3 m1 pc 20 won", other}), subnet+3, "m1", home(0, 6, 6, texts{other}), impl.LsWell)
		expectTick(t, home(0, 5, 5, texts{"3 m1 pc 20 won", other}), 20, home(20, 6, 6, texts{other}), 1)
	}
}

func TestTwoClientsWantOneHost(t *testing.T) {
	h, _ := impl.HouseNew(5)
	h, _ = bind(h, lease("3 m1 pc 20"))
	h, code := bind(h, lease("4 m2 pc 30"))
	expectHouse(t, "the second one", h, code, home(0, 6, 6, texts{"3 m1 pc 20 won", "4 m2 pc 30 lost"}), impl.LsName)
	expectRelease(t, h, subnet+4, "m2", home(0, 6, 6, texts{"3 m1 pc 20 won"}), impl.LsWell)
	h, code = impl.Release(h, subnet+3, []byte("m1"))
	expectHouse(t, "Release of the first one", h, code, home(0, 7, 7, texts{"4 m2 pc 30 lost"}), impl.LsWell)
	expectRelease(t, h, subnet+4, "m2", home(0, 7, 7, nil), impl.LsWell)
	h, code = bind(h, lease("4 m2 pc 30"))
	expectHouse(t, "the second one again", h, code, home(0, 8, 8, texts{"4 m2 pc 30 won"}), impl.LsWell)
	h, code = bind(h, lease("3 m1 pc 20"))
	expectHouse(t, "the first one again", h, code, home(0, 8, 8, texts{"3 m1 pc 20 lost", "4 m2 pc 30 won"}), impl.LsName)
}

func TestALostLeaseBesideAWonOneOfTheSame(t *testing.T) {
	pair := texts{"3 m1 pc 20 lost", "5 m1 pc 40 won"}
	expectRelease(t, home(0, 5, 5, pair), subnet+3, "m1", home(0, 5, 5, pair[1:]), impl.LsWell)
	expectRelease(t, home(0, 5, 5, pair), subnet+5, "m1", home(0, 6, 6, pair[:1]), impl.LsWell)
	expectTick(t, home(0, 5, 5, pair), 20, home(20, 5, 5, pair[1:]), 1)
	expectTick(t, home(0, 5, 5, pair), 40, home(40, 6, 6, nil), 2)
	expectBind(t, home(0, 5, 5, pair), "3 m1 pc 30", home(0, 6, 6, texts{"3 m1 pc 30 won", pair[1]}), impl.LsWell)
	expectBind(t, home(0, 5, 5, pair), "5 m1 pc 30", home(0, 7, 7, texts{pair[0], "5 m1 pc 30 won"}), impl.LsWell)
	expectBind(t, home(0, 5, 5, pair), "4 m2 pc 30", home(0, 5, 5, texts{pair[0], "4 m2 pc 30 lost", pair[1]}), impl.LsName)
}

func TestTheFirstReasonOfBindCounts(t *testing.T) {
	h := eight()
	for text, code := range map[string]int{
		"10 m9 h0 10":   impl.LsForm,  // over, and taken
		"10 m9 H0 100":  impl.LsForm,  // no label, and taken
		"255 m9 h0 100": impl.LsForm,  // no address, and too many leases
		"77 m9 h0 10":   impl.LsForm,  // over, and too many leases
		"10 m9 h0 100":  impl.LsTaken, // taken, and too many leases
		"12 m9 h0 100":  impl.LsTaken, // taken, and somebody's name
		"77 m9 h0 100":  impl.LsFull,  // too many leases, and somebody's name
	} {
		expectBind(t, h, text, h, code)
	}
	crowd := full(60, 60, "3 m1 pc 20 won", "4 m2 tv 20 lost")
	expectBind(t, crowd, "3 m2 new 20", crowd, impl.LsTaken)
	checkBind(t, crowd, lease("4 m2 pc 20"), impl.LsName)
	expectFull(t, crowd, "4 m2 new 20")
}

// expectHouseUpdate holds the house and the whole reply to what they must be.
func expectHouseUpdate(t *testing.T, h impl.House, m impl.Msg, want impl.House, code int) {
	t.Helper()
	got, reply := impl.HouseUpdate(h, m)
	wantReply := impl.Msg{Id: m.Id, Reply: true, Op: 5, Code: code, Qs: m.Qs}
	expectHouse(t, "HouseUpdate by "+toldMsg(m), got, reply.Code, want, code)
	if toldMsg(reply) != toldMsg(wantReply) || !impl.HouseOk(got) {
		t.Fatalf("HouseUpdate by %s = %s", toldMsg(m), toldMsg(reply))
	}
}

func TestHouseUpdate(t *testing.T) {
	for _, c := range []struct{ ups, gone, come texts }{
		{texts{"+ no.home. 9 A 3"}, nil, texts{"no.home. 9 A 3"}},
		{texts{"any old.home. ANY", "+ x.pc.home. 9 A 3"}, texts{"old.home. 9 A 3", "old.home. 9 TXT b"}, texts{"x.pc.home. 9 A 3"}},
		{texts{"- web.home. 0 CNAME pc.home.", "+ home. 9 NS pc.home."}, texts{"web.home. 9 CNAME pc.home."}, texts{"home. 9 NS pc.home."}},
		{texts{"+ p.home. 9 A 3", "+ pcc.home. 9 A 3", "+ -pc.home. 9 PTR pc.home."}, nil, texts{"p.home. 9 A 3", "pcc.home. 9 A 3", "-pc.home. 9 PTR pc.home."}},
		{texts{"any home. ANY", "+ home. 9 TXT a"}, nil, texts{"home. 9 TXT a"}},
		{texts{"any low.home. A"}, texts{"low.home. 9 A 8"}, nil},
	} {
		want := base()
		want.Zone = withSerial(without(want.Zone, c.gone, c.come), 6)
		m := upsOf(c.ups...)
		expectHouseUpdate(t, base(), m, want, impl.RcOk)
		m.Pres = wishes("any pc.home. DHCID", "any pc.home. A", "none pc.home. CNAME", "any tv.home. ANY")
		expectHouseUpdate(t, base(), m, want, impl.RcOk)
	}
	soas := base()
	soas.Zone = without(soas.Zone, texts{"home. 60 SOA home. 5 60"}, texts{"home. 1 SOA a. 99 1"})
	expectHouseUpdate(t, base(), upsOf("+ home. 1 SOA a. 99 1"), soas, impl.RcOk)
	expectHouseUpdate(t, base(), upsOf(), base(), impl.RcOk)
	expectHouseUpdate(t, base(), upsOf("+ old.home. 9 A 3", "any no.home. ANY"), base(), impl.RcOk)
}

// The names of leases that lost may be turned by anybody.
func TestHouseUpdateOfANameThatWasLost(t *testing.T) {
	l := texts{"3 m1 pc 20 lost", "4 m2 tv 20 won"}
	h := home(0, 5, 7, l, "pc.home. 9 A 3")
	expectHouseUpdate(t, h, upsOf("any pc.home. ANY"), home(0, 6, 7, l), impl.RcOk)
	expectHouseUpdate(t, h, upsOf("+ pc.home. 9 TXT a"), home(0, 6, 7, l, "pc.home. 9 A 3", "pc.home. 9 TXT a"), impl.RcOk)
	expectHouseUpdate(t, h, upsOf("+ pc.home. 9 TXT a", "+ tv.home. 9 TXT a"), h, impl.RcRefused)
}

func TestHouseUpdateOfANameThatWasWon(t *testing.T) {
	h := base()
	for _, name := range []string{"pc.home.", "tv.home."} {
		for _, up := range []string{
			"+ NAME 9 A 3", "+ NAME 60 A 167772163", "+ NAME 9 TXT b", "+ NAME 9 CNAME a.", "+ NAME 9 SOA home. 9 9", "- NAME 0 A 167772163", "- NAME 0 A 9", "- NAME 0 DHCID x",
			"any NAME ANY", "any NAME A", "any NAME DHCID", "any NAME NS", "none NAME ANY", "none NAME CNAME",
		} {
			up = strings.Replace(up, "NAME", name, 1)
			for _, ups := range []texts{{up}, {"+ no.home. 9 A 3", up}, {up, "any old.home. ANY"}, {"+ com. 9 A 3", up}, {"none old.home. A", up}} {
				m := upsOf(ups...)
				expectHouseUpdate(t, h, m, h, impl.RcRefused)
				m.Pres = wishes("any no.home. ANY")
				expectHouseUpdate(t, h, m, h, impl.RcRefused)
				m.Qs = update(named("com.")).Qs
				expectHouseUpdate(t, h, m, h, impl.RcRefused)
				m.Qs = update(named(backOrigin)).Qs
				expectHouseUpdate(t, h, m, h, impl.RcRefused)
			}
		}
	}
	all := upsOf(slices.Repeat(texts{"+ no.home. 9 A 3"}, 11)...)
	all.Ups = append(all.Ups, wish("any tv.home. TXT"))
	expectHouseUpdate(t, h, all, h, impl.RcRefused)
}

func TestHouseUpdateThatFailsByItself(t *testing.T) {
	h := base()
	m := upsOf("+ no.home. 9 A 3")
	for _, name := range []string{".", "com.", "pc.home.", backOrigin, "3.0.0.10.in-addr.arpa."} {
		m.Qs = update(named(name)).Qs
		expectHouseUpdate(t, h, m, h, impl.RcNotAuth)
	}
	for pre, code := range map[string]int{
		"any no.home. ANY": impl.RcName, "none pc.home. ANY": impl.RcYxName, "none pc.home. DHCID": impl.RcYxSet, "any tv.home. TXT": impl.RcNxSet,
		"+ pc.home. 9 TXT a": impl.RcForm, "any 3.0.0.10.in-addr.arpa. PTR": impl.RcNotZone,
	} {
		m := upsOf("+ no.home. 9 A 3")
		m.Pres = wishes(pre)
		expectHouseUpdate(t, h, m, h, code)
	}
	for up, code := range map[string]int{
		"none no.home. A": impl.RcForm, "+ com. 9 A 3": impl.RcNotZone, "any 3.0.0.10.in-addr.arpa. ANY": impl.RcNotZone, "any pc. ANY": impl.RcNotZone,
	} {
		expectHouseUpdate(t, h, upsOf("+ no.home. 9 A 3", up), h, code)
	}
	crowd := full(60, 1, "3 m1 pc 20 won")
	expectHouseUpdate(t, crowd, upsOf("+ no.home. 9 A 3"), crowd, impl.RcFail)
}

// noUpdates and noQueries are messages that a house does not take.
func noUpdates() []impl.Msg {
	m := upsOf("+ no.home. 9 A 3")
	return append(badMsgs(), turned(m, func(m *impl.Msg) { m.Reply = true }), query(named("home."), 6), query(named("pc.home."), 1), turned(upsOf("any pc.home. ANY"), func(m *impl.Msg) { m.Reply = true }))
}

func noQueries() []impl.Msg {
	reply := func(m *impl.Msg) { m.Reply = true }
	return append(badMsgs(), turned(query(named("pc.home."), 1), reply), turned(query(named("3.0.0.10.in-addr.arpa."), 12), reply), update(named("home.")), update(named(backOrigin)))
}

func TestMessagesThatAreNotTaken(t *testing.T) {
	small := home(10, 5, 7, texts{"3 m1 pc 20 won"})
	for _, m := range noUpdates() {
		if h, reply := impl.HouseUpdate(small, m); !isZeroHouse(h) || !isZeroMsg(reply) {
			t.Fatalf("HouseUpdate by %s = %s, %s", toldMsg(m), toldHouse(h), toldMsg(reply))
		}
	}
	for _, m := range noQueries() {
		if a := impl.HouseAnswer(small, m); !isZeroMsg(a) {
			t.Fatalf("HouseAnswer of %s = %s", toldMsg(m), toldMsg(a))
		}
	}
}

func TestHouseAnswer(t *testing.T) {
	h := home(10, 5, 7, texts{"3 m1 pc 20 won", "4 m2 pc 30 lost"}, "web.home. 9 CNAME pc.home.", "back.home. 9 CNAME 3.0.0.10.in-addr.arpa.", "7.0.0.10.in-addr.arpa. 9 CNAME web.home.", "8.0.0.10.in-addr.arpa. 9 NS ns.home.", "sub.home. 9 NS pc.home.")
	soas, backSoas := texts{"home. 60 SOA home. 5 60"}, texts{backOrigin + " 60 SOA " + backOrigin + " 7 60"}
	address, web := "pc.home. 60 A 167772163", "web.home. 9 CNAME pc.home."
	for _, c := range []struct {
		name                 string
		ty, code             int
		auth                 bool
		answers, auths, more texts
	}{
		{"pc.home.", 1, 0, true, texts{address}, nil, nil},
		{"pc.home.", 16, 0, true, nil, soas, nil},
		{"no.home.", 1, 3, true, nil, soas, nil},
		{"home.", 6, 0, true, soas, nil, nil},
		{"web.home.", 1, 0, true, texts{web, address}, nil, nil},
		{"x.sub.home.", 1, 0, false, nil, texts{"sub.home. 9 NS pc.home."}, texts{address}},
		{"back.home.", 12, 0, true, texts{"back.home. 9 CNAME 3.0.0.10.in-addr.arpa."}, nil, nil},
		{"3.0.0.10.in-addr.arpa.", 12, 0, true, texts{"3.0.0.10.in-addr.arpa. 60 PTR pc.home."}, nil, nil},
		{"3.0.0.10.in-addr.arpa.", 1, 0, true, nil, backSoas, nil},
		{"4.0.0.10.in-addr.arpa.", 12, 3, true, nil, backSoas, nil},
		{"7.0.0.10.in-addr.arpa.", 1, 0, true, texts{"7.0.0.10.in-addr.arpa. 9 CNAME web.home."}, nil, nil},
		{"8.0.0.10.in-addr.arpa.", 12, 0, false, nil, texts{"8.0.0.10.in-addr.arpa. 9 NS ns.home."}, nil},
		{backOrigin, 255, 0, true, backSoas, nil, nil},
		{"10.in-addr.arpa.", 12, 5, false, nil, nil, nil}, {"0.10.in-addr.arpa.", 12, 5, false, nil, nil, nil}, {"3.1.0.10.in-addr.arpa.", 12, 5, false, nil, nil, nil},
		{"pc.com.", 1, 5, false, nil, nil, nil}, {".", 255, 5, false, nil, nil, nil}, {"xhome.", 1, 5, false, nil, nil, nil}, {"pc.home.com.", 1, 5, false, nil, nil, nil},
	} {
		m := query(named(c.name), c.ty)
		want := reply(m, c.code, c.auth, c.answers, c.auths, c.more)
		if got := impl.HouseAnswer(h, m); toldMsg(got) != toldMsg(want) {
			t.Errorf("HouseAnswer of %s = %s, want %s", toldMsg(m), toldMsg(got), toldMsg(want))
		}
	}
	if a := impl.HouseAnswer(h, query(named("pc.home."), 49)); len(a.Answers) != 1 || !bytes.Equal(a.Answers[0].Text, signOf("m1", "pc")) {
		t.Error("the sign:", toldMsg(a))
	}
}

// houseMay says again what HouseOk does, but for what ZoneOk and LabelOk ask.
func houseMay(h impl.House) bool {
	if h.Now < 0 || h.Now > 1000000 || !mayBe(h.Zone) || !mayBe(h.Rev) || wordsOfName(h.Zone.Origin) != "home." || wordsOfName(h.Rev.Origin) != backOrigin || len(h.Leases) > 8 {
		return false
	}
	for i, l := range h.Leases {
		if !leaseMay(h, l) || i > 0 && h.Leases[i-1].Ip >= l.Ip || l.Won && !hasOwn(h, l) {
			return false
		}
	}
	return true
}

func leaseMay(h impl.House, l impl.Lease) bool {
	return l.Ip >= subnet+1 && l.Ip <= subnet+254 && len(l.Client) >= 1 && len(l.Client) <= 16 && impl.LabelOk(l.Host) && l.Until > h.Now && l.Until <= 2000000
}

func hasOwn(h impl.House, l impl.Lease) bool {
	own, back := ownRecords(l)
	_, names := leftOf(h.Zone, own)
	_, backs := leftOf(h.Rev, []impl.Rr{back})
	return names == 2 && backs == 1
}

func bumpedIn(h impl.House) impl.House {
	h.Zone = withSerial(h.Zone, (setIn(h.Zone, h.Zone.Origin, 6)[0].Nums[0]+1)%(1<<32))
	h.Rev = withSerial(h.Rev, (setIn(h.Rev, h.Rev.Origin, 6)[0].Nums[0]+1)%(1<<32))
	return h
}

// goneIn is a house without the lease at a place.
func goneIn(h impl.House, at int) impl.House {
	l := h.Leases[at]
	h.Leases = slices.Delete(slices.Clone(h.Leases), at, at+1)
	if !l.Won {
		return h
	}
	own, back := ownRecords(l)
	for _, x := range h.Leases {
		if x.Won && string(x.Host) == string(l.Host) && string(x.Client) == string(l.Client) {
			own = own[:1]
		}
	}
	h.Zone, _ = leftOf(h.Zone, own)
	h.Rev, _ = leftOf(h.Rev, []impl.Rr{back})
	return bumpedIn(h)
}

func placeIn(h impl.House, ip int) int {
	return slices.IndexFunc(h.Leases, func(l impl.Lease) bool { return l.Ip == ip })
}

// boundIn says again what Bind does.
func boundIn(h impl.House, l impl.Lease) (impl.House, int) {
	at := placeIn(h, l.Ip)
	switch {
	case !leaseMay(h, l):
		return h, 1
	case at >= 0 && string(h.Leases[at].Client) != string(l.Client):
		return h, 2
	case at < 0 && len(h.Leases) == 8:
		return h, 3
	}
	out := h
	if at >= 0 {
		out = goneIn(h, at)
	}
	free, mine := ownerIn(out.Zone, labels(string(l.Host), "home"), signOf(string(l.Client), string(l.Host)))
	l.Won = free || mine
	code := 5
	if l.Won {
		code = 0
		out.Rev, _ = leftOf(out.Rev, setIn(out.Rev, backName(l.Ip), 255))
		out = bumpedIn(withOwn(out, l))
	}
	if !mayBe(out.Zone) || !mayBe(out.Rev) {
		return h, 3
	}
	out.Leases = slices.SortedFunc(slices.Values(append(slices.Clone(out.Leases), l)), func(a, b impl.Lease) int { return a.Ip - b.Ip })
	return out, code
}

func releasedIn(h impl.House, ip int, client []byte) (impl.House, int) {
	at := placeIn(h, ip)
	if at < 0 || string(h.Leases[at].Client) != string(client) {
		return h, 4
	}
	return goneIn(h, at), 0
}

func tickedIn(h impl.House, now int) (impl.House, int) {
	count := 0
	h.Now = now
	for i := 0; i < len(h.Leases); {
		if h.Leases[i].Until > now {
			i++
			continue
		}
		h = goneIn(h, i)
		count++
	}
	return h, count
}

func houseUpdatedIn(h impl.House, m impl.Msg) (impl.House, int) {
	for _, l := range h.Leases {
		for _, w := range m.Ups {
			if l.Won && wordsOfName(w.Rr.Name) == string(l.Host)+".home." {
				return h, 5
			}
		}
	}
	z, code := updatedIn(h.Zone, m)
	h.Zone = z
	return h, code
}

// keptOf are the records, but TySoa, of names that have no TyDhcid.
func keptOf(z impl.Zone) map[string]string {
	out := map[string]string{}
	for _, r := range z.Rrs {
		if r.Type != 6 {
			out[told(r.Name)] += toldRr(r)
		}
	}
	for _, r := range z.Rrs {
		if r.Type == 49 {
			delete(out, told(r.Name))
		}
	}
	return out
}

// checkStays holds what happened to some leases to the promise: the house may be, the other leases stay, and
// so do the records of names that are nobody's, and of addresses that nothing happened to.
func checkStays(t *testing.T, call string, h, after impl.House, turned func(ip int) bool) {
	t.Helper()
	if !impl.HouseOk(after) || !houseMay(after) {
		t.Fatalf("%s leaves %s", call, toldHouse(after))
	}
	rest := func(h impl.House) string {
		l := slices.DeleteFunc(slices.Clone(h.Leases), func(l impl.Lease) bool { return turned(l.Ip) })
		return toldAll(l, toldLease)
	}
	if rest(h) != rest(after) {
		t.Fatalf("%s turns other leases: %s, %s", call, toldHouse(h), toldHouse(after))
	}
	left := keptOf(after.Zone)
	for name, l := range keptOf(h.Zone) {
		if left[name] != l {
			t.Fatalf("%s turns records of %s: %s, %s", call, name, toldHouse(h), toldHouse(after))
		}
	}
	backs := func(h impl.House) string {
		l := slices.DeleteFunc(slices.Clone(h.Rev.Rrs), func(r impl.Rr) bool {
			last, _ := strconv.Atoi(string(r.Name.L[0]))
			return r.Type == 6 || turned(subnet+last)
		})
		return toldRrs(l)
	}
	if backs(h) != backs(after) {
		t.Fatalf("%s turns records of other addresses: %s, %s", call, toldHouse(h), toldHouse(after))
	}
}

// run is a house that things happen to, and how often each code was told.
type run struct {
	t     *testing.T
	m     *mixer
	h     impl.House
	codes map[string]int
}

func (r *run) lease() impl.Lease {
	m := r.m
	l := impl.Lease{
		Ip:     subnet + m.of(1, 2, 3, 4, 5, 6, 7, 8, 9, 10, 254, 254, 0, 255),
		Client: []byte([]string{"m1", "m2", "m3", "m1"}[m.below(4)]),
		Host:   []byte([]string{"a", "b", "c", "a", "b", "pc", "A"}[m.below(7)]),
		Until:  r.h.Now + m.of(1, 2, 3, 5, 9, 30, 30, 60, 0),
	}
	if m.below(3) == 0 && len(r.h.Leases) > 0 {
		old := r.h.Leases[m.below(len(r.h.Leases))]
		l.Ip, l.Client = old.Ip, old.Client
	}
	return l
}

func (r *run) bind() {
	l := r.lease()
	got := checkBind(r.t, r.h, l, -1)
	_, code := bind(r.h, l)
	r.codes[fmt.Sprint("bind ", code)]++
	call := fmt.Sprintf("Bind %s to %s", toldLease(l), toldHouse(r.h))
	checkStays(r.t, call, r.h, got, func(ip int) bool { return ip == l.Ip && (code == 0 || code == 5) })
	now, is := impl.LeaseOf(got, l.Ip)
	l.Won = code == 0
	if (code == 0 || code == 5) && (!is || toldLease(now) != toldLease(l)) || code != 0 && code != 5 && toldHouse(got) != toldHouse(r.h) {
		r.t.Fatalf("%s = %s, %d", call, toldHouse(got), code)
	}
	r.h = got
}

func (r *run) release() {
	l := r.lease()
	got, code := impl.Release(r.h, l.Ip, l.Client)
	want, wantCode := releasedIn(r.h, l.Ip, l.Client)
	r.codes[fmt.Sprint("release ", code)]++
	call := fmt.Sprintf("Release %s from %s", toldLease(l), toldHouse(r.h))
	expectHouse(r.t, call, got, code, want, wantCode)
	checkStays(r.t, call, r.h, got, func(ip int) bool { return ip == l.Ip && code == 0 })
	if _, is := impl.LeaseOf(got, l.Ip); code == 0 && is {
		r.t.Fatalf("%s leaves it", call)
	}
	r.h = got
}

func (r *run) tick() {
	now := min(r.h.Now+r.m.of(0, 1, 1, 2, 5), 1000000)
	got, n := impl.Tick(r.h, now)
	want, wantN := tickedIn(r.h, now)
	r.codes[fmt.Sprint("tick ", min(n, 2))]++
	call := fmt.Sprintf("Tick %d of %s", now, toldHouse(r.h))
	expectHouse(r.t, call, got, n, want, wantN)
	checkStays(r.t, call, r.h, got, func(ip int) bool {
		at := placeIn(r.h, ip)
		return at >= 0 && r.h.Leases[at].Until <= now
	})
	if n != len(r.h.Leases)-len(got.Leases) || slices.ContainsFunc(got.Leases, func(l impl.Lease) bool { return l.Until <= now }) {
		r.t.Fatalf("%s leaves %s", call, toldHouse(got))
	}
	r.h = got
}

// updates are often of names that leases have or want, signs with them.
func (r *run) updates() impl.Msg {
	out := r.m.update(r.h.Zone)
	if r.m.below(2) == 0 {
		host := []string{"a", "b", "c"}[r.m.below(3)]
		sign := fmt.Sprintf("+ %s.home. 9 DHCID x", host)
		out = upsOf(sign, fmt.Sprintf("+ %s.home. 9 TXT a", host))
		out.Ups[0].Rr.Text = signOf([]string{"m1", "m2"}[r.m.below(2)], host)
		out.Ups = out.Ups[:r.m.of(1, 2)]
	}
	if r.m.below(5) == 0 {
		out = upsOf("+ d.home. 9 A 1", "+ d.home. 9 A 2", "+ d.home. 9 A 3", "+ d.home. 9 A 4", "+ d.home. 9 A 5", "+ d.home. 9 A 6", "+ d.home. 9 A 7")
	}
	if r.m.below(4) == 0 {
		out = upsOf(fmt.Sprintf("any %s.home. ANY", []string{"a", "b", "c", "pc", "d", "d"}[r.m.below(6)]))
	}
	return out
}

func (r *run) update() {
	m := r.updates()
	if !impl.MsgOk(m) {
		return
	}
	got, reply := impl.HouseUpdate(r.h, m)
	want, code := houseUpdatedIn(r.h, m)
	r.codes[fmt.Sprint("update ", reply.Code)]++
	call := fmt.Sprintf("HouseUpdate of %s by %s", toldHouse(r.h), toldMsg(m))
	expectHouse(r.t, call, got, reply.Code, want, code)
	changed := toldZone(got.Zone) != toldZone(r.h.Zone)
	if !houseMay(got) || !impl.HouseOk(got) || toldAll(got.Leases, toldLease) != toldAll(r.h.Leases, toldLease) || toldZone(got.Rev) != toldZone(r.h.Rev) || changed && reply.Code != 0 {
		r.t.Fatalf("%s = %s", call, toldHouse(got))
	}
	if toldMsg(reply) != toldMsg(impl.Msg{Id: m.Id, Reply: true, Op: 5, Code: code, Qs: m.Qs}) {
		r.t.Fatalf("%s = %s", call, toldMsg(reply))
	}
	r.h = got
}

// ask holds what a house tells to the records of the zone that the name is in.
func (r *run) ask() {
	name := r.m.name(named("home."))
	if r.m.below(2) == 0 {
		name = backName(subnet + r.m.below(12))
	}
	m := query(name, r.m.of(1, 12, 16, 49, 255))
	z := r.h.Zone
	if isUnder(name, named(backOrigin)) {
		z = r.h.Rev
	}
	got := impl.HouseAnswer(r.h, m)
	r.codes[fmt.Sprint("ask ", got.Code)]++
	if toldMsg(got) != toldMsg(answered(z, m)) {
		r.t.Fatalf("HouseAnswer of %s, %s = %s", toldHouse(r.h), toldMsg(m), toldMsg(got))
	}
	for _, x := range slices.Concat(got.Answers, got.Auths, got.More) {
		if !slices.ContainsFunc(z.Rrs, func(y impl.Rr) bool { return toldRr(x) == toldRr(y) }) {
			r.t.Fatalf("HouseAnswer of %s, %s tells %s", toldHouse(r.h), toldMsg(m), toldRr(x))
		}
	}
}

// starts are houses that runs begin with: empty ones, and some that are nearly full.
func starts(i int) impl.House {
	switch i % 4 {
	case 0:
		return home(0, 5, 7, nil)
	case 1:
		return home(999970, 1<<32-3, 1<<32-9, nil, "a.home. 9 TXT x", "c.home. 9 DHCID @m1", "c.home. 9 A 1", "1.0.0.10.in-addr.arpa. 9 TXT x", "2.0.0.10.in-addr.arpa. 9 CNAME x.")
	case 2:
		return full(54, 1)
	}
	return full(1, 57)
}

func TestMixedRunsOfAHouse(t *testing.T) {
	m := mixer(8)
	codes := map[string]int{}
	for i := range 60 {
		r := &run{t: t, m: &m, h: starts(i), codes: codes}
		for range 60 {
			[]func(){r.bind, r.bind, r.bind, r.bind, r.release, r.tick, r.update, r.ask}[m.below(8)]()
		}
	}
	for _, told := range []string{
		"bind 0", "bind 1", "bind 2", "bind 3", "bind 5", "release 0", "release 4", "tick 0", "tick 1", "tick 2",
		"update 0", "update 2", "update 5", "ask 0", "ask 3",
	} {
		if codes[told] < 15 {
			t.Error("too few of", told, codes)
		}
	}
}

// houseArgs are all arguments that a function of the chapter may take.
type houseArgs struct {
	h impl.House
	l impl.Lease
	m impl.Msg
}

func roomyBytes(b []byte) []byte {
	return append(bytes.Clone(b), "SPAREROOM"...)[:len(b)]
}

func roomyLease(l impl.Lease) impl.Lease {
	l.Client, l.Host = roomyBytes(l.Client), roomyBytes(l.Host)
	return l
}

func (a houseArgs) roomy() houseArgs {
	h := impl.House{Now: a.h.Now, Zone: roomyZone(a.h.Zone), Rev: roomyZone(a.h.Rev), Leases: roomy(a.h.Leases, roomyLease, lease("99 spare room 99 won"))}
	return houseArgs{h, roomyLease(a.l), roomyMsg(a.m)}
}

func wholeLease(l impl.Lease) string {
	l.Client, l.Host = whole(l.Client), whole(l.Host)
	return toldLease(l)
}

func (a houseArgs) whole() string {
	return fmt.Sprint(a.h.Now, wholeMsg(packed(a.h.Zone)), wholeMsg(packed(a.h.Rev)), toldAll(whole(a.h.Leases), wholeLease), wholeLease(a.l), wholeMsg(a.m))
}

func (a houseArgs) scribble() {
	scribbleMsg(packed(a.h.Zone))
	scribbleMsg(packed(a.h.Rev))
	for _, l := range append(slices.Clone(whole(a.h.Leases)), a.l) {
		scribble(l.Client)
		scribble(l.Host)
	}
	scribbleList(a.h.Leases, lease("98 turned turned 98 lost"))
	scribbleMsg(a.m)
}

func (a houseArgs) told() string {
	return toldHouse(a.h) + toldLease(a.l) + toldMsg(a.m)
}

// message has all that is answered in the lists of one message, so that they can be told to be apart.
func (a houseArgs) message() impl.Msg {
	out := a.m
	out.Qs = append(slices.Clone(out.Qs), impl.Question{Name: a.h.Zone.Origin}, impl.Question{Name: a.h.Rev.Origin})
	out.Answers = append(slices.Clone(out.Answers), a.h.Zone.Rrs...)
	out.Auths = append(slices.Clone(out.Auths), a.h.Rev.Rrs...)
	for _, l := range append(slices.Clone(a.h.Leases), a.l) {
		out.More = append(out.More, impl.Rr{Text: l.Client}, impl.Rr{Text: l.Host})
	}
	return out
}

// houseCalls are calls of every function of the chapter; each gives what it answers as such arguments.
func houseCalls() map[string]func(a houseArgs) houseArgs {
	return map[string]func(a houseArgs) houseArgs{
		"HouseNew": func(a houseArgs) houseArgs { h, _ := impl.HouseNew(a.l.Until); return houseArgs{h: h} },
		"HouseOk":  func(a houseArgs) houseArgs { impl.HouseOk(a.h); return houseArgs{} },
		"LeaseOf":  func(a houseArgs) houseArgs { l, _ := impl.LeaseOf(a.h, a.l.Ip); return houseArgs{l: l} },
		"Bind":     func(a houseArgs) houseArgs { h, _ := bind(a.h, a.l); return houseArgs{h: h} },
		"Release":  func(a houseArgs) houseArgs { h, _ := impl.Release(a.h, a.l.Ip, a.l.Client); return houseArgs{h: h} },
		"Tick":     func(a houseArgs) houseArgs { h, _ := impl.Tick(a.h, a.l.Until); return houseArgs{h: h} },
		"HouseUpdate": func(a houseArgs) houseArgs {
			h, m := impl.HouseUpdate(a.h, a.m)
			return houseArgs{h: h, m: m}
		},
		"HouseAnswer": func(a houseArgs) houseArgs { return houseArgs{m: impl.HouseAnswer(a.h, a.m)} },
	}
}

func manyHouseArgs() []houseArgs {
	houses := []impl.House{base(), eight(), home(0, 5, 5, nil), lostRecords()["no sign"], {}}
	leases := []string{
		"3 m1 pc 20", "3 m1 pc 99", "3 m1 tv 99", "3 m2 pc 99", "4 m2 pc 30", "4 m2 new 30", "5 m1 new 40", "7 m1 new 50", "77 m7 tv 50", "12 m1 low 60", "10 m0 x 107", "255 m1 pc 20", "9 m3 TV 9", "1 m1 web 1000000",
	}
	msgs := []impl.Msg{
		upsOf("+ no.home. 9 TXT abc", "+ home. 9 SOA a.home. 9 9"), upsOf("any old.home. ANY"), upsOf("+ pc.home. 9 A 3"), upsOf("+ com. 9 A 3"), upsOf(), query(named("home."), 6),
		query(named("pc.home."), 255), query(named("3.0.0.10.in-addr.arpa."), 12), query(named("web.home."), 1), query(named("x.sub.home."), 1), query(named("com."), 1), query(named("8.0.0.10.in-addr.arpa."), 1), {},
	}
	var out []houseArgs
	for _, h := range houses {
		for i := range max(len(leases), len(msgs)) {
			out = append(out, houseArgs{h, lease(leases[i%len(leases)]), msgs[i%len(msgs)]})
		}
	}
	crowd := full(59, 1, "3 m1 pc 20 lost")
	return append(out, houseArgs{crowd, lease("3 m1 pc 20"), upsOf("+ no.home. 9 A 3", "+ no.home. 9 A 4")})
}

func TestHouseAnswersAreNewMemory(t *testing.T) {
	for call, run := range houseCalls() {
		for _, plain := range manyHouseArgs() {
			a := plain.roomy()
			before := a.whole()
			first, second := run(a), run(a)
			if a.whole() != before {
				t.Fatalf("%s of %s wrote into an argument", call, plain.told())
			}
			want := second.told()
			if first.told() != want || run(plain).told() != want {
				t.Fatalf("%s of %s hangs on spare room", call, plain.told())
			}
			first.scribble()
			if a.whole() != before || second.told() != want {
				t.Fatalf("%s of %s shares memory", call, plain.told())
			}
			a.scribble()
			if second.told() != want {
				t.Fatalf("%s of %s keeps its argument", call, plain.told())
			}
			checkMsgApart(t, call, second.message())
		}
	}
}

// Arguments may share memory with each other; what is answered may not.
func TestHousesBySharedMemory(t *testing.T) {
	name, home := named("m1.home."), named("home.")
	h, _ := impl.HouseNew(5)
	client := name.L[0]
	h, code := impl.Bind(h, subnet+3, client, client, 20)
	h.Zone.Origin, h.Leases[0].Client, h.Leases[0].Host = home, client, client
	for i, r := range h.Zone.Rrs {
		if r.Type != 6 {
			h.Zone.Rrs[i].Name = name
		}
	}
	h.Rev.Rrs[1].To = name
	if code != impl.LsWell || !impl.HouseOk(h) {
		t.Fatal(code, toldHouse(h))
	}
	m := update(home)
	m.Ups = inClass([]impl.Rr{{Name: home, Type: 2, Ttl: 9, To: name}, {Name: home, Type: 16, Ttl: 9, Text: client}, {Name: home, Type: 49, Ttl: 9, Text: client}})
	for _, l := range []impl.Lease{{Ip: subnet + 3, Client: client, Host: client, Until: 20}, {Ip: subnet + 4, Client: client, Host: client, Until: 1}} {
		for call, run := range houseCalls() {
			args := houseArgs{h, l, m}
			before := args.whole()
			got := run(args)
			checkMsgApart(t, call, got.message())
			scribbleList(got.h.Leases, impl.Lease{})
			if args.whole() != before {
				t.Errorf("%s shares memory with its arguments", call)
			}
		}
	}
}
