package tests

import (
	"bytes"
	"fmt"
	"maps"
	"math"
	"slices"
	"strconv"
	"strings"
	"testing"

	"loop.example/g00422/impl"
)

// evMsg is the event of a message, and which times are lost on the way to its answer.
func evMsg(m impl.Msg, lost ...bool) impl.Event {
	return impl.Event{Bytes: bytesOfMsg(m), Lost: lost}
}

// evAsk is a question of words.
func evAsk(text string, lost ...bool) impl.Event {
	n, ty := asked(text)
	return evMsg(query(n, ty), lost...)
}

func evTxn(x impl.Txn) impl.Event {
	return impl.Event{Kind: x.Kind, Ip: x.Ip, Client: x.Client, Host: x.Host, When: x.When}
}

func evBind(text string) impl.Event { return evTxn(txBind(text)) }

func evRelease(last int, client string) impl.Event { return evTxn(txRelease(last, client)) }

func evTick(when int) impl.Event { return impl.Event{Kind: 3, When: when} }

func evCrash(keep int) impl.Event { return impl.Event{Kind: 4, When: keep} }

func evCheck() impl.Event { return impl.Event{Kind: 5} }

func toldGate(g impl.Gate) string {
	return fmt.Sprintf("{%s %s %s %v %v}", toldJournal(g.J), toldCache(g.Cache), toldAll(g.Zones, toldZone), g.At, g.Hints)
}

func isZeroGate(g impl.Gate) bool {
	return toldGate(g) == toldGate(impl.Gate{})
}

func toldEvent(e impl.Event) string {
	return fmt.Sprintf("{kind %d bytes %q ip %d client %q host %q when %d lost %v}", e.Kind, e.Bytes, e.Ip, e.Client, e.Host, e.When, e.Lost)
}

func toldTold(x impl.Told) string {
	return fmt.Sprintf("{%d %q}", x.Code, x.Bytes)
}

// gateIn is a gateway into a world, whose root is at 1.
func gateIn(w world, j impl.Journal, c impl.Cache) impl.Gate {
	return impl.Gate{J: j, Cache: c, Zones: w.zones, At: w.at, Hints: []int{1}}
}

func gateway(j impl.Journal, c impl.Cache) impl.Gate {
	return gateIn(greatWorld(), j, c)
}

// afar is a gateway without anything of its own.
func afar(c impl.Cache) impl.Gate {
	return gateway(wrote(home(0, 5, 5, nil), 0), c)
}

// journalMay says again what JournalOk does.
func journalMay(j impl.Journal) bool {
	wrong := func(x impl.Txn) bool { return !txnMay(x) }
	return houseMay(j.Base) && len(j.Txns) <= 60 && j.Safe >= 0 && j.Safe <= len(j.Txns) && !slices.ContainsFunc(j.Txns, wrong)
}

func gateMay(g impl.Gate) bool {
	return journalMay(g.J) && cacheMay(g.Cache) && worldMay(g.Zones, g.At) && serversMay(g.Hints)
}

// eventMay says again what EventOk does.
func eventMay(e impl.Event) bool {
	quiet := len(e.Bytes)+len(e.Lost) == 0
	bare := e.Ip == 0 && len(e.Client)+len(e.Host) == 0
	switch e.Kind {
	case 0:
		return len(e.Bytes) <= 512 && len(e.Lost) <= 24 && bare && e.When == 0
	case 1, 2, 3:
		return quiet && txnMay(impl.Txn{Kind: e.Kind, Ip: e.Ip, Client: e.Client, Host: e.Host, When: e.When})
	case 4:
		return quiet && bare && e.When >= 0 && e.When <= 60
	}
	return e.Kind == 5 && quiet && bare && e.When == 0
}

// isDoneBy tells whether a transaction with this code is written down.
func isDoneBy(x impl.Txn, code int) bool {
	return code == 0 || x.Kind == 1 && code == 5
}

// commitIn says again what Commit does.
func commitIn(j impl.Journal, x impl.Txn) (impl.Journal, int) {
	_, code := doneIn(headIn(j), x)
	if !isDoneBy(x, code) {
		return j, code
	}
	if len(j.Txns) == 60 {
		return j, 2
	}
	return wrote(j.Base, len(j.Txns)+1, append(slices.Clone(j.Txns), x)...), code
}

// serveIn says again what Serve does.
func serveIn(g impl.Gate, e impl.Event) (impl.Gate, impl.Told) {
	if !gateMay(g) || !eventMay(e) {
		return impl.Gate{}, impl.Told{Code: -2}
	}
	var out impl.Told
	switch e.Kind {
	case 0:
		m, ok := readMsg(e.Bytes)
		if !ok || m.Reply {
			return g, impl.Told{Code: -1}
		}
		r := impl.Msg{}
		g, r = replyIn(g, m, e.Lost)
		out = impl.Told{Code: r.Code, Bytes: bytesOfMsg(r)}
	case 4:
		n := min(g.J.Safe+e.When, len(g.J.Txns))
		g.J, g.Cache = wrote(g.J.Base, n, g.J.Txns[:n]...), cached(g.Cache.Now, 0)
	case 5:
		g.J = wrote(headIn(g.J), 0)
	default:
		g.J, out.Code = commitIn(g.J, impl.Txn{Kind: e.Kind, Ip: e.Ip, Client: e.Client, Host: e.Host, When: e.When})
		if e.Kind == 3 && out.Code == 0 && e.When >= g.Cache.Now {
			g.Cache, _ = cacheTickedIn(g.Cache, e.When)
		}
	}
	return g, out
}

func replyIn(g impl.Gate, m impl.Msg, lost []bool) (impl.Gate, impl.Msg) {
	name := m.Qs[0].Name
	switch {
	case m.Op == 5:
		j, code := commitIn(g.J, txUpdate(m))
		g.J = j
		return g, impl.Msg{Id: m.Id, Reply: true, Op: 5, Code: code, Qs: m.Qs}
	case isUnder(name, named("home.")):
		return g, answered(headIn(g.J).Zone, m)
	case isUnder(name, named(backOrigin)):
		return g, answered(headIn(g.J).Rev, m)
	}
	return afarIn(g, m, lost)
}

func afarIn(g impl.Gate, m impl.Msg, lost []bool) (impl.Gate, impl.Msg) {
	q, out := m.Qs[0], impl.Msg{Id: m.Id, Reply: true, Qs: m.Qs}
	if q.Type == 255 {
		out.Code = 4
		return g, out
	}
	c, l, kind := gotIn(g.Cache, q.Name, q.Type)
	g.Cache = c
	switch kind {
	case 0:
		x, _ := resolvedIn(g.Zones, g.At, g.Hints, q, lost)
		g.Cache, out.Code, out.Answers = learntIn(c, x), x.Code, x.Answers
	case 1:
		out.Answers = l
	case 3:
		out.Code = 3
	}
	if len(bytesOfMsg(out)) > 512 {
		out.Code, out.Answers = 2, nil
	}
	return g, out
}

// learntIn says again what a cache learns of a task that is done.
func learntIn(c impl.Cache, x impl.Task) impl.Cache {
	if len(x.Answers) == 0 && x.Code != 2 {
		c, _ = lackIn(c, x.First.Name, x.First.Type, map[int]int{0: 2, 3: 3}[x.Code], 60)
	}
	sets := map[string][]impl.Rr{}
	var places []string
	for _, r := range x.Answers {
		place := slotPlace(r.Name, r.Type)
		if !slices.Contains(places, place) {
			places = append(places, place)
		}
		sets[place] = append(sets[place], r)
	}
	for _, place := range places {
		if setMay(sets[place]) {
			c, _ = putIn(c, sets[place], 1)
		}
	}
	return c
}

// checkTold holds what is told to what is promised: a message that is answered is answered with its number and question.
func checkTold(t *testing.T, e impl.Event, x impl.Told) {
	t.Helper()
	if e.Kind != 0 || x.Code < 0 {
		if len(x.Bytes) != 0 {
			t.Fatalf("%s is told %s", toldEvent(e), toldTold(x))
		}
		return
	}
	m, ok := impl.MsgRead(e.Bytes)
	r, is := impl.MsgRead(x.Bytes)
	flat, _ := impl.MsgBytes(r)
	if !ok || !is || r.Id != m.Id || r.Op != m.Op || r.Code != x.Code || !r.Reply || toldAll(r.Qs, toldQuestion) != toldAll(m.Qs, toldQuestion) || !bytes.Equal(flat, x.Bytes) {
		t.Fatalf("%s is answered by %s", toldMsg(m), toldMsg(r))
	}
}

// checkServe holds Serve to the second one and to what is promised of every event.
func checkServe(t *testing.T, g impl.Gate, e impl.Event) (impl.Gate, impl.Told) {
	t.Helper()
	got, x := impl.Serve(g, e)
	want, y := serveIn(g, e)
	if toldGate(got) != toldGate(want) || toldTold(x) != toldTold(y) {
		t.Fatalf("Serve %s of %s\n= %s, %s\nwant %s, %s", toldEvent(e), toldGate(g), toldGate(got), toldTold(x), toldGate(want), toldTold(y))
	}
	if x.Code == -2 {
		return got, x
	}
	if !impl.GateOk(got) || toldAll(got.Zones, toldZone) != toldAll(g.Zones, toldZone) || !slices.Equal(got.At, g.At) || !slices.Equal(got.Hints, g.Hints) {
		t.Fatalf("Serve %s leaves %s", toldEvent(e), toldGate(got))
	}
	checkTold(t, e, x)
	return got, x
}

// expectServe holds an event to the gateway and to what is told, both made by hand; it gives what comes of it.
func expectServe(t *testing.T, g impl.Gate, e impl.Event, want impl.Gate, told impl.Told) impl.Gate {
	t.Helper()
	got, x := checkServe(t, g, e)
	if toldGate(got) != toldGate(want) || toldTold(x) != toldTold(told) {
		t.Fatalf("Serve %s of %s\n= %s, %s\nwant %s, %s", toldEvent(e), toldGate(g), toldGate(got), toldTold(x), toldGate(want), toldTold(told))
	}
	return got
}

func expectCode(t *testing.T, g impl.Gate, e impl.Event, want impl.Gate, code int) impl.Gate {
	t.Helper()
	return expectServe(t, g, e, want, impl.Told{Code: code})
}

// expectReply holds the answer to a message that is asked.
func expectReply(t *testing.T, g impl.Gate, m impl.Msg, lost []bool, want impl.Gate, r impl.Msg) impl.Gate {
	t.Helper()
	return expectServe(t, g, evMsg(m, lost...), want, impl.Told{Code: r.Code, Bytes: bytesOfMsg(r)})
}

func expectNotServed(t *testing.T, why string, g impl.Gate, e impl.Event) {
	t.Helper()
	if got, x := impl.Serve(g, e); !isZeroGate(got) || toldTold(x) != toldTold(impl.Told{Code: -2}) {
		t.Fatalf("%s: Serve %s = %s, %s", why, toldEvent(e), toldGate(got), toldTold(x))
	}
}

func expectNotRun(t *testing.T, why string, g impl.Gate, l []impl.Event) {
	t.Helper()
	if got, all, ok := impl.Run(g, l); ok || !isZeroGate(got) || len(all) != 0 {
		t.Fatalf("%s: Run %s = %s, %s, %v", why, toldAll(l, toldEvent), toldGate(got), toldAll(all, toldTold), ok)
	}
}

func withJournal(g impl.Gate, j impl.Journal) impl.Gate {
	g.J = j
	return g
}

func withCache(g impl.Gate, c impl.Cache) impl.Gate {
	g.Cache = c
	return g
}

func TestGatewayLimits(t *testing.T) {
	kinds := []int{impl.GwMsg, impl.GwBind, impl.GwRelease, impl.GwTick, impl.GwCrash, impl.GwCheck}
	if impl.MaxEvents != 30 || !slices.Equal(kinds, []int{0, 1, 2, 3, 4, 5}) {
		t.Error(impl.MaxEvents, kinds)
	}
}

func goodHints() [][]int {
	return [][]int{{0}, {1}, {1<<32 - 1}, {1, 1}, {9, 1}, {1, 2, 3}, {1, 2, 3, 4}, {0, 0, 0, 1<<32 - 1}}
}

func wrongHints() [][]int {
	out := [][]int{nil, {}, []int{1, 2}[:0], {1, 2, 3, 4, 5}, {1, 1, 1, 1, 1, 1}, make([]int, 500)}
	for _, ip := range greatInts() {
		out = append(out, []int{ip}, []int{ip, 1}, []int{1, 2, 3, ip})
	}
	return out
}

// goodWorlds have from none to as many zones as there may be.
func goodWorlds() []world {
	great := greatWorld()
	out := []world{{}, {[]impl.Zone{}, []int{}}, worldOf([]int{0}, rootZone()), worldOf([]int{1<<32 - 1}, deepZone()), worldOf([]int{7, 7}, house(), house()), worldOf([]int{1, 2, 3, 4, 5}, goodZones()[:5]...)}
	for n := range 6 {
		out = append(out, worldOf(great.at[:n], great.zones[:n]...))
	}
	return out
}

func TestGateNew(t *testing.T) {
	expect := func(serial int, w world, hints []int) {
		t.Helper()
		got, ok := impl.GateNew(serial, w.zones, w.at, hints)
		want := gateIn(w, wrote(home(0, serial, serial, nil), 0), cached(0, 0))
		want.Hints = hints
		if !ok || toldGate(got) != toldGate(want) || !impl.GateOk(got) || !gateMay(got) {
			t.Fatalf("GateNew %d, %v, %v = %s, %v", serial, w.at, hints, toldGate(got), ok)
		}
	}
	for _, serial := range []int{0, 1, 5, 1<<32 - 2, 1<<32 - 1} {
		expect(serial, greatWorld(), []int{1})
	}
	for _, w := range goodWorlds() {
		for _, hints := range goodHints() {
			expect(5, w, hints)
		}
	}
}

func TestGateNewOfWhatMayNotBe(t *testing.T) {
	refuse := func(why string, serial int, w world, hints []int) {
		t.Helper()
		if got, ok := impl.GateNew(serial, w.zones, w.at, hints); ok || !isZeroGate(got) {
			t.Fatalf("%s: GateNew = %s, %v", why, toldGate(got), ok)
		}
	}
	for _, serial := range greatInts() {
		refuse("serial", serial, greatWorld(), []int{1})
		refuse("serial of no zones", serial, world{}, []int{1})
		refuse("all", serial, world{}, nil)
	}
	for why, w := range wrongWorlds() {
		refuse(why, 5, w, []int{1})
	}
	for _, hints := range wrongHints() {
		refuse("hints", 5, greatWorld(), hints)
		refuse("hints without zones", 5, world{}, hints)
	}
}

func goodGates() map[string]impl.Gate {
	out := map[string]impl.Gate{}
	for why, j := range goodJournals() {
		out["journal: "+why] = gateway(j, impl.Cache{})
	}
	for why, c := range goodCaches() {
		out["cache: "+why] = gateway(wrote(base(), 0), c)
	}
	for i, w := range goodWorlds() {
		out[fmt.Sprint("world ", i)] = gateIn(w, wrote(base(), 0), someCache())
	}
	for _, hints := range goodHints() {
		g := gateway(wrote(base(), 0), someCache())
		g.Hints = hints
		out[fmt.Sprint("hints ", hints)] = g
	}
	return out
}

// badGates may not be, each for one reason.
func badGates() map[string]impl.Gate {
	j := wrote(home(0, 5, 5, nil), 0)
	out := map[string]impl.Gate{"nothing": {}, "no journal": gateway(impl.Journal{}, someCache()), "all at once": {J: wrote(impl.House{}, 9), Cache: cached(-1, -1), At: []int{-1}}}
	for why, j := range badJournals() {
		out["journal: "+why] = gateway(j, someCache())
	}
	for why, c := range badCaches() {
		out["cache: "+why] = gateway(j, c)
	}
	for why, w := range wrongWorlds() {
		out["world: "+why] = gateIn(w, j, someCache())
	}
	for i, hints := range wrongHints() {
		g := gateway(j, someCache())
		g.Hints = hints
		out[fmt.Sprint("hints ", i)] = g
	}
	return out
}

func TestGateOk(t *testing.T) {
	for why, g := range goodGates() {
		if !impl.GateOk(g) || !gateMay(g) {
			t.Errorf("%s: GateOk(%s) = %v, %v", why, toldGate(g), impl.GateOk(g), gateMay(g))
		}
	}
	for why, g := range badGates() {
		if impl.GateOk(g) || gateMay(g) {
			t.Errorf("%s: GateOk(%s) = %v, %v", why, toldGate(g), impl.GateOk(g), gateMay(g))
		}
	}
}

// fewEvents have each kind, done, refused and answered.
func fewEvents() []impl.Event {
	return []impl.Event{
		evBind("77 m7 new 50"), evBind("3 m2 pc 50"), evRelease(3, "m1"), evRelease(77, "m1"), evTick(20), evTick(0), evCrash(0), evCrash(60), evCheck(),
		evAsk("pc.home. A"), evAsk("3.0.0.10.in-addr.arpa. PTR"), evAsk("y.com. A"), evAsk("y.com. A", allLost(24)...), evMsg(upsOf("+ no.home. 9 A 3")), {}, {Bytes: []byte{1}},
	}
}

func TestWrongGatesAreNotServed(t *testing.T) {
	l := []impl.Event{evBind("77 m7 new 50"), evTick(20), evCrash(0), evCheck(), evAsk("y.com. A"), evAsk("pc.home. A"), evMsg(upsOf("+ no.home. 9 A 3")), {}, {Kind: 6}}
	all := badGates()
	for i, why := range slices.Sorted(maps.Keys(all)) {
		for k := range 3 {
			expectNotServed(t, why, all[why], l[(i+3*k)%len(l)])
		}
		expectNotRun(t, why, all[why], nil)
		expectNotRun(t, why, all[why], l[i%len(l):])
	}
	for _, e := range l {
		expectNotServed(t, "nothing", impl.Gate{}, e)
		expectNotServed(t, "no hints", all["hints 0"], e)
	}
}

// goodEvents meet each limit.
func goodEvents() map[string]impl.Event {
	out := map[string]impl.Event{
		"check": evCheck(), "nothing": {}, "empty lists": {Kind: 5, Bytes: []byte{}, Client: []byte{}, Host: []byte{}, Lost: []bool{}}, "an empty message": {Bytes: []byte{}, Client: []byte{}, Host: []byte{}, Lost: []bool{}},
		"a moment": {Kind: 3, When: 7, Bytes: []byte{}, Client: []byte{}, Host: []byte{}, Lost: []bool{}}, "a crash": {Kind: 4, When: 7, Bytes: []byte{}, Client: []byte{}, Host: []byte{}, Lost: []bool{}},
	}
	for i, x := range goodTxns() {
		if x.Kind != 0 {
			out[fmt.Sprint("transaction ", i)] = evTxn(x)
		}
	}
	for _, n := range []int{0, 1, 11, 12, 17, 511, 512} {
		out[fmt.Sprint(n, " bytes")] = impl.Event{Bytes: bytes.Repeat([]byte{0xff}, n)}
		out[fmt.Sprint(n, " bytes of 0, all lost")] = impl.Event{Bytes: make([]byte, n), Lost: allLost(24)}
	}
	for n := range 25 {
		out[fmt.Sprint(n, " lost")] = evAsk("y.com. A", flags(n)...)
	}
	for keep := range 61 {
		out[fmt.Sprint("keeps ", keep)] = evCrash(keep)
	}
	return out
}

// eventOf is one of each kind that may be.
func eventOf(kind int) impl.Event {
	return []impl.Event{evAsk("y.com. A", true), evBind("77 m7 new 50"), evRelease(3, "m1"), evTick(20), evCrash(3), evCheck()}[kind]
}

// strayEvents each have one field that must be zero in their kind.
func strayEvents() map[string]impl.Event {
	out := map[string]impl.Event{}
	put := func(why string, turn func(e *impl.Event), kinds ...int) {
		for _, kind := range kinds {
			e := eventOf(kind)
			turn(&e)
			out[fmt.Sprint("kind ", kind, " with ", why)] = e
		}
	}
	for _, b := range [][]byte{{0}, bytesOfMsg(query(named("y.com."), 1)), make([]byte, 512), make([]byte, 513)} {
		put(fmt.Sprint(len(b), " bytes"), func(e *impl.Event) { e.Bytes = b }, 1, 2, 3, 4, 5)
	}
	for _, n := range []int{1, 24, 25} {
		put(fmt.Sprint(n, " lost"), func(e *impl.Event) { e.Lost = flags(n) }, 1, 2, 3, 4, 5)
		put(fmt.Sprint(n, " all lost"), func(e *impl.Event) { e.Lost = allLost(n) }, 1, 2, 3, 4, 5)
	}
	for _, ip := range []int{1, -1, subnet, subnet + 3, 1 << 32, math.MaxInt, math.MinInt} {
		put(fmt.Sprint("Ip ", ip), func(e *impl.Event) { e.Ip = ip }, 0, 3, 4, 5)
	}
	for _, text := range []string{"\x00", "m1", "pc", "0123456789abcdefg"} {
		put("Client "+text, func(e *impl.Event) { e.Client = []byte(text) }, 0, 3, 4, 5)
		put("Host "+text, func(e *impl.Event) { e.Host = []byte(text) }, 0, 2, 3, 4, 5)
	}
	for _, when := range []int{1, -1, 20, 60, 1000000, 1 << 32, math.MaxInt, math.MinInt} {
		put(fmt.Sprint("When ", when), func(e *impl.Event) { e.When = when }, 0, 2, 5)
	}
	return out
}

func badEvents() map[string]impl.Event {
	out := strayEvents()
	for kind := range 6 {
		e := eventOf(kind)
		for other := range 6 {
			// A crash that keeps so many could be a moment, too, and the other way round; of a checkpoint all could be.
			alike := kind == 3 && other == 4 || kind == 4 && other == 3
			e.Kind = other
			if other != kind && kind != 5 && !alike {
				out[fmt.Sprint(kind, " as kind ", other)] = e
			}
		}
		for _, wrong := range []int{-1, -2, -5, 6, 7, 255, 256, 257, 1 << 32, 1<<32 + 1, 1<<32 + 5, math.MaxInt, math.MinInt} {
			e.Kind = wrong
			out[fmt.Sprint(kind, " as kind ", wrong)] = e
			out[fmt.Sprint("nothing as kind ", wrong)] = impl.Event{Kind: wrong}
		}
	}
	for why, x := range wrongFields() {
		if x.Kind != 0 {
			out["transaction: "+why] = evTxn(x)
		}
	}
	for _, n := range []int{513, 514, 1024, 65536} {
		out[fmt.Sprint(n, " bytes")] = impl.Event{Bytes: make([]byte, n)}
		out[fmt.Sprint(n, " bytes behind a message")] = impl.Event{Bytes: append(bytesOfMsg(query(named("y.com."), 1)), make([]byte, n)...)[:n]}
	}
	for _, n := range []int{25, 26, 500} {
		out[fmt.Sprint(n, " lost")] = evAsk("y.com. A", flags(n)...)
		out[fmt.Sprint(n, " lost of nothing")] = impl.Event{Lost: flags(n)}
	}
	for _, keep := range []int{-1, -60, 61, 62, 1 << 32, 1<<32 + 3, math.MaxInt, math.MinInt} {
		out[fmt.Sprint("keeps ", keep)] = evCrash(keep)
	}
	for _, kind := range []int{1, 2} {
		out[fmt.Sprint("nothing as kind ", kind)] = impl.Event{Kind: kind}
	}
	return out
}

func TestEventOk(t *testing.T) {
	for why, e := range goodEvents() {
		if !impl.EventOk(e) || !eventMay(e) {
			t.Errorf("%s: EventOk(%s) = %v, %v", why, toldEvent(e), impl.EventOk(e), eventMay(e))
		}
	}
	for why, e := range badEvents() {
		if impl.EventOk(e) || eventMay(e) {
			t.Errorf("%s: EventOk(%s) = %v, %v", why, toldEvent(e), impl.EventOk(e), eventMay(e))
		}
	}
}

// One event that may not be leaves all others undone, wherever it stands.
func TestWrongEventsAreNotServed(t *testing.T) {
	g := gateway(wrote(hearth(5, 7, five()), 0, txTick(10)), someCache())
	few := []impl.Event{evBind("77 m7 new 50"), evAsk("y.com. A"), evCheck()}
	for why, e := range badEvents() {
		expectNotServed(t, why, g, e)
		expectNotRun(t, why, g, []impl.Event{e})
		for at := range len(few) + 1 {
			expectNotRun(t, why, g, slices.Insert(slices.Clone(few), at, e))
		}
	}
	for at := range 30 {
		l := slices.Repeat([]impl.Event{evTick(20)}, 30)
		l[at] = impl.Event{Kind: 6}
		expectNotRun(t, "one of thirty", g, l)
	}
}

func TestServeOfLeases(t *testing.T) {
	for _, j := range journalsOver() {
		g := gateway(j, someCache())
		behind := func(x impl.Txn) impl.Gate {
			return withJournal(g, wrote(j.Base, len(j.Txns)+1, append(slices.Clone(j.Txns), x)...))
		}
		for text, code := range map[string]int{"77 m7 new 50": 0, "1 m1 pc 2000000": 0, "9 m3 box 11": 0, "77 m7 pc 50": 5, "77 m7 old 50": 5, "9 m3 pc 99": 5} {
			got := expectCode(t, g, evBind(text), behind(txBind(text)), code)
			head, _ := impl.Head(got.J)
			if l, ok := impl.LeaseOf(head, lease(text).Ip); !ok || l.Won != (code == 0) || l.Until != lease(text).Until {
				t.Fatalf("Bind %s leaves %s", text, toldHouse(head))
			}
		}
		for text, code := range refusedBinds() {
			expectCode(t, g, evBind(text), g, code)
		}
		for _, x := range []impl.Txn{txRelease(9, "m3"), txRelease(3, "m1"), txRelease(4, "m2")} {
			expectCode(t, g, evTxn(x), behind(x), 0)
		}
		for _, x := range []impl.Txn{txRelease(3, "m2"), txRelease(77, "m1"), txRelease(254, "m3")} {
			expectCode(t, g, evTxn(x), g, 4)
		}
	}
	for _, h := range []impl.House{eight(), full(60, 1), full(1, 60)} {
		g := gateway(wrote(h, 0), impl.Cache{})
		expectCode(t, g, evBind("77 m7 new 50"), g, 3)
	}
	crowd := gateway(wrote(hearth(5, 7, five()), 9, slices.Repeat([]impl.Txn{txTick(10)}, 60)...), someCache())
	for _, e := range []impl.Event{evBind("77 m7 new 50"), evBind("77 m7 pc 50"), evRelease(3, "m1"), evTick(10), evTick(120)} {
		expectCode(t, crowd, e, crowd, 2)
	}
	expectCode(t, crowd, evBind("3 m2 pc 20"), crowd, 2)
	expectCode(t, crowd, evRelease(77, "m1"), crowd, 4)
	expectCode(t, crowd, evTick(9), crowd, 1)
}

// A moment is the cache's, too, where the house takes it, and the cache isn't further on.
func TestServeOfMoments(t *testing.T) {
	early, late := wrote(hearth(5, 7, five()), 0), wrote(home(200, 5, 7, nil), 0)
	slots := someSlots()
	for _, c := range []struct {
		j    impl.Journal
		when int
		code int
		want impl.Cache
	}{
		{early, 9, 1, someCache()}, {early, 0, 1, someCache()},
		{early, 10, 0, someCache()}, {early, 50, 0, someCache()}, {early, 99, 0, someCache()}, {early, 100, 0, someCache()},
		{early, 101, 0, cached(101, 20, slots[0], slots[2], slots[3], slots[4])}, {early, 149, 0, cached(149, 20, slots[0], slots[2], slots[3], slots[4])},
		{early, 150, 0, cached(150, 20, slots[2], slots[3], slots[4])}, {early, 1099, 0, cached(1099, 20, slots[3], slots[4])}, {early, 1100, 0, cached(1100, 20)}, {early, 1000000, 0, cached(1000000, 20)},
		{late, 99, 1, someCache()}, {late, 100, 1, someCache()}, {late, 101, 1, someCache()}, {late, 199, 1, someCache()}, {late, 200, 0, cached(200, 20, slots[3], slots[4])}, {late, 201, 0, cached(201, 20, slots[3], slots[4])},
	} {
		g := gateway(c.j, someCache())
		want := withCache(g, c.want)
		if c.code == 0 {
			want.J = wrote(c.j.Base, 1, txTick(c.when))
		}
		got := expectCode(t, g, evTick(c.when), want, c.code)
		if head, _ := impl.Head(got.J); c.code == 0 && head.Now != c.when {
			t.Fatal(toldHouse(head))
		}
	}
	end := gateway(wrote(home(1000000, 5, 5, nil), 0), cached(1000000, 1000000))
	expectCode(t, end, evTick(1000000), withJournal(end, wrote(end.J.Base, 1, txTick(1000000))), 0)
	expectCode(t, end, evTick(999999), end, 1)
	start := gateway(wrote(home(0, 5, 5, nil), 0), impl.Cache{})
	expectCode(t, start, evTick(0), withJournal(start, wrote(start.J.Base, 1, txTick(0))), 0)
}

// The time of a lease's name is over with the lease: then it is asked for in vain.
func TestAMomentThatComes(t *testing.T) {
	g := afar(impl.Cache{})
	g, _ = checkServe(t, g, evBind("3 m1 pc 20"))
	for _, c := range []struct{ when, code int }{{19, 0}, {20, 3}, {21, 3}} {
		g, _ = checkServe(t, g, evTick(c.when))
		for _, e := range []impl.Event{evAsk("pc.home. A"), evAsk("3.0.0.10.in-addr.arpa. PTR")} {
			if _, x := checkServe(t, g, e); x.Code != c.code {
				t.Fatalf("at %d %s is told %s", c.when, toldEvent(e), toldTold(x))
			}
		}
	}
}

func TestServeOfCrashes(t *testing.T) {
	l := []impl.Txn{txBind("3 m1 pc 20"), txUps("+ no.home. 9 A 3"), txTick(9), txTick(3), txBind("4 m2 pc 30"), txRelease(3, "m1"), txTick(30)}
	h := home(0, 5, 5, nil)
	for safe := range len(l) + 1 {
		for _, keep := range []int{0, 1, 2, 3, 6, 7, 8, 59, 60} {
			for _, c := range []impl.Cache{{}, someCache(), eightSlots(), cached(1000000, 1000000)} {
				n := min(safe+keep, len(l))
				g := gateway(wrote(h, safe, l...), c)
				want := withCache(withJournal(g, wrote(h, n, l[:n]...)), cached(c.Now, 0))
				got := expectCode(t, g, evCrash(keep), want, 0)
				expectHead(t, got.J, headIn(want.J))
				expectCode(t, got, evCrash(keep), want, 0)
			}
		}
	}
	all := wrote(home(0, 5, 5, nil), 0, ticks(60)...)
	for _, keep := range []int{0, 59, 60} {
		g := gateway(all, impl.Cache{})
		expectCode(t, g, evCrash(keep), withJournal(g, wrote(all.Base, keep, all.Txns[:keep]...)), 0)
	}
	// What is not safe is lost, the cache's moment is not: the house may then be behind it.
	g := gateway(wrote(h, 0, txTick(50)), cached(50, 3, hit(1, 90, 2, "a.com. 40 A 1")))
	g = expectCode(t, g, evCrash(0), withCache(withJournal(g, wrote(h, 0)), cached(50, 0)), 0)
	expectCode(t, g, evTick(40), withJournal(g, wrote(h, 1, txTick(40))), 0)
	expectCode(t, g, evTick(51), withCache(withJournal(g, wrote(h, 1, txTick(51))), cached(51, 0)), 0)
}

func TestServeOfCheckpoints(t *testing.T) {
	for _, j := range goodJournals() {
		g := gateway(j, someCache())
		got := expectCode(t, g, evCheck(), withJournal(g, wrote(headIn(j), 0)), 0)
		expectCode(t, got, evCheck(), got, 0)
	}
	j, head := long()
	g := gateway(j, eightSlots())
	expectCode(t, g, evCheck(), withJournal(g, wrote(head, 0)), 0)
	// Behind a checkpoint there is room again, and a crash takes nothing of what was not safe.
	h := hearth(5, 7, five())
	g = gateway(wrote(h, 0, slices.Repeat([]impl.Txn{txTick(10)}, 60)...), impl.Cache{})
	expectCode(t, g, evRelease(3, "m1"), g, 2)
	g = expectCode(t, g, evCheck(), withJournal(g, wrote(h, 0)), 0)
	expectCode(t, g, evCrash(0), g, 0)
	expectCode(t, g, evRelease(3, "m1"), withJournal(g, wrote(h, 1, txRelease(3, "m1"))), 0)
}

// gateOfAll has something to answer by from everywhere, what is not safe with it.
func gateOfAll() impl.Gate {
	return gateway(wrote(hearth(5, 7, five()), 1, txTick(10), txUps("+ no.home. 9 A 3")), someCache())
}

func TestWhatIsNoMessage(t *testing.T) {
	g := gateOfAll()
	refuse := func(b []byte, lost ...bool) {
		t.Helper()
		expectCode(t, g, impl.Event{Bytes: b, Lost: lost}, g, -1)
	}
	refuse(nil)
	refuse(nil, allLost(24)...)
	for _, n := range []int{1, 11, 12, 16, 17, 511, 512} {
		refuse(make([]byte, n))
		refuse(bytes.Repeat([]byte{0xff}, n))
		refuse(mixedText(n), true)
	}
	for _, m := range []impl.Msg{query(named("y.com."), 1), query(named("pc.home."), 255), upsOf("+ no.home. 9 A 4"), query(named("a.com."), 1)} {
		b := bytesOfMsg(m)
		for size := range len(b) {
			refuse(b[:size])
		}
		refuse(append(bytes.Clone(b), 0))
		for bit := 4; bit < 10; bit++ {
			refuse(put(b, 2, readNumber(b[2:4])|1<<bit, 2))
		}
		for _, turn := range []func(m *impl.Msg){
			func(m *impl.Msg) { m.Reply = true }, func(m *impl.Msg) { m.Reply, m.Auth = true, true }, func(m *impl.Msg) { m.Reply, m.Code = true, 3 }, func(m *impl.Msg) { m.Reply, m.Id = true, 65535 },
		} {
			refuse(bytesOfMsg(turned(m, turn)))
		}
	}
	for _, m := range append(goodQueries()[:40], goodUpdates()[:40]...) {
		m.Reply = true
		refuse(bytesOfMsg(m))
	}
	for _, m := range []impl.Msg{{}, turned(query(named("y.com."), 1), func(m *impl.Msg) { m.Op = 1 }), turned(query(named("y.com."), 1), func(m *impl.Msg) { m.Code = 11 }), query(named("y.com."), 3), turned(update(named("home.")), func(m *impl.Msg) { m.Qs[0].Type = 1 })} {
		refuse(bytesOfMsg(m))
	}
}

// Every message one byte away is answered as the second one does.
func TestMessagesOneByteAwayAreServed(t *testing.T) {
	g := small(cached(0, 1, hit(1, 50, 1, "y. 50 A 7")), "z. 60 A 8")
	codes := map[int]int{}
	for _, m := range []impl.Msg{query(named("y."), 1), upsOf("any a.home. A")} {
		for _, b := range changedTexts(bytesOfMsg(m)) {
			_, x := checkServe(t, g, impl.Event{Bytes: b})
			codes[x.Code]++
		}
	}
	for code, least := range map[int]int{-1: 5000, 0: 1000, 1: 1, 3: 50, 4: 1, 9: 100, 10: 100} {
		if codes[code] < least {
			t.Error("too few of", code, codes)
		}
	}
}

func someIds(m impl.Msg) []impl.Msg {
	var out []impl.Msg
	for _, id := range []int{0, 1, 300, 65535} {
		out = append(out, turned(m, func(m *impl.Msg) { m.Id = id }), turned(m, func(m *impl.Msg) { m.Id, m.Auth, m.Code = id, true, 9 }))
	}
	return out
}

func updateReply(m impl.Msg, code int) impl.Msg {
	return impl.Msg{Id: m.Id, Reply: true, Op: 5, Code: code, Qs: m.Qs}
}

func TestServeOfUpdates(t *testing.T) {
	l := five()
	for _, j := range journalsOver() {
		g := gateway(j, someCache())
		for _, m := range []impl.Msg{upsOf("+ no.home. 9 A 3"), upsOf("any old.home. ANY", "+ no.home. 9 TXT a"), upsOf(), txPres("any pc.home. DHCID", "none no.home. ANY").Msg, upsOf("+ home. 60 SOA home. 99 60")} {
			for _, m := range someIds(m) {
				want := withJournal(g, wrote(j.Base, len(j.Txns)+1, append(slices.Clone(j.Txns), txUpdate(m))...))
				expectReply(t, g, m, nil, want, updateReply(m, 0))
				expectReply(t, g, m, allLost(24), want, updateReply(m, 0))
			}
		}
		for code, l := range refusedUpdates() {
			for _, x := range l {
				for _, m := range someIds(x.Msg) {
					expectReply(t, g, m, nil, g, updateReply(m, code))
				}
			}
		}
		got, _ := checkServe(t, g, evMsg(upsOf("+ no.home. 9 A 3")))
		expectHead(t, got.J, hearth(6, 7, l, "no.home. 9 A 3"))
	}
	m := upsOf("+ no.home. 9 A 3")
	crowd := gateway(wrote(full(60, 1, "3 m1 pc 20 won"), 0), impl.Cache{})
	expectReply(t, crowd, m, nil, crowd, updateReply(m, 2))
	written := gateway(wrote(hearth(5, 7, five()), 0, slices.Repeat([]impl.Txn{txTick(10)}, 60)...), impl.Cache{})
	expectReply(t, written, m, nil, written, updateReply(m, 2))
	for code, l := range refusedUpdates() {
		expectReply(t, written, l[0].Msg, nil, written, updateReply(l[0].Msg, code))
	}
}

// A message with pointers and great letters is done as it is read.
func TestServeOfPackedMessages(t *testing.T) {
	g := gateOfAll()
	for _, m := range []impl.Msg{upsOf("+ b.home. 9 CNAME pc.home.", "any b.c.home. ANY"), query(named("pc.home."), 1), query(named("y.com."), 1), query(named("no.x.com."), 1), query(named("3.0.0.10.in-addr.arpa."), 12)} {
		plain, x := checkServe(t, g, evMsg(m))
		for _, w := range []writer{{packing: true}, {great: true}, {packing: true, great: true}} {
			expectServe(t, g, impl.Event{Bytes: w.msg(m)}, plain, x)
		}
	}
}

func TestServeOfOwnNames(t *testing.T) {
	h := home(10, 5, 7, texts{"3 m1 pc 20 won", "4 m2 pc 30 lost"}, "web.home. 9 CNAME pc.home.", "away.home. 9 CNAME y.com.", "sub.home. 9 NS pc.home.")
	soas, backSoas := texts{"home. 60 SOA home. 5 60"}, texts{backOrigin + " 60 SOA " + backOrigin + " 7 60"}
	address := "pc.home. 60 A 167772163"
	// What is asked for of the house is never kept, and not looked for in the cache.
	odd := cached(5, 9, lack("pc.home. A", 3, 3, 50, 2), hit(3, 50, 3, "no.home. 9 A 66"), hit(3, 50, 4, "4.0.0.10.in-addr.arpa. 9 PTR y.com."))
	odd.Slots = byPlace(odd.Slots)
	for _, c := range []struct {
		text        string
		code        int
		auth        bool
		answers     texts
		auths, more texts
	}{
		{"pc.home. A", 0, true, texts{address}, nil, nil},
		{"pc.home. TXT", 0, true, nil, soas, nil},
		{"no.home. A", 3, true, nil, soas, nil},
		{"no.pc.home. A", 3, true, nil, soas, nil},
		{"home. SOA", 0, true, soas, nil, nil},
		{"home. ANY", 0, true, soas, nil, nil},
		{"web.home. A", 0, true, texts{"web.home. 9 CNAME pc.home.", address}, nil, nil},
		{"away.home. A", 0, true, texts{"away.home. 9 CNAME y.com."}, nil, nil},
		{"x.sub.home. A", 0, false, nil, texts{"sub.home. 9 NS pc.home."}, texts{address}},
		{"3.0.0.10.in-addr.arpa. PTR", 0, true, texts{"3.0.0.10.in-addr.arpa. 60 PTR pc.home."}, nil, nil},
		{"3.0.0.10.in-addr.arpa. A", 0, true, nil, backSoas, nil},
		{"4.0.0.10.in-addr.arpa. PTR", 3, true, nil, backSoas, nil},
		{backOrigin + " ANY", 0, true, backSoas, nil, nil},
	} {
		n, ty := asked(c.text)
		for _, cache := range []impl.Cache{{}, odd} {
			for _, g := range []impl.Gate{gateway(wrote(h, 0), cache), gateway(wrote(h, 0, txTick(9)), cache), gateIn(world{}, wrote(h, 0), cache)} {
				for _, m := range someIds(query(n, ty)) {
					expectReply(t, g, m, allLost(24), g, reply(m, c.code, c.auth, c.answers, c.auths, c.more))
				}
			}
		}
	}
}

// What is asked for is looked for in the head, what is not safe with it.
func TestOwnNamesOfTheHead(t *testing.T) {
	g := gateway(wrote(home(0, 5, 7, nil), 0, txBind("3 m1 pc 20"), txUps("+ no.home. 9 A 4"), txTick(5)), impl.Cache{})
	soas := texts{"home. 60 SOA home. 7 60"}
	pc, no, old := query(named("pc.home."), 1), query(named("no.home."), 1), query(named("old.home."), 1)
	expectReply(t, g, pc, nil, g, reply(pc, 0, true, texts{"pc.home. 60 A 167772163"}, nil, nil))
	expectReply(t, g, no, nil, g, reply(no, 0, true, texts{"no.home. 9 A 4"}, nil, nil))
	expectReply(t, g, old, nil, g, reply(old, 3, true, nil, soas, nil))
	for keep, codes := range [][]int{{3, 3}, {0, 3}, {0, 0}, {0, 0}} {
		after, _ := checkServe(t, g, evCrash(keep))
		_, x := checkServe(t, after, evMsg(pc))
		_, y := checkServe(t, after, evMsg(no))
		if x.Code != codes[0] || y.Code != codes[1] {
			t.Errorf("behind a crash that keeps %d: %s, %s", keep, toldTold(x), toldTold(y))
		}
	}
}

// Names that only end alike are not the house's.
func TestNamesThatAreNotTheHouses(t *testing.T) {
	g := gateIn(worldOf([]int{1}, zone(".", ". 60 SOA . 1 60", "xhome. 60 A 1", "arpa. 60 A 2", "in-addr.arpa. 60 A 3", "10.in-addr.arpa. 60 A 4", "0.10.in-addr.arpa. 60 A 5", "1.0.10.in-addr.arpa. 60 A 6", "10.0.10.in-addr.arpa. 60 A 7", "home.com. 60 A 8", "homes. 60 A 9", "home. 60 A 66", "a.home. 60 A 66", "0.0.10.in-addr.arpa. 60 A 66", "0.0.0.10.in-addr.arpa. 60 A 66", "home.arpa. 60 A 10", ". 60 A 11")), wrote(home(0, 5, 7, nil), 0), impl.Cache{})
	for text, addr := range map[string]int{"xhome.": 1, "arpa.": 2, "in-addr.arpa.": 3, "10.in-addr.arpa.": 4, "0.10.in-addr.arpa.": 5, "1.0.10.in-addr.arpa.": 6, "10.0.10.in-addr.arpa.": 7, "home.com.": 8, "homes.": 9, "home.arpa.": 10, ".": 11} {
		m := query(named(text), 1)
		answer := fmt.Sprintf("%s 60 A %d", text, addr)
		expectReply(t, g, m, nil, withCache(g, cached(0, 1, hit(1, 60, 1, answer))), reply(m, 0, false, texts{answer}, nil, nil))
	}
	for text, code := range map[string]int{"home.": 0, "a.home.": 3, "0.0.10.in-addr.arpa.": 0, "0.0.0.10.in-addr.arpa.": 3} {
		if after, x := checkServe(t, g, evAsk(text+" A")); x.Code != code || len(after.Cache.Slots) != 0 {
			t.Errorf("%s is told %s", text, toldTold(x))
		}
	}
}

func TestTypesThatAreNotAskedFor(t *testing.T) {
	for _, g := range []impl.Gate{gateOfAll(), afar(impl.Cache{}), gateIn(world{}, wrote(base(), 0), eightSlots())} {
		for _, text := range []string{"y.com.", "a.com.", ".", "no.com.", "in-addr.arpa.", "xhome."} {
			for _, m := range someIds(query(named(text), 255)) {
				expectReply(t, g, m, nil, g, reply(m, 4, false, nil, nil, nil))
				expectReply(t, g, m, allLost(24), g, reply(m, 4, false, nil, nil, nil))
			}
		}
	}
}

// usedIn is a cache in which one slot was asked for now.
func usedIn(c impl.Cache, at int) impl.Cache {
	c.Slots = slices.Clone(c.Slots)
	c.Turn++
	c.Slots[at].Used = c.Turn
	return c
}

// What the cache has is answered by that, whatever is lost, and whatever the world says.
func TestAnswersOutOfTheCache(t *testing.T) {
	c := someCache()
	for at, want := range []struct {
		text    string
		code    int
		answers texts
	}{
		{"com. NS", 0, texts{"com. 50 NS ns.com.", "com. 50 NS ns2.com."}},
		{"a.com. A", 0, texts{"a.com. 1 A 1", "a.com. 1 A 2", "a.com. 1 A 256"}},
		{"a.com. TXT", 0, nil},
		{"b.com. A", 3, nil},
		{"c.com. TXT", 0, texts{"c.com. 1000 TXT x"}},
	} {
		n, ty := asked(want.text)
		for _, w := range []world{greatWorld(), {}} {
			g := gateIn(w, wrote(base(), 0), c)
			for _, m := range someIds(query(n, ty)) {
				r := reply(m, want.code, false, want.answers, nil, nil)
				after := expectReply(t, g, m, allLost(24), withCache(g, usedIn(c, at)), r)
				expectReply(t, after, m, nil, withCache(g, usedIn(after.Cache, at)), r)
				last := withCache(g, cached(c.Now, 1000000, c.Slots...))
				expectReply(t, last, m, nil, last, r)
			}
		}
	}
}

func TestAnswersThatAreAskedFor(t *testing.T) {
	for _, c := range []struct {
		text    string
		code    int
		answers texts
		slots   []impl.Slot
	}{
		{". SOA", 0, texts{". 60 SOA . 1 60"}, []impl.Slot{hit(1, 60, 1, ". 60 SOA . 1 60")}},
		{". TXT", 0, nil, []impl.Slot{lack(". TXT", 2, 2, 60, 1)}},
		{"nothing. A", 3, nil, []impl.Slot{lack("nothing. A", 3, 2, 60, 1)}},
		{"a. A", 0, texts{"a. 60 CNAME y.com.", "y.com. 60 A 20"}, []impl.Slot{hit(1, 60, 1, "a. 60 CNAME y.com."), hit(1, 60, 2, "y.com. 60 A 20")}},
		{"a. CNAME", 0, texts{"a. 60 CNAME y.com."}, []impl.Slot{hit(1, 60, 1, "a. 60 CNAME y.com.")}},
		{"y.com. A", 0, texts{"y.com. 60 A 20"}, []impl.Slot{hit(1, 60, 1, "y.com. 60 A 20")}},
		{"y.com. TXT", 0, nil, []impl.Slot{lack("y.com. TXT", 2, 2, 60, 1)}},
		{"z.com. A", 0, nil, []impl.Slot{lack("z.com. A", 2, 2, 60, 1)}},
		{"no.com. A", 3, nil, []impl.Slot{lack("no.com. A", 3, 2, 60, 1)}},
		{"v.com. A", 0, texts{"v.com. 60 CNAME w.com.", "w.com. 60 CNAME y.com.", "y.com. 60 A 20"}, []impl.Slot{hit(1, 60, 1, "v.com. 60 CNAME w.com."), hit(1, 60, 2, "w.com. 60 CNAME y.com."), hit(1, 60, 3, "y.com. 60 A 20")}},
		{"off.com. A", 3, texts{"off.com. 60 CNAME no.com."}, []impl.Slot{hit(1, 60, 1, "off.com. 60 CNAME no.com.")}},
		{"p.com. A", 2, nil, nil}, {"net. A", 2, nil, nil}, {"bare. A", 2, nil, nil}, {"odd. A", 2, nil, nil}, {"e.org. A", 2, nil, nil},
		{"far.com. A", 0, texts{"far.com. 60 CNAME a.org.", "a.org. 60 A 40"}, []impl.Slot{hit(1, 60, 1, "far.com. 60 CNAME a.org."), hit(1, 60, 2, "a.org. 60 A 40")}},
		{"in.com. A", 0, texts{"in.com. 60 CNAME a.x.com.", "a.x.com. 60 A 30", "a.x.com. 60 A 31"}, []impl.Slot{hit(1, 60, 1, "in.com. 60 CNAME a.x.com."), hit(1, 60, 2, "a.x.com. 60 A 30", "a.x.com. 60 A 31")}},
		{"a.x.com. TXT", 0, texts{"a.x.com. 60 TXT t"}, []impl.Slot{hit(1, 60, 1, "a.x.com. 60 TXT t")}},
		{"a.b.org. A", 0, texts{"a.b.org. 60 A 50"}, []impl.Slot{hit(1, 60, 1, "a.b.org. 60 A 50")}},
	} {
		n, ty := asked(c.text)
		for _, m := range someIds(query(n, ty)) {
			g := afar(impl.Cache{})
			want := withCache(g, cached(0, len(c.slots), byPlace(c.slots)...))
			r := reply(m, c.code, false, c.answers, nil, nil)
			expectReply(t, g, m, nil, want, r)
			if c.code != 2 {
				expectReply(t, g, m, flags(3, 0, 2), want, r)
			}
			expectReply(t, g, m, allLost(12), g, reply(m, 2, false, nil, nil, nil))
		}
	}
}

// A question may bring records; nothing is believed of them.
func TestQuestionsWithRecords(t *testing.T) {
	for _, text := range []string{"y.com. A", "no.com. A", "pc.home. A", "4.0.0.10.in-addr.arpa. PTR"} {
		n, ty := asked(text)
		m := query(n, ty)
		plain, x := checkServe(t, gateOfAll(), evMsg(m))
		m.Answers, m.Auths, m.More = recs("y.com. 60 A 66", "no.com. 60 A 66"), recs("com. 60 NS ns.com."), recs("ns.com. 60 A 66")
		expectServe(t, gateOfAll(), evMsg(m), plain, x)
	}
}

func TestLostOnes(t *testing.T) {
	for _, c := range []struct {
		hints []int
		text  string
		lost  []bool
		code  int
	}{
		{[]int{1}, "y.com. A", flags(24), 0}, {[]int{1}, "y.com. A", flags(1, 0), 0}, {[]int{1}, "y.com. A", allLost(9), 0}, {[]int{1}, "y.com. A", allLost(10), 2}, {[]int{1}, "y.com. A", allLost(24), 2},
		{[]int{1}, ". SOA", allLost(10), 0}, {[]int{1}, ". SOA", allLost(11), 2}, {[]int{9}, "y.com. A", nil, 2}, {[]int{9, 8, 7, 1}, "y.com. A", nil, 0}, {[]int{1, 9}, "no.com. A", flags(1, 0), 3}, {[]int{4}, "y.com. A", nil, 2},
	} {
		g := afar(impl.Cache{})
		g.Hints = c.hints
		after, x := checkServe(t, g, evAsk(c.text, c.lost...))
		if x.Code != c.code || len(after.Cache.Slots) != map[int]int{0: 1, 2: 0, 3: 1}[c.code] {
			t.Errorf("%s at %v, lost %v: %s, %s", c.text, c.hints, c.lost, toldTold(x), toldCache(after.Cache))
		}
	}
	nowhere := gateIn(world{}, wrote(base(), 0), impl.Cache{})
	m := query(named("y.com."), 1)
	expectReply(t, nowhere, m, nil, nowhere, reply(m, 2, false, nil, nil, nil))
}

// The same question is answered out of the cache the next time, with less time as time goes on, until that is over.
func TestTheNextTime(t *testing.T) {
	y, no, dry, alias := query(named("y.com."), 1), query(named("no.com."), 1), query(named("y.com."), 16), query(named("w.com."), 1)
	g := afar(impl.Cache{})
	for _, m := range []impl.Msg{y, no, dry} {
		g, _ = checkServe(t, g, evMsg(m))
	}
	for _, now := range []int{0, 1, 10, 30, 58, 59} {
		g, _ = checkServe(t, g, evTick(now))
		for i, r := range []impl.Msg{reply(y, 0, false, texts{fmt.Sprintf("y.com. %d A 20", 60-now)}, nil, nil), reply(no, 3, false, nil, nil, nil), reply(dry, 0, false, nil, nil, nil)} {
			m := []impl.Msg{y, no, dry}[i]
			n, ty := m.Qs[0].Name, m.Qs[0].Type
			g = expectReply(t, g, m, allLost(24), withCache(g, usedIn(g.Cache, slotIn(g.Cache, n, ty))), r)
		}
		if len(g.Cache.Slots) != 3 {
			t.Fatal(toldCache(g.Cache))
		}
	}
	g, _ = checkServe(t, g, evTick(60))
	for _, m := range []impl.Msg{y, no, dry} {
		expectReply(t, g, m, allLost(24), g, reply(m, 2, false, nil, nil, nil))
	}
	expectReply(t, g, y, nil, withCache(g, cached(60, g.Cache.Turn+1, hit(1, 120, g.Cache.Turn+1, "y.com. 60 A 20"))), reply(y, 0, false, texts{"y.com. 60 A 20"}, nil, nil))
	// An alias is kept as such, so what it leads to is asked for anew.
	g, _ = checkServe(t, afar(impl.Cache{}), evMsg(alias))
	expectReply(t, g, alias, allLost(24), g, reply(alias, 2, false, nil, nil, nil))
	again := withCache(g, cached(0, 4, hit(1, 60, 3, "w.com. 60 CNAME y.com."), hit(1, 60, 4, "y.com. 60 A 20")))
	expectReply(t, g, alias, nil, again, reply(alias, 0, false, texts{"w.com. 60 CNAME y.com.", "y.com. 60 A 20"}, nil, nil))
	expectReply(t, g, y, allLost(24), withCache(g, usedIn(g.Cache, 1)), reply(y, 0, false, texts{"y.com. 60 A 20"}, nil, nil))
}

// small is a gateway into a world of the root alone, with these records.
func small(c impl.Cache, texts ...string) impl.Gate {
	w := worldOf([]int{1}, zone(".", append(texts, ". 60 SOA . 1 60")...))
	return gateIn(w, wrote(home(0, 5, 5, nil), 0), c)
}

// Sets of which there is not one time, or that are not in order, are not kept; all others of the same answer are.
func TestWhatTheCacheDoesNotLearn(t *testing.T) {
	a, w := query(named("a."), 1), query(named("w."), 1)
	for _, c := range []struct {
		m     impl.Msg
		texts texts
		want  impl.Cache
	}{
		{a, texts{"a. 9 A 1", "a. 8 A 2"}, cached(100, 20)},
		{a, texts{"a. 9 A 1", "a. 9 A 2", "a. 8 A 3"}, cached(100, 20)},
		{a, texts{"a. 0 A 1"}, cached(100, 20)},
		{a, texts{"a. 0 A 1", "a. 0 A 2"}, cached(100, 20)},
		{a, texts{"a. 0 A 1", "a. 9 A 2"}, cached(100, 20)},
		{w, texts{"w. 7 CNAME a.", "a. 9 A 1", "a. 8 A 2"}, cached(100, 21, hit(1, 107, 21, "w. 7 CNAME a."))},
		{w, texts{"w. 0 CNAME a.", "a. 9 A 1", "a. 9 A 2"}, cached(100, 21, hit(1, 109, 21, "a. 9 A 1", "a. 9 A 2"))},
		{w, texts{"w. 0 CNAME v.", "v. 7 CNAME a.", "a. 0 A 1"}, cached(100, 21, hit(1, 107, 21, "v. 7 CNAME a."))},
		{w, texts{"w. 7 CNAME a.", "a. 9 A 1", "a. 9 A 2"}, cached(100, 22, hit(1, 109, 22, "a. 9 A 1", "a. 9 A 2"), hit(1, 107, 21, "w. 7 CNAME a."))},
		{a, texts{"a. 1 A 1"}, cached(100, 21, hit(1, 101, 21, "a. 1 A 1"))},
		{a, texts{"a. 1000 A 1"}, cached(100, 21, hit(1, 1100, 21, "a. 1000 A 1"))},
		{a, texts{"a. 1001 A 1"}, cached(100, 21, hit(1, 1100, 21, "a. 1001 A 1"))},
		{a, texts{"a. 100000 A 1"}, cached(100, 21, hit(1, 1100, 21, "a. 100000 A 1"))},
		{a, severalTexts(12, "a. 9 A %d"), cached(100, 21, hit(1, 109, 21, severalTexts(12, "a. 9 A %d")...))},
		{a, texts{"b. 9 A 1"}, cached(100, 21, lack("a. A", 3, 2, 160, 21))},
		{a, texts{"a. 9 TXT x"}, cached(100, 21, lack("a. A", 2, 2, 160, 21))},
		{w, texts{"w. 9 CNAME no."}, cached(100, 21, hit(1, 109, 21, "w. 9 CNAME no."))},
		{w, texts{"w. 9 CNAME w."}, cached(100, 20)},
		{w, texts{"w. 9 CNAME a.", "a. 9 NS ns.", "ns. 9 A 1"}, cached(100, 20)},
	} {
		g := small(cached(100, 20), c.texts...)
		got, x := checkServe(t, g, evMsg(c.m))
		if toldCache(got.Cache) != toldCache(c.want) {
			t.Errorf("%q: %s, and the cache is %s, want %s", c.texts, toldTold(x), toldCache(got.Cache), toldCache(c.want))
		}
	}
}

// Where two servers tell otherwise of the same names, one alias may come twice; then there is no set of it.
func TestAliasesThatComeTwice(t *testing.T) {
	round := []impl.Zone{zone("x.", "x. 60 SOA . 1 60", "a.x. 9 CNAME b.y."), zone("y.", "y. 60 SOA . 1 60", "b.y. 9 CNAME a.x.")}
	there := zone(".", ". 60 SOA . 1 60", "a.x. 9 A 7", "b.y. 9 A 8")
	m := query(named("a.x."), 1)
	ab, ba, a, b := "a.x. 9 CNAME b.y.", "b.y. 9 CNAME a.x.", "a.x. 9 A 7", "b.y. 9 A 8"
	for at, c := range []struct {
		answers texts
		want    impl.Cache
	}{
		{texts{a}, cached(0, 1, hit(1, 9, 1, a))},
		{texts{ab, b}, cached(0, 2, hit(1, 9, 1, ab), hit(1, 9, 2, b))},
		{texts{ab, ba, a}, cached(0, 3, hit(1, 9, 3, a), hit(1, 9, 1, ab), hit(1, 9, 2, ba))},
		{texts{ab, ba, ab, b}, cached(0, 2, hit(1, 9, 2, b), hit(1, 9, 1, ba))},
		{texts{ab, ba, ab, ba, a}, cached(0, 1, hit(1, 9, 1, a))},
		{texts{ab, ba, ab, ba, ab, b}, cached(0, 1, hit(1, 9, 1, b))},
	} {
		g := gateIn(worldOf([]int{1, 1, 2}, append(round, there)...), wrote(home(0, 5, 5, nil), 0), impl.Cache{})
		g.Hints = []int{1, 2}
		expectReply(t, g, m, flags(at+1, at), withCache(g, c.want), reply(m, 0, false, c.answers, nil, nil))
	}
}

// What servers tell of one name and type is one set, wherever it stands, if it is one in the order in which it came.
func TestSetsOfSeveralServers(t *testing.T) {
	round := []impl.Zone{zone("x.", "x. 60 SOA . 1 60", "a.x. 9 CNAME b.y."), zone("y.", "y. 60 SOA . 1 60", "b.y. 9 CNAME a.x.")}
	m := query(named("a.x."), 1)
	ab, ba := "a.x. 9 CNAME b.y.", "b.y. 9 CNAME a.x."
	for _, c := range []struct {
		other, to string
		want      impl.Cache
	}{
		{"a.x. 9 CNAME c.y.", "c.y. 9 A 7", cached(0, 3, hit(1, 9, 1, ab, "a.x. 9 CNAME c.y."), hit(1, 9, 2, ba), hit(1, 9, 3, "c.y. 9 A 7"))},
		{"a.x. 8 CNAME c.y.", "c.y. 9 A 7", cached(0, 2, hit(1, 9, 1, ba), hit(1, 9, 2, "c.y. 9 A 7"))},
		{"a.x. 9 CNAME a.y.", "a.y. 9 A 7", cached(0, 2, hit(1, 9, 2, "a.y. 9 A 7"), hit(1, 9, 1, ba))},
	} {
		w := worldOf([]int{1, 1, 2}, append(round, zone(".", ". 60 SOA . 1 60", c.other, c.to))...)
		g := gateIn(w, wrote(home(0, 5, 5, nil), 0), impl.Cache{})
		g.Hints = []int{1, 2}
		expectReply(t, g, m, flags(3, 2), withCache(g, c.want), reply(m, 0, false, texts{ab, ba, c.other, c.to}, nil, nil))
	}
}

// What is trusted more stays, what is trusted as much is learnt anew; who asked is told what was heard.
func TestRanksOfWhatIsLearnt(t *testing.T) {
	m := query(named("w."), 1)
	r := reply(m, 0, false, texts{"w. 9 CNAME a.", "a. 9 A 1"}, nil, nil)
	for rank := range 4 {
		for _, elder := range []impl.Slot{hit(rank, 150, 7, "a. 50 A 66"), lack("a. A", 2, rank, 150, 7), lack("a. A", 3, rank, 150, 7)} {
			g := small(cached(100, 20, elder), "w. 9 CNAME a.", "a. 9 A 1")
			want := cached(100, 22, hit(1, 109, 22, "a. 9 A 1"), hit(1, 109, 21, "w. 9 CNAME a."))
			if rank > 1 {
				want = cached(100, 21, elder, hit(1, 109, 21, "w. 9 CNAME a."))
			}
			expectReply(t, g, m, nil, withCache(g, want), r)
		}
		g := small(cached(100, 20, hit(rank, 150, 7, "w. 50 CNAME b.")), "w. 9 CNAME a.", "a. 9 A 1")
		want := cached(100, 22, hit(1, 109, 22, "a. 9 A 1"), hit(1, 109, 21, "w. 9 CNAME a."))
		if rank > 1 {
			want = cached(100, 21, hit(1, 109, 21, "a. 9 A 1"), g.Cache.Slots[0])
		}
		expectReply(t, g, m, nil, withCache(g, want), r)
	}
}

func TestWhatAFullCacheLearns(t *testing.T) {
	g := small(eightSlots(), "w. 9 CNAME v.", "v. 9 CNAME a.", "a. 9 A 1")
	m := query(named("w."), 1)
	left := byPlace(slices.Concat(byUse(g.Cache.Slots)[3:], []impl.Slot{hit(1, 109, 21, "w. 9 CNAME v."), hit(1, 109, 22, "v. 9 CNAME a."), hit(1, 109, 23, "a. 9 A 1")}))
	expectReply(t, g, m, nil, withCache(g, cached(100, 23, left...)), reply(m, 0, false, texts{"w. 9 CNAME v.", "v. 9 CNAME a.", "a. 9 A 1"}, nil, nil))
	no := query(named("no."), 1)
	left = byPlace(append(byUse(g.Cache.Slots)[1:], lack("no. A", 3, 2, 160, 21)))
	expectReply(t, g, no, nil, withCache(g, cached(100, 21, left...)), reply(no, 3, false, nil, nil, nil))
	// Behind the last turn nothing more is kept, but all is answered.
	for _, turn := range []int{999998, 999999, 1000000} {
		g := small(cached(100, turn), "w. 9 CNAME v.", "v. 9 CNAME a.", "a. 9 A 1")
		slots := []impl.Slot{hit(1, 109, turn+1, "w. 9 CNAME v."), hit(1, 109, turn+2, "v. 9 CNAME a.")}[:1000000-turn]
		expectReply(t, g, m, nil, withCache(g, cached(100, 1000000, byPlace(slots)...)), reply(m, 0, false, texts{"w. 9 CNAME v.", "v. 9 CNAME a.", "a. 9 A 1"}, nil, nil))
	}
	last := small(cached(100, 1000000), "a. 9 A 1")
	expectReply(t, last, no, nil, last, reply(no, 3, false, nil, nil, nil))
}

// longTexts are eight, the last of so many signs: then an answer that leads to them by an alias of far. has 485 bytes more than that.
func longTexts(n int) texts {
	out := texts{"big.org. 60 TXT " + strings.Repeat("z", n)}
	for i := range 7 {
		out = append(out, "big.org. 60 TXT "+strings.Repeat(string(rune('a'+i)), 40))
	}
	return out
}

// An answer that is too long fails, though each server's answer was not; what was heard is learnt all the same.
func TestAnswersFromAfarThatAreTooLong(t *testing.T) {
	far := query(named("far."), 16)
	for n := 25; n < 31; n++ {
		org := append(longTexts(n), "org. 60 SOA org. 1 60")
		w := worldOf([]int{1, 4}, zone(".", ". 60 SOA . 1 60", "far. 60 CNAME big.org.", "org. 60 NS ns.org.", "ns.org. 60 A 4"), zone("org.", org...))
		g := gateIn(w, wrote(base(), 0), impl.Cache{})
		r := reply(far, 0, false, append(texts{"far. 60 CNAME big.org."}, longTexts(n)...), nil, nil)
		if size := len(bytesOfMsg(r)); size != 485+n || impl.MsgOk(r) != (size <= 512) {
			t.Fatal(size, n)
		}
		if n > 27 {
			r = reply(far, 2, false, nil, nil, nil)
		}
		want := withCache(g, cached(0, 2, hit(1, 60, 1, "far. 60 CNAME big.org."), hit(1, 60, 2, longTexts(n)...)))
		got := expectReply(t, g, far, nil, want, r)
		big := query(named("big.org."), 16)
		expectReply(t, got, big, allLost(24), withCache(got, usedIn(got.Cache, 1)), reply(big, 0, false, longTexts(n), nil, nil))
	}
}

// What a cache has may be too long as well; who asks is told so.
func TestAnswersOutOfTheCacheThatAreTooLong(t *testing.T) {
	m := query(named("big.org."), 16)
	for n := 20; n < 40; n++ {
		g := afar(cached(0, 5, hit(1, 60, 2, longTexts(n)...)))
		r := reply(m, 0, false, longTexts(n), nil, nil)
		if len(bytesOfMsg(r)) > 512 {
			t.Fatal(n)
		}
		expectReply(t, g, m, nil, withCache(g, usedIn(g.Cache, 0)), r)
	}
	var l []impl.Rr
	for i := range 12 {
		l = append(l, rec("big.org. 60 TXT "+strings.Repeat(string(rune('a'+i)), 40)))
	}
	for n := 1; n <= 12; n++ {
		g := afar(cached(0, 5, impl.Slot{Name: m.Qs[0].Name, Type: 16, Kind: 1, Rrs: l[:n], Rank: 1, Until: 60, Used: 2}))
		r := turned(reply(m, 0, false, nil, nil, nil), func(m *impl.Msg) { m.Answers = l[:n] })
		if n > 8 {
			r = reply(m, 2, false, nil, nil, nil)
		}
		expectReply(t, g, m, nil, withCache(g, usedIn(g.Cache, 0)), r)
	}
}

// checkRun holds Run to Serve, one by one, and gives what comes of it.
func checkRun(t *testing.T, g impl.Gate, l []impl.Event) (impl.Gate, []impl.Told) {
	t.Helper()
	want := g
	var wants []impl.Told
	for _, e := range l {
		var x impl.Told
		want, x = checkServe(t, want, e)
		wants = append(wants, x)
	}
	got, all, ok := impl.Run(g, l)
	if !ok || toldGate(got) != toldGate(want) || toldAll(all, toldTold) != toldAll(wants, toldTold) || len(all) != len(l) {
		t.Fatalf("Run %s = %s, %s, %v, want %s, %s", toldAll(l, toldEvent), toldGate(got), toldAll(all, toldTold), ok, toldGate(want), toldAll(wants, toldTold))
	}
	return got, all
}

func TestRunOfEveryKind(t *testing.T) {
	g, _ := impl.GateNew(5, greatWorld().zones, greatWorld().at, []int{1})
	back := "3.0.0.10.in-addr.arpa. PTR"
	l := []struct {
		e    impl.Event
		code int
	}{
		{evAsk("pc.home. A"), 3}, {evBind("3 m1 pc 20"), 0}, {evAsk("pc.home. A"), 0}, {evAsk(back), 0}, {evBind("4 m2 pc 30"), 5}, {evBind("3 m2 tv 30"), 2}, {evRelease(3, "m2"), 4},
		{evMsg(upsOf("+ no.home. 9 A 3")), 0}, {evMsg(upsOf("any pc.home. ANY")), 5}, {evAsk("y.com. A"), 0}, {evAsk("no.com. A"), 3}, {evAsk("y.com. ANY"), 4}, {evAsk("net. A"), 2}, {evTick(10), 0}, {evTick(9), 1},
		{evAsk("y.com. A", allLost(24)...), 0}, {evCrash(0), 0}, {evAsk("y.com. A", allLost(24)...), 2}, {evAsk("pc.home. A"), 0}, {evAsk("no.home. A"), 0}, {evCheck(), 0}, {evAsk(back), 0}, {impl.Event{}, -1},
		{evTick(20), 0}, {evAsk("pc.home. A"), 3}, {evAsk(back), 3}, {evBind("4 m2 pc 40"), 0}, {evRelease(4, "m2"), 0}, {evCrash(60), 0}, {evAsk("pc.home. A"), 3},
	}
	var events []impl.Event
	for _, one := range l {
		events = append(events, one.e)
	}
	got, all := checkRun(t, g, events)
	for i, one := range l {
		if all[i].Code != one.code {
			t.Errorf("event %d, %s is told %s", i, toldEvent(one.e), toldTold(all[i]))
		}
	}
	want := wrote(home(10, 7, 6, texts{"3 m1 pc 20 won", "4 m2 pc 30 lost"}, "no.home. 9 A 3"), 3, txTick(20), txBind("4 m2 pc 40"), txRelease(4, "m2"))
	if toldJournal(got.J) != toldJournal(want) || toldCache(got.Cache) != toldCache(cached(20, 0)) {
		t.Error(toldJournal(got.J), toldCache(got.Cache))
	}
}

func TestHowManyEvents(t *testing.T) {
	g := gateOfAll()
	got, all, ok := impl.Run(g, nil)
	if !ok || toldGate(got) != toldGate(g) || len(all) != 0 {
		t.Error(toldGate(got), all, ok)
	}
	for _, n := range []int{0, 1, 2, 29, 30} {
		var l []impl.Event
		for i := range n {
			l = append(l, evTick(10+i))
		}
		got, _ := checkRun(t, g, l)
		if len(got.J.Txns) != 2+n {
			t.Error(n, toldJournal(got.J))
		}
	}
	for _, n := range []int{31, 32, 60, 500} {
		for _, e := range []impl.Event{evTick(10), evCheck(), {}, evAsk("y.com. A"), {Kind: -1}} {
			expectNotRun(t, fmt.Sprint(n, " events"), g, slices.Repeat([]impl.Event{e}, n))
		}
	}
	// Those behind the list's length don't count.
	many := slices.Repeat([]impl.Event{evTick(10)}, 40)
	many[30].Kind = 9
	checkRun(t, g, many[:30])
}

func TestRunOfFewEvents(t *testing.T) {
	for why, g := range map[string]impl.Gate{"all": gateOfAll(), "new": afar(impl.Cache{}), "nowhere": gateIn(world{}, wrote(base(), 0), eightSlots())} {
		for i := range fewEvents() {
			l := slices.Concat(fewEvents()[i:], fewEvents()[:i])
			got, all := checkRun(t, g, l)
			if !impl.GateOk(got) || len(all) != len(l) {
				t.Fatal(why, toldGate(got))
			}
		}
	}
}

func TestGoodGatesServe(t *testing.T) {
	all, l := goodGates(), fewEvents()
	for i, why := range slices.Sorted(maps.Keys(all)) {
		for k := range 5 {
			checkServe(t, all[why], l[(i+3*k)%len(l)])
		}
	}
	g := gateOfAll()
	for _, e := range goodEvents() {
		checkServe(t, g, e)
	}
}

// gateRun is a gateway that things happen to. What was told to be done is done to two houses apart from it: what must be
// there behind a crash, and what must be there now, with what somebody put behind it who was cut off.
type gateRun struct {
	run
	g     impl.Gate
	safe  impl.House
	loose []impl.Txn
	asked []impl.Msg
}

func gateRunOf(t *testing.T, m *mixer, g impl.Gate, codes map[string]int) *gateRun {
	h := headIn(g.J)
	return &gateRun{run: run{t: t, m: m, h: h, codes: codes}, g: g, safe: h}
}

// question gives one that was asked before, more often than not.
func (r *gateRun) question() impl.Msg {
	if len(r.asked) > 0 && r.m.below(3) > 0 {
		return turned(r.asked[r.m.below(len(r.asked))], func(m *impl.Msg) { m.Id = r.m.below(65536) })
	}
	out := query(r.m.askName(), r.m.of(1, 1, 1, 1, 12, 16, 5, 2, 255))
	switch r.m.below(6) {
	case 0:
		out.Qs[0].Name = r.m.name(named("home."))
	case 1:
		out.Qs[0].Name = backName(subnet + r.m.below(12))
	case 2, 3, 4:
		for _, z := range r.g.Zones[:min(len(r.g.Zones), 1+r.m.below(5))] {
			x := z.Rrs[r.m.below(len(z.Rrs))]
			out.Qs[0] = impl.Question{Name: x.Name, Type: r.m.of(x.Type, x.Type, 1)}
		}
	}
	out.Id = r.m.below(65536)
	r.asked = append(r.asked, out)
	return out
}

func (r *gateRun) event() impl.Event {
	l := r.lease()
	switch r.m.below(20) {
	case 0, 1, 2, 3:
		return evTxn(impl.Txn{Kind: 1, Ip: l.Ip, Client: l.Client, Host: l.Host, When: l.Until})
	case 4:
		return evTxn(impl.Txn{Kind: 2, Ip: l.Ip, Client: l.Client})
	case 5, 6, 7:
		return evTick(min(max(r.h.Now, r.g.Cache.Now-2)+r.m.of(0, 1, 1, 2, 5, 9, -1), 1000000))
	case 8:
		return []impl.Event{evCrash(r.m.of(0, 0, 1, 2, 60)), evCheck()}[r.m.below(2)]
	case 9:
		return []impl.Event{{Bytes: r.m.appendMsg()}, {Bytes: r.m.appendMsg()}, {Kind: 6}, {Bytes: make([]byte, 513)}}[r.m.below(4)]
	case 10, 11, 12:
		out := r.updates()
		out.Id = r.m.below(65536)
		return evMsg(out)
	}
	lost := make([]bool, r.m.of(0, 0, 3, 12, 24))
	for i := range lost {
		lost[i] = r.m.below(5) == 0
	}
	return evMsg(r.question(), lost...)
}

// put writes something down that is not safe, as somebody might who was cut off.
func (r *gateRun) put() {
	l := r.lease()
	x := []impl.Txn{{Kind: 1, Ip: l.Ip, Client: l.Client, Host: l.Host, When: l.Until}, {Kind: 2, Ip: l.Ip, Client: l.Client}, txTick(min(r.h.Now+1, 1000000))}[r.m.below(3)]
	if len(r.g.J.Txns) == 60 || !txnMay(x) {
		return
	}
	r.loose = append(r.loose, x)
	r.g.J.Txns = append(slices.Clone(r.g.J.Txns), x)
	r.h, _ = doneIn(r.h, x)
}

// note writes down what an event did, by what was told alone.
func (r *gateRun) note(e impl.Event, x impl.Told) {
	done := impl.Txn{Kind: e.Kind, Ip: e.Ip, Client: e.Client, Host: e.Host, When: e.When}
	switch e.Kind {
	case 0:
		m, ok := readMsg(e.Bytes)
		if !ok || m.Op != 5 || x.Code != 0 {
			return
		}
		done = txUpdate(m)
	case 4:
		for _, kept := range r.loose[:min(e.When, len(r.loose))] {
			r.safe, _ = doneIn(r.safe, kept)
		}
		r.h, r.loose = r.safe, nil
		return
	case 5:
		r.safe, r.loose = r.h, nil
		return
	}
	if isDoneBy(done, x.Code) {
		r.h, _ = doneIn(r.h, done)
		r.safe, r.loose = r.h, nil
	}
}

// serve does an event; behind it all is there that was told to be done, and nothing else.
func (r *gateRun) serve() {
	e := r.event()
	got, x := checkServe(r.t, r.g, e)
	r.codes[fmt.Sprint(e.Kind, " ", x.Code)]++
	if x.Code == -2 {
		return
	}
	r.note(e, x)
	r.count(e, got)
	turned := toldJournal(got.J) != toldJournal(r.g.J)
	r.g = got
	if !turned {
		return
	}
	expectHead(r.t, r.g.J, r.h)
	// A crash at any time keeps what was told to be done.
	after, _ := impl.Serve(r.g, evCrash(0))
	expectHead(r.t, after.J, r.safe)
}

// count tells from where a message was answered.
func (r *gateRun) count(e impl.Event, got impl.Gate) {
	m, ok := readMsg(e.Bytes)
	if e.Kind != 0 || !ok || m.Reply || m.Op == 5 {
		return
	}
	n, ty := m.Qs[0].Name, m.Qs[0].Type
	_, _, kind := gotIn(r.g.Cache, n, ty)
	switch {
	case isUnder(n, named("home.")) || isUnder(n, named(backOrigin)):
		r.codes["own"]++
	case ty != 255:
		r.codes[fmt.Sprint("afar ", kind)]++
	}
	if kind == 0 && toldCache(got.Cache) != toldCache(r.g.Cache) {
		r.codes["learnt"]++
	}
}

func TestMixedRunsOfAGateway(t *testing.T) {
	m := mixer(51)
	codes := map[string]int{}
	for i := range 48 {
		w := []world{greatWorld(), m.world()}[i%2]
		c := []impl.Cache{{}, {}, cached(999900, 5), cached(50, 999990)}[i/2%4]
		g := gateIn(w, wrote(starts(i/2), 0), c)
		g.Hints = append(m.ips(m.below(3)), slices.Concat(w.at, []int{1})[0])
		r := gateRunOf(t, &m, g, codes)
		for range 60 {
			if r.m.below(8) == 0 {
				r.put()
			}
			r.serve()
		}
	}
	for told, least := range map[string]int{
		"0 -2": 5, "0 -1": 5, "0 0": 400, "0 2": 50, "0 3": 200, "0 4": 10, "0 5": 10, "1 0": 100, "1 1": 20, "1 2": 20, "1 3": 5, "1 5": 30, "1 -2": 20, "2 0": 10, "2 4": 20, "3 0": 100, "3 1": 20, "4 0": 50, "5 0": 10, "6 -2": 10,
		"own": 300, "afar 0": 100, "afar 1": 30, "afar 2": 20, "afar 3": 20, "learnt": 100,
	} {
		if codes[told] < least {
			t.Error("too few of", told, codes)
		}
	}
}

// Run comes to what Serve comes to, one by one, and to nothing where one event may not be.
func TestMixedLists(t *testing.T) {
	m := mixer(61)
	full, wrong := 0, 0
	for i := range 40 {
		g := gateIn(m.world(), wrote(starts(i), 0), impl.Cache{})
		r := gateRunOf(t, &m, g, map[string]int{})
		var l []impl.Event
		for range m.of(0, 1, 5, 30, 30, 31) {
			e := r.event()
			if !eventMay(e) && m.below(3) > 0 {
				continue
			}
			l = append(l, e)
		}
		if len(l) > 30 || slices.ContainsFunc(l, func(e impl.Event) bool { return !eventMay(e) }) {
			wrong++
			expectNotRun(t, "wrong", g, l)
			continue
		}
		full++
		checkRun(t, g, l)
	}
	if full < 15 || wrong < 5 {
		t.Error("too few:", full, wrong)
	}
}

// holder has what a client was told: until when it has an address, and whether the name is its own.
type holder struct {
	client, host string
	until        int
	won          bool
}

// What somebody was told to have is there behind a crash that keeps nothing, and until it is given back or over; nothing else is.
func TestWhatWasToldIsThereBehindACrash(t *testing.T) {
	m := mixer(71)
	told := 0
	for range 30 {
		g := afar(impl.Cache{})
		held, written := map[int]holder{}, map[string]bool{}
		now := 0
		for i := range 40 {
			ip, client, host := subnet+1+m.below(6), []string{"m1", "m2"}[m.below(2)], []string{"a", "b", "c"}[m.below(3)]
			name := fmt.Sprintf("u%d.home.", m.below(9))
			e := []impl.Event{
				evTxn(impl.Txn{Kind: 1, Ip: ip, Client: []byte(client), Host: []byte(host), When: now + m.of(0, 1, 5, 30)}), evTxn(impl.Txn{Kind: 2, Ip: ip, Client: []byte(client)}), evTick(now + m.of(0, 1, 2, -1)*min(now, 1)),
				evMsg(upsOf("+ " + name + " 9 TXT t")), evMsg(upsOf("any " + name + " ANY")), evTick(now + 1), evCheck(),
			}[m.of(0, 0, 0, 1, 2, 3, 3, 4, 5, 6)]
			after, x := checkServe(t, g, e)
			g = after
			switch {
			case e.Kind == 1 && (x.Code == 0 || x.Code == 5):
				held[e.Ip] = holder{string(e.Client), string(e.Host), e.When, x.Code == 0}
			case e.Kind == 2 && x.Code == 0:
				delete(held, e.Ip)
			case e.Kind == 3 && x.Code == 0:
				now = e.When
				for ip, h := range held {
					if h.until <= now {
						delete(held, ip)
					}
				}
			case e.Kind == 0 && x.Code == 0:
				u, _ := readMsg(e.Bytes)
				written[wordsOfName(u.Ups[0].Rr.Name)] = !u.Ups[0].Bare
			}
			crashed, _ := checkServe(t, g, evCrash(0))
			head, ok := impl.Head(crashed.J)
			checkHeld(t, head, ok, now, held, written)
			told += len(held)
			if i%5 == 4 {
				g = crashed
			}
		}
	}
	if told < 1000 {
		t.Error("too little was told:", told)
	}
}

func checkHeld(t *testing.T, h impl.House, ok bool, now int, held map[int]holder, written map[string]bool) {
	t.Helper()
	if !ok || h.Now != now || len(h.Leases) != len(held) {
		t.Fatalf("%s, but %d have %v", toldHouse(h), now, held)
	}
	records := 1
	for _, l := range h.Leases {
		have, is := held[l.Ip]
		if !is || have != (holder{string(l.Client), string(l.Host), l.Until, l.Won}) {
			t.Fatalf("%s, but it is told %v", toldLease(l), have)
		}
	}
	for name, is := range written {
		if is != impl.HasName(h.Zone, named(name)) {
			t.Fatalf("%s is told %v: %s", name, is, toldHouse(h))
		}
		if is {
			records++
		}
	}
	for _, r := range h.Zone.Rrs {
		if r.Type == 16 || r.Type == 6 {
			records--
		}
	}
	if records != 0 {
		t.Fatalf("%s has %d more or less than was told: %v", toldHouse(h), records, written)
	}
}

// houseTextIn says again what HouseText does.
func houseTextIn(h impl.House) string {
	out := "now " + strconv.Itoa(h.Now) + "\n" + linesOf("zone", h.Zone.Rrs) + linesOf("rev", h.Rev.Rrs)
	for _, l := range h.Leases {
		word := map[bool]string{true: "named", false: "lease"}[l.Won]
		out += fmt.Sprintf("%s 10.0.0.%d %s %d\n", word, l.Ip-subnet, l.Host, l.Until)
	}
	return out
}

func TestHouseText(t *testing.T) {
	empty := "now 0\nzone home. 60 SOA home. 5 60\nrev 0.0.10.in-addr.arpa. 60 SOA 0.0.10.in-addr.arpa. 7 60\n"
	some := "now 10\n" +
		"zone home. 60 SOA home. 5 60\n" +
		"zone old.home. 9 A 0.0.0.3\n" +
		"zone old.home. 9 TXT 6869\n" +
		"zone pc.home. 60 A 10.0.0.3\n" +
		"zone pc.home. 60 DHCID 000101" + fmt.Sprintf("%x", sumOf([]byte("m1\x02pc\x04home\x00"))) + "\n" +
		"zone web.home. 9 CNAME pc.home.\n" +
		"rev 0.0.10.in-addr.arpa. 60 SOA 0.0.10.in-addr.arpa. 7 60\n" +
		"rev 3.0.0.10.in-addr.arpa. 60 PTR pc.home.\n" +
		"rev 9.0.0.10.in-addr.arpa. 9 NS ns.home.\n" +
		"named 10.0.0.3 pc 20\n" +
		"lease 10.0.0.4 pc 30\n" +
		"lease 10.0.0.254 abcdefghijklmno 2000000\n"
	for want, h := range map[string]impl.House{
		empty: home(0, 5, 7, nil),
		some:  home(10, 5, 7, texts{"3 m1 pc 20 won", "4 m2 pc 30 lost", "254 m3 abcdefghijklmno 2000000 lost"}, "old.home. 9 A 3", "old.home. 9 TXT hi", "web.home. 9 CNAME pc.home.", "9.0.0.10.in-addr.arpa. 9 NS ns.home."),
	} {
		if got := impl.HouseText(h); string(got) != want {
			t.Errorf("HouseText(%s) = %q, want %q", toldHouse(h), got, want)
		}
	}
	for why, h := range goodHouses() {
		if got := impl.HouseText(h); string(got) != houseTextIn(h) || len(got) == 0 {
			t.Errorf("%s: HouseText(%s) = %q", why, toldHouse(h), got)
		}
	}
	for why, h := range badHouses() {
		if got := impl.HouseText(h); len(got) != 0 {
			t.Errorf("%s: HouseText(%s) = %q", why, toldHouse(h), got)
		}
	}
}

// gateArgs are all arguments that a function of the chapter may take.
type gateArgs struct {
	G      impl.Gate
	E      impl.Event
	L      []impl.Event
	Serial int
}

func roomyEvent(e impl.Event) impl.Event {
	e.Bytes, e.Client, e.Host = roomyBytes(e.Bytes), roomyBytes(e.Client), roomyBytes(e.Host)
	e.Lost = append(slices.Clone(e.Lost), true, true)[:len(e.Lost)]
	return e
}

func (a gateArgs) roomy() gateArgs {
	a.G.J, a.G.Cache = journalArgs{J: a.G.J}.roomy().J, cacheArgs{C: a.G.Cache}.roomy().C
	a.G.Zones, a.G.At, a.G.Hints = roomy(a.G.Zones, roomyZone, rootZone()), roomyInts(a.G.At), roomyInts(a.G.Hints)
	a.E, a.L = roomyEvent(a.E), roomy(a.L, roomyEvent, impl.Event{Kind: 9})
	return a
}

func (a gateArgs) told() string {
	return fmt.Sprint(toldGate(a.G), toldEvent(a.E), toldAll(a.L, toldEvent), a.Serial)
}

// gateAnswer is all that one function answers.
type gateAnswer struct {
	G   impl.Gate
	X   impl.Told
	All []impl.Told
	B   []byte
}

func (a gateAnswer) told(beside ...any) (any, string) {
	return a, fmt.Sprint(toldGate(a.G), toldTold(a.X), toldAll(a.All, toldTold), a.B, beside)
}

func gateCalls() map[string]func(a gateArgs) (any, string) {
	return map[string]func(a gateArgs) (any, string){
		"GateOk":  func(a gateArgs) (any, string) { return gateAnswer{}.told(impl.GateOk(a.G)) },
		"EventOk": func(a gateArgs) (any, string) { return gateAnswer{}.told(impl.EventOk(a.E)) },
		"GateNew": func(a gateArgs) (any, string) {
			g, ok := impl.GateNew(a.Serial, a.G.Zones, a.G.At, a.G.Hints)
			return gateAnswer{G: g}.told(ok)
		},
		"Serve": func(a gateArgs) (any, string) {
			g, x := impl.Serve(a.G, a.E)
			return gateAnswer{G: g, X: x}.told()
		},
		"Run": func(a gateArgs) (any, string) {
			g, all, ok := impl.Run(a.G, a.L)
			return gateAnswer{G: g, All: all}.told(ok)
		},
		"HouseText": func(a gateArgs) (any, string) { return gateAnswer{B: impl.HouseText(a.G.J.Base)}.told() },
	}
}

func manyGateArgs() []gateArgs {
	j, _ := long()
	bad := gateOfAll()
	bad.Hints = nil
	gates := []impl.Gate{
		gateOfAll(), gateway(j, eightSlots()), gateway(wrote(base(), 0), cached(0, 1000000)), afar(impl.Cache{}), gateIn(world{}, wrote(base(), 0), someCache()), gateIn(worldOf([]int{}), wrote(eight(), 0, fewTxns()...), someCache()),
		gateway(wrote(home(0, 5, 5, nil), 7, ticks(60)...), impl.Cache{}), bad, {},
	}
	events := append(fewEvents(), evAsk("a.com. A"), evAsk("a.com. TXT"), evAsk("b.com. A"), evAsk("v.com. A"), evAsk("far.com. A"), evAsk("off.com. A"), evAsk("no.com. A"), evAsk("y.com. ANY"), evMsg(upsOf("+ com. 9 A 3")), evMsg(upsOf("+ home. 9 SOA a.home. 9 9", "+ no.home. 9 TXT abc")), impl.Event{Kind: 6})
	var out []gateArgs
	for _, g := range gates {
		for i, e := range events {
			out = append(out, gateArgs{g, e, slices.Concat(events[i:], events[:i])[:i%7], 5 - i%3*3})
		}
	}
	return out
}

func TestGatewayAnswersAreNewMemory(t *testing.T) {
	for call, run := range gateCalls() {
		for _, plain := range manyGateArgs() {
			checkCall(t, call, run, plain, plain.roomy())
		}
	}
}

// Arguments may share memory with each other, and in themselves; what is answered may not.
func TestGatewaysBySharedMemory(t *testing.T) {
	name, origin := named("m1.com."), named("com.")
	text, ips := name.L[0], []int{1, 1}
	low := impl.Zone{Origin: origin, Rrs: []impl.Rr{{Name: origin, Type: 6, Ttl: 60, To: origin, Nums: ips}, {Name: name, Type: 16, Ttl: 9, Text: text}}}
	c := cached(0, 9, impl.Slot{Name: name, Type: 2, Kind: 1, Rrs: []impl.Rr{{Name: name, Type: 2, Ttl: 9, To: name}}, Until: 9, Used: 1}, impl.Slot{Name: name, Type: 49, Kind: 2, Until: 9, Used: 3})
	bind := impl.Txn{Kind: 1, Ip: subnet + 3, Client: text, Host: text, When: 20}
	up := upsOf("+ no.home. 9 A 3")
	g := impl.Gate{J: wrote(home(0, 5, 5, nil), 1, bind, txUpdate(up), txUpdate(up), bind), Cache: c, Zones: []impl.Zone{low, low}, At: ips, Hints: ips}
	if !impl.GateOk(g) {
		t.Fatal(toldGate(g))
	}
	events := []impl.Event{evTxn(bind), {Kind: 2, Ip: subnet + 3, Client: text}, evTick(5), evCrash(1), evCheck(), evAsk("m1.com. TXT"), evAsk("m1.com. NS"), evAsk("m1.com. DHCID"), evAsk("no.com. A"), evMsg(up)}
	for _, e := range events {
		for call, run := range gateCalls() {
			a := gateArgs{g, e, []impl.Event{e, e, e}, 5}
			checkCall(t, call, run, a, a)
		}
	}
	for call, run := range gateCalls() {
		a := gateArgs{g, events[0], events, 5}
		checkCall(t, call, run, a, a)
	}
}
