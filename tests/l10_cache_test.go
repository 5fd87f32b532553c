package tests

import (
	"fmt"
	"math"
	"slices"
	"strings"
	"testing"

	"loop.example/g00422/impl"
)

// asked makes a name and a type of words.
func asked(text string) (impl.Name, int) {
	w := strings.Fields(text)
	return named(w[0]), typeOfWord(w[1])
}

// hit is a slot of records.
func hit(rank, until, used int, texts ...string) impl.Slot {
	l := recs(texts...)
	return impl.Slot{Name: rec(texts[0]).Name, Type: l[0].Type, Kind: 1, Rrs: l, Rank: rank, Until: until, Used: used}
}

// lack is a slot that tells that there is nothing of a name and a type.
func lack(text string, kind, rank, until, used int) impl.Slot {
	n, ty := asked(text)
	return impl.Slot{Name: n, Type: ty, Kind: kind, Rank: rank, Until: until, Used: used}
}

func cached(now, turn int, l ...impl.Slot) impl.Cache {
	return impl.Cache{Now: now, Turn: turn, Slots: l}
}

func toldSlot(s impl.Slot) string {
	return fmt.Sprintf("{%s type %d kind %d %s rank %d until %d used %d}", told(s.Name), s.Type, s.Kind, toldRrs(s.Rrs), s.Rank, s.Until, s.Used)
}

func toldCache(c impl.Cache) string {
	return fmt.Sprintf("{now %d turn %d %s}", c.Now, c.Turn, toldAll(c.Slots, toldSlot))
}

func isZeroCache(c impl.Cache) bool {
	return toldCache(c) == toldCache(impl.Cache{})
}

// slotPlace is a text that ascends as slots do.
func slotPlace(n impl.Name, ty int) string {
	return recordKey(impl.Rr{Name: n, Type: ty}, "")
}

// setMay says again what a set is, but for what RrOk asks.
func setMay(l []impl.Rr) bool {
	if len(l) < 1 || len(l) > 12 {
		return false
	}
	kinds, places := map[string]bool{}, []string{}
	for _, r := range l {
		if !impl.RrOk(r) {
			return false
		}
		kinds[fmt.Sprint(told(r.Name), r.Type, r.Ttl)] = true
		places = append(places, placeOf(r))
	}
	return len(kinds) == 1 && slices.IsSorted(places) && len(slices.Compact(places)) == len(l)
}

func slotMay(s impl.Slot, now, turn int) bool {
	if !impl.NameOk(s.Name) || !slices.Contains(typeNumbers(), s.Type) || s.Rank < 0 || s.Rank > 3 {
		return false
	}
	if s.Until <= now || s.Until > now+1000 || s.Used < 1 || s.Used > turn {
		return false
	}
	if s.Kind == 1 {
		return setMay(s.Rrs) && slotPlace(s.Rrs[0].Name, s.Rrs[0].Type) == slotPlace(s.Name, s.Type)
	}
	return (s.Kind == 2 || s.Kind == 3) && len(s.Rrs) == 0
}

// cacheMay says again what CacheOk does.
func cacheMay(c impl.Cache) bool {
	if c.Now < 0 || c.Now > 1000000 || c.Turn < 0 || c.Turn > 1000000 || len(c.Slots) > 8 {
		return false
	}
	used, places := map[int]bool{}, []string{}
	for _, s := range c.Slots {
		if !slotMay(s, c.Now, c.Turn) {
			return false
		}
		used[s.Used] = true
		places = append(places, slotPlace(s.Name, s.Type))
	}
	return len(used) == len(c.Slots) && slices.IsSorted(places) && len(slices.Compact(places)) == len(c.Slots)
}

func slotIn(c impl.Cache, n impl.Name, ty int) int {
	return slices.IndexFunc(c.Slots, func(s impl.Slot) bool { return slotPlace(s.Name, s.Type) == slotPlace(n, ty) })
}

// keptIn says again how a slot is kept, of a cache and a slot that may be.
func keptIn(c impl.Cache, s impl.Slot, ttl int) (impl.Cache, bool) {
	at := slotIn(c, s.Name, s.Type)
	if ttl == 0 || c.Turn == 1000000 || at >= 0 && c.Slots[at].Rank > s.Rank {
		return c, false
	}
	l := slices.Clone(c.Slots)
	if at >= 0 {
		l = slices.Delete(l, at, at+1)
	}
	if len(l) == 8 {
		l = byUse(l)[1:]
	}
	s.Until, s.Used = c.Now+min(ttl, 1000), c.Turn+1
	return cached(c.Now, c.Turn+1, byPlace(append(l, s))...), true
}

func putIn(c impl.Cache, l []impl.Rr, rank int) (impl.Cache, bool) {
	if !cacheMay(c) || !setMay(l) || rank < 0 || rank > 3 {
		return impl.Cache{}, false
	}
	return keptIn(c, impl.Slot{Name: l[0].Name, Type: l[0].Type, Kind: 1, Rrs: l, Rank: rank}, l[0].Ttl)
}

func lackIn(c impl.Cache, n impl.Name, ty, kind, ttl int) (impl.Cache, bool) {
	if !cacheMay(c) || !impl.NameOk(n) || !slices.Contains(typeNumbers(), ty) || kind != 2 && kind != 3 || ttl < 0 || ttl > 100000 {
		return impl.Cache{}, false
	}
	return keptIn(c, impl.Slot{Name: n, Type: ty, Kind: kind, Rank: 2}, ttl)
}

// gotIn says again what CacheGet does.
func gotIn(c impl.Cache, n impl.Name, ty int) (impl.Cache, []impl.Rr, int) {
	if !cacheMay(c) || !impl.NameOk(n) || !slices.Contains(typeNumbers(), ty) {
		return impl.Cache{}, nil, 0
	}
	at := slotIn(c, n, ty)
	if at < 0 {
		return c, nil, 0
	}
	c.Slots = slices.Clone(c.Slots)
	s := &c.Slots[at]
	if c.Turn < 1000000 {
		c.Turn++
		s.Used = c.Turn
	}
	var l []impl.Rr
	for _, r := range s.Rrs {
		if left := s.Until - c.Now; left < r.Ttl {
			r.Ttl = left
		}
		l = append(l, r)
	}
	return c, l, s.Kind
}

func cacheTickedIn(c impl.Cache, now int) (impl.Cache, int) {
	if !cacheMay(c) || now < c.Now || now > 1000000 {
		return impl.Cache{}, 0
	}
	left := slices.DeleteFunc(slices.Clone(c.Slots), func(s impl.Slot) bool { return s.Until <= now })
	return cached(now, c.Turn, left...), len(c.Slots) - len(left)
}

func namesIn(c impl.Cache) []impl.Name {
	var out []impl.Name
	seen := map[string]bool{}
	for _, s := range c.Slots {
		if !seen[told(s.Name)] {
			out = append(out, s.Name)
		}
		seen[told(s.Name)] = true
	}
	return out
}

// byUse has those first that were used longest ago.
func byUse(l []impl.Slot) []impl.Slot {
	return slices.SortedFunc(slices.Values(l), func(a, b impl.Slot) int { return a.Used - b.Used })
}

func byPlace(l []impl.Slot) []impl.Slot {
	return slices.SortedFunc(slices.Values(l), func(a, b impl.Slot) int {
		return strings.Compare(slotPlace(a.Name, a.Type), slotPlace(b.Name, b.Type))
	})
}

// expectCache holds a cache and what is told beside it to what they must be; it is CacheOk, if it is one.
func expectCache(t *testing.T, call string, got impl.Cache, beside any, want impl.Cache, wantBeside any) {
	t.Helper()
	if toldCache(got) != toldCache(want) || beside != wantBeside {
		t.Fatalf("%s = %s, %v, want %s, %v", call, toldCache(got), beside, toldCache(want), wantBeside)
	}
	if !impl.CacheOk(got) || !cacheMay(got) {
		t.Fatalf("%s leaves %s", call, toldCache(got))
	}
}

// expectPut holds a set that is put to the cache that it must leave, and the second one, too.
func expectPut(t *testing.T, c impl.Cache, l []impl.Rr, rank int, want impl.Cache, ok bool) impl.Cache {
	t.Helper()
	call := fmt.Sprintf("CachePut %s, %d into %s", toldRrs(l), rank, toldCache(c))
	got, is := impl.CachePut(c, l, rank)
	expectCache(t, call, got, is, want, ok)
	again, is := putIn(c, l, rank)
	expectCache(t, "the second "+call, again, is, want, ok)
	return got
}

func expectLack(t *testing.T, c impl.Cache, text string, kind, ttl int, want impl.Cache, ok bool) impl.Cache {
	t.Helper()
	n, ty := asked(text)
	call := fmt.Sprintf("CacheNo %s, %d, %d into %s", text, kind, ttl, toldCache(c))
	got, is := impl.CacheNo(c, n, ty, kind, ttl)
	expectCache(t, call, got, is, want, ok)
	again, is := lackIn(c, n, ty, kind, ttl)
	expectCache(t, "the second "+call, again, is, want, ok)
	return got
}

func expectGet(t *testing.T, c impl.Cache, text string, want impl.Cache, kind int, texts ...string) impl.Cache {
	t.Helper()
	n, ty := asked(text)
	call := fmt.Sprintf("CacheGet %s of %s", text, toldCache(c))
	got, l, k := impl.CacheGet(c, n, ty)
	expectCache(t, call, got, fmt.Sprint(toldRrs(l), k), want, fmt.Sprint(toldRrs(recs(texts...)), kind))
	again, l, k := gotIn(c, n, ty)
	expectCache(t, "the second "+call, again, fmt.Sprint(toldRrs(l), k), want, fmt.Sprint(toldRrs(recs(texts...)), kind))
	return got
}

func expectCacheTick(t *testing.T, c impl.Cache, now int, want impl.Cache, count int) impl.Cache {
	t.Helper()
	call := fmt.Sprintf("CacheTick %d of %s", now, toldCache(c))
	got, n := impl.CacheTick(c, now)
	expectCache(t, call, got, n, want, count)
	again, n := cacheTickedIn(c, now)
	expectCache(t, "the second "+call, again, n, want, count)
	return got
}

func expectNames(t *testing.T, c impl.Cache, texts ...string) {
	t.Helper()
	got, second := toldAll(impl.CacheNames(c), told), toldAll(namesIn(c), told)
	want := toldAll(texts, func(text string) string { return told(named(text)) })
	if got != want || second != want {
		t.Fatalf("CacheNames of %s = %s, the second %s, want %s", toldCache(c), got, second, want)
	}
}

func TestCacheLimits(t *testing.T) {
	kinds := []int{impl.CkMiss, impl.CkHit, impl.CkNoData, impl.CkNoName}
	if impl.MaxCache != 8 || impl.MaxKeep != 1000 || !slices.Equal(kinds, []int{0, 1, 2, 3}) {
		t.Error(impl.MaxCache, impl.MaxKeep, kinds)
	}
}

// someSlots have each kind, each rank, the least and the greatest time; they were used in another order than they stand.
func someSlots() []impl.Slot {
	return []impl.Slot{
		hit(1, 150, 7, "com. 50 NS ns.com.", "com. 50 NS ns2.com."),
		hit(0, 101, 20, "a.com. 9 A 1", "a.com. 9 A 2", "a.com. 9 A 256"),
		lack("a.com. TXT", 2, 2, 160, 3),
		lack("b.com. A", 3, 3, 1100, 9),
		hit(3, 1100, 1, "c.com. 100000 TXT x"),
	}
}

func someCache() impl.Cache {
	return cached(100, 20, someSlots()...)
}

// cram has as many slots as there may be, each used at the turn that is told for it.
func cram(now, turn int, used ...int) impl.Cache {
	out := cached(now, turn)
	for i, u := range used {
		out.Slots = append(out.Slots, hit(1, now+50, u, fmt.Sprintf("s%d.com. 50 A %d", i, i)))
	}
	return out
}

func eightSlots() impl.Cache {
	return cram(100, 20, 4, 8, 1, 5, 20, 3, 2, 11)
}

// greatSet is a set of so many records.
func greatSet(n int) []impl.Rr {
	var out []impl.Rr
	for i := range n {
		out = append(out, rec(fmt.Sprintf("a.com. 9 A %d", i)))
	}
	return out
}

// goodSets have each type, the least and the greatest name, the least and the greatest time.
func goodSets() [][]impl.Rr {
	out := [][]impl.Rr{
		greatSet(1), greatSet(2), greatSet(11), greatSet(12), recs("a.com. 0 A 1"), recs("a.com. 100000 A 1", "a.com. 100000 A 4294967295"), recs(". 9 NS a.", ". 9 NS b."),
		recs("a.com. 9 CNAME a.", "a.com. 9 CNAME b."), recs("a.com. 9 SOA a. 5 60", "a.com. 9 SOA a. 6 60"), recs("a.com. 9 TXT z", "a.com. 9 TXT aa"), recs("1.2.3.4.5.6. 9 PTR ."),
	}
	for _, r := range fewRecords() {
		out = append(out, []impl.Rr{r})
	}
	return append(out, []impl.Rr{{Name: labels("a"), Type: 16, Ttl: 9}})
}

// wrongSets are none, each in one way.
func wrongSets() map[string][]impl.Rr {
	out := map[string][]impl.Rr{
		"nothing": nil, "empty": {}, "13": greatSet(13), "14": greatSet(14), "500": greatSet(500), "hidden": greatSet(5)[:0],
		"descending": recs("a.com. 9 A 2", "a.com. 9 A 1"), "one twice": recs("a.com. 9 A 1", "a.com. 9 A 1"), "a last one twice": recs("a.com. 9 A 1", "a.com. 9 A 2", "a.com. 9 A 2"),
		"descending at the end": recs("a.com. 9 A 1", "a.com. 9 A 5", "a.com. 9 A 3"), "descending by length": recs("a.com. 9 TXT aa", "a.com. 9 TXT z"), "descending servers": recs("a.com. 9 NS b.", "a.com. 9 NS a."),
		"two names": recs("a.com. 9 A 1", "b.com. 9 A 1"), "a name below": recs("com. 9 A 1", "a.com. 9 A 1"), "the root": recs(". 9 A 1", "a. 9 A 1"), "a last name": recs("a.com. 9 A 1", "a.com. 9 A 2", "b.com. 9 A 3"),
		"two types": recs("a.com. 9 A 1", "a.com. 9 TXT x"), "alike but for the type": recs("a.com. 9 NS a.", "a.com. 9 CNAME a."), "a last type": recs("a.com. 9 NS a.", "a.com. 9 NS b.", "a.com. 9 PTR a."),
		"two times": recs("a.com. 9 A 1", "a.com. 8 A 2"), "time 0": recs("a.com. 9 A 1", "a.com. 0 A 2"), "a last time": recs("a.com. 9 A 1", "a.com. 9 A 2", "a.com. 10 A 3"), "a first time": recs("a.com. 1 A 1", "a.com. 9 A 2", "a.com. 9 A 3"),
		"one of two times twice": recs("a.com. 9 A 1", "a.com. 8 A 1"),
	}
	for i, r := range badRecords() {
		out[fmt.Sprint("wrong record ", i)] = []impl.Rr{r}
		out[fmt.Sprint("wrong record behind ", i)] = append(greatSet(1), r)
		out[fmt.Sprint("wrong record ahead ", i)] = append([]impl.Rr{r}, greatSet(1)...)
	}
	between := greatSet(3)
	between[1].Text = []byte("x")
	out["wrong record between"] = between
	last := greatSet(12)
	last[11].Nums = []int{1}
	out["wrong record at the end"] = last
	return out
}

func TestSets(t *testing.T) {
	for _, l := range goodSets() {
		if !setMay(l) {
			t.Error(toldRrs(l))
		}
	}
	for why, l := range wrongSets() {
		if setMay(l) {
			t.Error(why, toldRrs(l))
		}
	}
}

func goodCaches() map[string]impl.Cache {
	out := map[string]impl.Cache{
		"empty": {Slots: []impl.Slot{}}, "some": someCache(), "eight": eightSlots(), "at the end": cached(1000000, 1000000, lack("a.com. A", 2, 0, 1001000, 1000000), hit(0, 1000001, 1, "b.com. 9 A 1")),
		"names in order": cached(0, 9, lack(". A", 3, 2, 9, 1), lack("a. A", 3, 2, 9, 2), lack("a.a. A", 3, 2, 9, 3), lack("z.a. A", 3, 2, 9, 9), lack("a-. A", 3, 2, 9, 5), lack("a0. A", 3, 2, 9, 6), lack("aa. A", 3, 2, 9, 7), lack("1.2.3.4.5.b. A", 3, 2, 9, 8)),
		"types in order": cached(0, 9, lack("a. A", 3, 2, 9, 7), lack("a. NS", 2, 2, 9, 6), lack("a. CNAME", 3, 2, 9, 5), lack("a. SOA", 3, 2, 9, 4), lack("a. PTR", 3, 2, 9, 3), lack("a. TXT", 3, 2, 9, 2), lack("a. DHCID", 3, 2, 9, 1), lack("a.a. A", 3, 2, 9, 8)),
		"lasts less":     cached(100, 1, hit(1, 101, 1, "a.com. 9 A 1")), "lasts longer": cached(100, 1, hit(1, 1100, 1, "a.com. 9 A 1")), "of no time": cached(100, 1, hit(1, 1100, 1, "a.com. 0 A 1")),
		"no lists": cached(0, 1, impl.Slot{Name: labels("a"), Type: 1, Kind: 2, Rrs: []impl.Rr{}, Until: 1, Used: 1}),
	}
	for _, now := range []int{0, 1, 999999, 1000000} {
		for _, turn := range []int{0, 1, 999999, 1000000} {
			out[fmt.Sprint(now, " ", turn)] = cached(now, turn)
		}
		for _, until := range []int{1, 2, 999, 1000} {
			for _, used := range []int{1, 2, 19, 20} {
				out[fmt.Sprint(now, " until ", until, " used ", used)] = cached(now, 20, hit(used%4, now+until, used, "a.com. 9 A 1"))
			}
		}
	}
	for i, l := range goodSets() {
		out[fmt.Sprint("set ", i)] = cached(5, 1, impl.Slot{Name: l[0].Name, Type: l[0].Type, Kind: 1, Rrs: l, Until: 6, Used: 1})
	}
	return out
}

// wrongNumbers turn a slot of a cache whose Now is 100 and Turn 20.
func wrongNumbers() map[string]func(s *impl.Slot) {
	out := map[string]func(s *impl.Slot){}
	for _, n := range append(wrongTypes(), 512+1) {
		out[fmt.Sprint("Type ", n)] = func(s *impl.Slot) { s.Type = n }
	}
	for _, n := range []int{-1, 0, 4, 5, 255, 257, 258, 1<<32 + 1, 1<<32 + 2, math.MaxInt, math.MinInt} {
		out[fmt.Sprint("Kind ", n)] = func(s *impl.Slot) { s.Kind = n }
	}
	for _, n := range []int{-1, -2, 4, 5, 256, 1 << 32, 1<<32 + 1, math.MaxInt, math.MinInt} {
		out[fmt.Sprint("Rank ", n)] = func(s *impl.Slot) { s.Rank = n }
	}
	for _, n := range []int{100, 99, 1, 0, -1, -101, 1101, 1102, 2100, 1000000, 1<<32 + 101, math.MaxInt, math.MinInt} {
		out[fmt.Sprint("Until ", n)] = func(s *impl.Slot) { s.Until = n }
	}
	for _, n := range []int{0, -1, -20, 21, 22, 100, 1<<32 + 5, math.MaxInt, math.MinInt} {
		out[fmt.Sprint("Used ", n)] = func(s *impl.Slot) { s.Used = n }
	}
	for i, n := range badNames() {
		out[fmt.Sprint("Name ", i)] = func(s *impl.Slot) {
			s.Name = n
			for k := range s.Rrs {
				s.Rrs[k].Name = n
			}
		}
		out[fmt.Sprint("Name alone ", i)] = func(s *impl.Slot) { s.Name = n }
	}
	return out
}

// wrongHoldings turn what a slot holds to what its kind may not.
func wrongHoldings() map[string]impl.Slot {
	out := map[string]impl.Slot{}
	put := func(why string, s impl.Slot, turn func(s *impl.Slot)) {
		turn(&s)
		out[why] = s
	}
	a := func() impl.Slot { return hit(1, 150, 7, "a.com. 9 A 1") }
	for why, l := range wrongSets() {
		put("set: "+why, a(), func(s *impl.Slot) { s.Rrs = l })
		if len(l) > 0 {
			put("its own set: "+why, a(), func(s *impl.Slot) { s.Name, s.Type, s.Rrs = l[0].Name, l[0].Type, l })
		}
	}
	for _, text := range []string{"b.com. 9 A 1", "com. 9 A 1", "b.a.com. 9 A 1", ". 9 A 1", "a.co. 9 A 1", "a.com. 9 TXT x", "a.com. 9 NS a.", "b.com. 9 TXT x"} {
		put("another's: "+text, a(), func(s *impl.Slot) { s.Rrs = recs(text) })
	}
	for _, kind := range []int{2, 3} {
		put(fmt.Sprint("records of kind ", kind), a(), func(s *impl.Slot) { s.Kind = kind })
		put(fmt.Sprint("several of kind ", kind), a(), func(s *impl.Slot) { s.Kind, s.Rrs = kind, greatSet(12) })
		put(fmt.Sprint("an empty record of kind ", kind), a(), func(s *impl.Slot) { s.Kind, s.Rrs = kind, make([]impl.Rr, 1) })
	}
	return out
}

// wrongOrders have slots that may each be by itself, but not so.
func wrongOrders() map[string]impl.Cache {
	out := map[string]impl.Cache{}
	for i := range someSlots()[1:] {
		c := someCache()
		c.Slots[i], c.Slots[i+1] = c.Slots[i+1], c.Slots[i]
		out[fmt.Sprint("turned ", i)] = c
		c = someCache()
		c.Slots[i+1].Used = c.Slots[0].Used
		out[fmt.Sprint("used alike ", i)] = c
		c = eightSlots()
		c.Slots[7].Used = c.Slots[i].Used
		out[fmt.Sprint("the last of eight used alike ", i)] = c
	}
	for i, s := range someSlots() {
		c := someCache()
		s.Used = 2
		c.Slots = slices.Insert(c.Slots, i, s)
		out[fmt.Sprint("twice ", i)] = c
	}
	backward := someCache()
	slices.Reverse(backward.Slots)
	out["backward"] = backward
	out["as two kinds"] = cached(0, 9, lack("a.com. A", 2, 2, 9, 1), lack("a.com. A", 3, 1, 8, 2))
	out["found and not"] = cached(0, 9, hit(1, 9, 1, "a.com. 9 A 1"), lack("a.com. A", 3, 1, 8, 2))
	out["types descend"] = cached(0, 9, lack("a.com. TXT", 2, 2, 9, 1), lack("a.com. A", 2, 2, 9, 2))
	out["types ahead of names"] = cached(0, 9, lack("b.com. A", 2, 2, 9, 1), lack("a.com. TXT", 2, 2, 9, 2))
	out["a name ahead of what it is under"] = cached(0, 9, lack("a.com. A", 2, 2, 9, 1), lack("com. TXT", 2, 2, 9, 2))
	out["by their texts"] = cached(0, 9, lack("a.z. A", 2, 2, 9, 1), lack("b.a. A", 2, 2, 9, 2))
	return out
}

func badCaches() map[string]impl.Cache {
	out := wrongOrders()
	for why, turn := range wrongNumbers() {
		for i := range someSlots() {
			c := someCache()
			turn(&c.Slots[i])
			out[fmt.Sprint(i, " ", why)] = c
		}
		alone := cached(100, 20, someSlots()[1])
		turn(&alone.Slots[0])
		out["alone "+why] = alone
	}
	for why, s := range wrongHoldings() {
		out[why] = cached(100, 20, s)
		out["behind: "+why] = cached(100, 20, hit(0, 150, 1, ". 9 A 1"), s)
	}
	for _, n := range []int{-1, -2, -1000, 1000001, 1000002, 1 << 32, math.MaxInt, math.MaxInt - 1000, math.MinInt} {
		out[fmt.Sprint("Now ", n)] = cached(n, 20)
		out[fmt.Sprint("Now with a slot ", n)] = cached(n, 20, hit(0, n+1, 1, "a.com. 9 A 1"))
		out[fmt.Sprint("Turn ", n)] = cached(100, n)
		out[fmt.Sprint("Turn with a slot ", n)] = cached(100, n, hit(0, 101, 1, "a.com. 9 A 1"))
	}
	for _, n := range []int{9, 10, 16, 300} {
		var used []int
		for i := range n {
			used = append(used, i+1)
		}
		c := cram(100, 1000, used...)
		out[fmt.Sprint(n, " slots")] = cached(100, 1000, byPlace(c.Slots)...)
	}
	out["an empty slot"] = cached(100, 20, impl.Slot{})
	out["all at once"] = cached(-1, 1000001, make([]impl.Slot, 9)...)
	return out
}

func TestCacheOk(t *testing.T) {
	for why, c := range goodCaches() {
		if !impl.CacheOk(c) || !cacheMay(c) {
			t.Errorf("%s: CacheOk(%s) = %v, %v", why, toldCache(c), impl.CacheOk(c), cacheMay(c))
		}
	}
	for why, c := range badCaches() {
		if impl.CacheOk(c) || cacheMay(c) {
			t.Errorf("%s: CacheOk(%s) = %v, %v", why, toldCache(c), impl.CacheOk(c), cacheMay(c))
		}
	}
}

// expectNothing holds an answer to what it is where the cache or another argument may not be.
func expectNothing(t *testing.T, why string, got impl.Cache, beside ...any) {
	t.Helper()
	for _, x := range beside {
		if x != false && x != 0 {
			t.Fatalf("%s: %s, %v", why, toldCache(got), beside)
		}
	}
	if !isZeroCache(got) {
		t.Fatalf("%s: %s, %v", why, toldCache(got), beside)
	}
}

func TestWrongCachesAreNotTaken(t *testing.T) {
	sets := [][]impl.Rr{recs("a.com. 9 A 1"), recs("z.com. 9 A 1"), recs("z.com. 0 A 1"), recs("c.com. 9 TXT x"), nil, recs("a. 9 A 2", "a. 9 A 1")}
	for why, c := range badCaches() {
		for i, l := range sets {
			got, ok := impl.CachePut(c, l, 2+i%3)
			expectNothing(t, why+": CachePut", got, ok)
		}
		for _, n := range []impl.Name{named("a.com."), named("z.com."), labels("")} {
			for _, ty := range []int{1, 16, 255} {
				got, ok := impl.CacheNo(c, n, ty, 2+ty%2, 9-9*(ty%2))
				expectNothing(t, why+": CacheNo", got, ok)
				got, l, kind := impl.CacheGet(c, n, ty)
				expectNothing(t, why+": CacheGet", got, len(l), kind)
			}
		}
		for _, now := range []int{c.Now, c.Now + 1, -1, 0, 100, 101, 1000000, 1000001, math.MaxInt, math.MinInt} {
			got, n := impl.CacheTick(c, now)
			expectNothing(t, why+": CacheTick", got, n)
		}
		if names := impl.CacheNames(c); len(names) != 0 {
			t.Fatalf("%s: CacheNames = %s", why, toldAll(names, told))
		}
	}
}

// Of several reasons the one that is named first counts: what may not be is told so, even where nothing could be kept, or there is no time.
func TestWrongSetsAreNotPut(t *testing.T) {
	for _, c := range []impl.Cache{{}, someCache(), eightSlots(), cached(0, 1000000)} {
		for why, l := range wrongSets() {
			got, ok := impl.CachePut(c, l, 1)
			expectNothing(t, why, got, ok)
			got, ok = impl.CachePut(c, l, 4)
			expectNothing(t, why+" and the rank", got, ok)
		}
		for _, rank := range []int{-1, -2, 4, 5, 256, 1 << 32, 1<<32 + 1, math.MaxInt, math.MinInt} {
			for _, l := range [][]impl.Rr{recs("a.com. 9 A 1"), recs("a.com. 0 A 1"), recs("c.com. 9 TXT x"), greatSet(12)} {
				got, ok := impl.CachePut(c, l, rank)
				expectNothing(t, fmt.Sprint("rank ", rank), got, ok)
			}
		}
	}
}

func TestWrongLacksAreNotKept(t *testing.T) {
	n := named("a.com.")
	for _, c := range []impl.Cache{{}, someCache(), eightSlots(), cached(0, 1000000)} {
		for _, ttl := range []int{0, 9} {
			for _, n := range badNames() {
				got, ok := impl.CacheNo(c, n, 1, 2, ttl)
				expectNothing(t, "name "+told(n), got, ok)
			}
			for _, ty := range wrongTypes() {
				got, ok := impl.CacheNo(c, n, ty, 3, ttl)
				expectNothing(t, fmt.Sprint("type ", ty), got, ok)
			}
			for _, kind := range []int{-1, 0, 1, 4, 5, 258, 259, 1<<32 + 2, math.MaxInt, math.MinInt} {
				got, ok := impl.CacheNo(c, n, 1, kind, ttl)
				expectNothing(t, fmt.Sprint("kind ", kind), got, ok)
			}
		}
		for _, ttl := range []int{-1, -2, -100, 100001, 100002, 1 << 32, 1<<32 + 9, math.MaxInt, math.MinInt} {
			for _, kind := range []int{2, 3} {
				got, ok := impl.CacheNo(c, n, 1, kind, ttl)
				expectNothing(t, fmt.Sprint("time ", ttl), got, ok)
			}
		}
	}
}

func TestWrongNamesAndTypesAreNotGot(t *testing.T) {
	for _, c := range []impl.Cache{{}, someCache(), eightSlots(), cached(0, 1000000, lack("a.com. A", 2, 2, 9, 1))} {
		for _, n := range badNames() {
			got, l, kind := impl.CacheGet(c, n, 1)
			expectNothing(t, "name "+told(n), got, len(l), kind)
		}
		for _, ty := range wrongTypes() {
			got, l, kind := impl.CacheGet(c, named("a.com."), ty)
			expectNothing(t, fmt.Sprint("type ", ty), got, len(l), kind)
		}
	}
}

func TestWhatIsPutIsGot(t *testing.T) {
	c := expectPut(t, impl.Cache{}, recs("a.com. 9 A 1"), 1, cached(0, 1, hit(1, 9, 1, "a.com. 9 A 1")), true)
	c = expectGet(t, c, "a.com. A", cached(0, 2, hit(1, 9, 2, "a.com. 9 A 1")), 1, "a.com. 9 A 1")
	several := []string{"b.com. 50 NS a.", "b.com. 50 NS b.", "b.com. 50 NS aa."}
	c = expectPut(t, c, recs(several...), 0, cached(0, 3, hit(1, 9, 2, "a.com. 9 A 1"), hit(0, 50, 3, several...)), true)
	c = expectGet(t, c, "b.com. NS", cached(0, 4, hit(1, 9, 2, "a.com. 9 A 1"), hit(0, 50, 4, several...)), 1, several...)
	expectGet(t, c, "a.com. A", cached(0, 5, hit(1, 9, 5, "a.com. 9 A 1"), hit(0, 50, 4, several...)), 1, "a.com. 9 A 1")
}

func TestSetsOfEveryTypeAreGot(t *testing.T) {
	for _, c := range []impl.Cache{{}, someCache(), eightSlots(), cached(999999, 999998)} {
		for _, l := range goodSets() {
			for rank := range 4 {
				want, kept := putIn(c, l, rank)
				got := expectPut(t, c, l, rank, want, kept)
				if !kept {
					continue
				}
				_, answer, kind := impl.CacheGet(got, l[0].Name, l[0].Type)
				turned := slices.Clone(l)
				for i := range turned {
					turned[i].Ttl = min(turned[i].Ttl, 1000)
				}
				if kind != 1 || toldRrs(answer) != toldRrs(turned) {
					t.Fatalf("CacheGet of %s = %s, %d", toldRrs(l), toldRrs(answer), kind)
				}
			}
		}
	}
}

// Records are put behind others in the order of slots, wherever their place is.
func TestPutIsInOrder(t *testing.T) {
	for text, at := range map[string]int{
		". A": 0, "com. A": 0, "com. CNAME": 1, "0.com. A": 1, "a.com. NS": 2, "a.com. DHCID": 3, "a.a.com. A": 3, "a-.com. A": 3, "b.com. NS": 4, "bb.com. A": 4, "c.com. DHCID": 5, "a.d. A": 5,
	} {
		n, ty := asked(text)
		want := cached(100, 21, slices.Insert(someSlots(), at, lack(text, 3, 2, 109, 21))...)
		expectLack(t, someCache(), text, 3, 9, want, true)
		r := fewRecords()[slices.Index(typeNumbers(), ty)]
		r.Name = n
		want.Slots[at] = impl.Slot{Name: n, Type: ty, Kind: 1, Rrs: []impl.Rr{r}, Rank: 1, Until: 160, Used: 21}
		expectPut(t, someCache(), []impl.Rr{r}, 1, want, true)
	}
}

// someWith is someCache with another slot at a place, and so many turns more.
func someWith(at int, s impl.Slot, turns int) impl.Cache {
	c := someCache()
	c.Slots[at] = s
	c.Turn += turns
	return c
}

func TestPutAgain(t *testing.T) {
	for rank := range 4 {
		fresh := []string{"com. 70 NS ns.com.", "com. 70 NS zz.com."}
		want := someWith(0, hit(rank, 170, 21, fresh...), 1)
		if rank < 1 {
			want = someCache()
		}
		expectPut(t, someCache(), recs(fresh...), rank, want, rank >= 1)
		want = someWith(1, hit(rank, 101, 21, "a.com. 1 A 9"), 1)
		expectPut(t, someCache(), recs("a.com. 1 A 9"), rank, want, true)
		want = someWith(4, hit(rank, 110, 21, "c.com. 10 TXT y"), 1)
		if rank < 3 {
			want = someCache()
		}
		expectPut(t, someCache(), recs("c.com. 10 TXT y"), rank, want, rank == 3)
	}
}

// The rank of what is there counts, not of what was there once: a lesser one stays away, a greater one raises it.
func TestRanks(t *testing.T) {
	for elder := range 4 {
		for rank := range 4 {
			c := expectPut(t, cached(5, 7), recs("a.com. 9 A 1"), elder, cached(5, 8, hit(elder, 14, 8, "a.com. 9 A 1")), true)
			if rank < elder {
				expectPut(t, c, recs("a.com. 99 A 2"), rank, c, false)
			} else {
				expectPut(t, c, recs("a.com. 99 A 2"), rank, cached(5, 9, hit(rank, 104, 9, "a.com. 99 A 2")), true)
			}
			other := expectPut(t, c, recs("a.com. 9 TXT x"), rank, cached(5, 9, hit(elder, 14, 8, "a.com. 9 A 1"), hit(rank, 14, 9, "a.com. 9 TXT x")), true)
			expectPut(t, other, recs("b.com. 9 A 1"), rank, cached(5, 10, hit(elder, 14, 8, "a.com. 9 A 1"), hit(rank, 14, 9, "a.com. 9 TXT x"), hit(rank, 14, 10, "b.com. 9 A 1")), true)
			over, _ := impl.CacheTick(c, 14)
			expectPut(t, over, recs("a.com. 99 A 2"), rank, cached(14, 9, hit(rank, 113, 9, "a.com. 99 A 2")), true)
		}
	}
}

func TestWhatIsNotThereIsKept(t *testing.T) {
	for kind := 2; kind <= 3; kind++ {
		other := 5 - kind
		c := expectLack(t, impl.Cache{}, "a.com. A", kind, 9, cached(0, 1, lack("a.com. A", kind, 2, 9, 1)), true)
		c = expectGet(t, c, "a.com. A", cached(0, 2, lack("a.com. A", kind, 2, 9, 2)), kind)
		expectGet(t, c, "a.com. TXT", c, 0)
		expectGet(t, c, "com. A", c, 0)
		expectLack(t, c, "a.com. A", other, 5, cached(0, 3, lack("a.com. A", other, 2, 5, 3)), true)
		expectLack(t, c, "a.com. TXT", other, 5, cached(0, 3, lack("a.com. A", kind, 2, 9, 2), lack("a.com. TXT", other, 2, 5, 3)), true)
		expectPut(t, c, recs("a.com. 9 A 1"), 0, c, false)
		expectPut(t, c, recs("a.com. 9 A 1"), 1, c, false)
		for rank := 2; rank <= 3; rank++ {
			over := expectPut(t, c, recs("a.com. 7 A 1"), rank, cached(0, 3, hit(rank, 7, 3, "a.com. 7 A 1")), true)
			over = expectGet(t, over, "a.com. A", cached(0, 4, hit(rank, 7, 4, "a.com. 7 A 1")), 1, "a.com. 7 A 1")
			if rank == 3 {
				expectLack(t, over, "a.com. A", kind, 9, over, false)
			} else {
				expectLack(t, over, "a.com. A", kind, 9, cached(0, 5, lack("a.com. A", kind, 2, 9, 5)), true)
			}
		}
		for rank := range 2 {
			c := cached(0, 1, hit(rank, 7, 1, "a.com. 7 A 1"))
			c = expectLack(t, c, "a.com. A", kind, 9, cached(0, 2, lack("a.com. A", kind, 2, 9, 2)), true)
			expectGet(t, c, "a.com. A", cached(0, 3, lack("a.com. A", kind, 2, 9, 3)), kind)
		}
	}
}

// What is not there is told with the rank of its slot, too, whatever that came from.
func TestRanksOfWhatIsNotThere(t *testing.T) {
	for rank := range 4 {
		for kind := 2; kind <= 3; kind++ {
			c := cached(0, 1, lack("a.com. A", kind, rank, 7, 1))
			if rank == 3 {
				expectLack(t, c, "a.com. A", kind, 9, c, false)
			} else {
				expectLack(t, c, "a.com. A", kind, 9, cached(0, 2, lack("a.com. A", kind, 2, 9, 2)), true)
			}
			expectGet(t, c, "a.com. A", cached(0, 2, lack("a.com. A", kind, rank, 7, 2)), kind)
		}
	}
}

func TestGet(t *testing.T) {
	c := someCache()
	expectGet(t, c, "com. NS", someWith(0, hit(1, 150, 21, "com. 50 NS ns.com.", "com. 50 NS ns2.com."), 1), 1, "com. 50 NS ns.com.", "com. 50 NS ns2.com.")
	expectGet(t, c, "a.com. A", someWith(1, hit(0, 101, 21, "a.com. 9 A 1", "a.com. 9 A 2", "a.com. 9 A 256"), 1), 1, "a.com. 1 A 1", "a.com. 1 A 2", "a.com. 1 A 256")
	expectGet(t, c, "a.com. TXT", someWith(2, lack("a.com. TXT", 2, 2, 160, 21), 1), 2)
	expectGet(t, c, "b.com. A", someWith(3, lack("b.com. A", 3, 3, 1100, 21), 1), 3)
	expectGet(t, c, "c.com. TXT", someWith(4, hit(3, 1100, 21, "c.com. 100000 TXT x"), 1), 1, "c.com. 1000 TXT x")
	for _, text := range []string{"com. A", "a.com. NS", "a.com. DHCID", "b.com. TXT", "b.com. NS", "c.com. A", ". NS", "z.com. A", "a.a.com. A", "a.com.com. A", "a. A"} {
		expectGet(t, c, text, c, 0)
		expectGet(t, impl.Cache{}, text, impl.Cache{}, 0)
	}
}

// A slot that is got has the greatest Used, wherever it stands and however often.
func TestWhatIsGotIsUsedLast(t *testing.T) {
	c := eightSlots()
	for i := range 40 {
		at := i * 5 % 8
		got, _, kind := impl.CacheGet(c, c.Slots[at].Name, 1)
		if kind != 1 || got.Turn != c.Turn+1 {
			t.Fatal(toldCache(got))
		}
		for k, s := range got.Slots {
			if want := c.Slots[k].Used; k == at && s.Used != got.Turn || k != at && (s.Used != want || s.Used >= got.Turn) {
				t.Fatal(at, toldCache(got))
			}
		}
		c = got
	}
}

// expectGone puts one more into a full cache: that which had to go is gone, and nothing else is or was turned.
func expectGone(t *testing.T, c impl.Cache, name string) {
	t.Helper()
	gone := told(named(name))
	after, ok := impl.CachePut(c, recs("m.com. 9 A 1"), 0)
	lacking, is := impl.CacheNo(c, named("s33.com."), 1, 3, 9)
	for _, got := range []impl.Cache{after, lacking} {
		if !ok || !is || len(got.Slots) != 8 || got.Turn != c.Turn+1 || !impl.CacheOk(got) {
			t.Fatalf("one more in %s leaves %s", toldCache(c), toldCache(got))
		}
		for _, s := range c.Slots {
			at := slotIn(got, s.Name, s.Type)
			if (at < 0) != (told(s.Name) == gone) || at >= 0 && toldSlot(got.Slots[at]) != toldSlot(s) {
				t.Fatalf("one more in %s leaves %s, but %s had to go", toldCache(c), toldCache(got), gone)
			}
		}
	}
}

// getInTurn gets what was not got yet in every order, and puts one more behind each beginning of it: the first goes that
// was not got, in the order in which they were used ahead of it, or the first got, once all were.
func getInTurn(t *testing.T, c impl.Cache, left []impl.Slot, got []impl.Slot) {
	gone := slices.Concat(left, got)[0]
	after, ok := impl.CachePut(c, recs("m.com. 9 A 1"), 0)
	if !ok || len(after.Slots) != 8 || slotIn(after, gone.Name, 1) >= 0 || slotIn(after, named("m.com."), 1) < 0 {
		t.Fatalf("one more in %s leaves %s", toldCache(c), toldCache(after))
	}
	for i, s := range left {
		next, _, kind := impl.CacheGet(c, s.Name, 1)
		if kind != 1 {
			t.Fatal(toldSlot(s), toldCache(c))
		}
		getInTurn(t, next, slices.Delete(slices.Clone(left), i, i+1), append(slices.Clone(got), s))
	}
}

func TestTheLeastUsedGoesBehindEveryOrder(t *testing.T) {
	getInTurn(t, eightSlots(), byUse(eightSlots().Slots), nil)
}

func TestTheLeastUsedGoes(t *testing.T) {
	expectGone(t, eightSlots(), "s2.com.")
	expectGone(t, cram(0, 999999, 999999, 999998, 999997, 999996, 5, 999995, 999994, 999993), "s4.com.")
	expectGone(t, cram(0, 8, 8, 7, 6, 5, 4, 3, 2, 1), "s7.com.")
	expectGone(t, cram(0, 8, 1, 2, 3, 4, 5, 6, 7, 8), "s0.com.")
	m := mixer(11)
	for range 2000 {
		used := []int{}
		for len(used) < 8 {
			if n := 1 + m.below(12); !slices.Contains(used, n) {
				used = append(used, n)
			}
		}
		expectGone(t, cram(5, 12, used...), fmt.Sprintf("s%d.com.", slices.Index(used, slices.Min(used))))
	}
}

// The least used goes, even where others last less, are trusted less, tell of nothing, or stand at another place.
func TestOnlyTheUseCounts(t *testing.T) {
	c := cached(0, 20,
		lack(". A", 3, 0, 1, 9), hit(0, 1, 8, "a. 9 A 1"), hit(3, 1000, 3, "b. 100000 A 1"), hit(1, 2, 4, "b. 9 NS a."),
		lack("b. TXT", 2, 2, 5, 7), hit(3, 7, 6, "a.b. 9 A 1"), hit(0, 3, 5, "c. 9 A 1"), lack("d. A", 3, 2, 9, 20))
	for i, gone := range byUse(c.Slots) {
		at := slotIn(c, gone.Name, gone.Type)
		text := fmt.Sprintf("x%d. 9 A 1", i)
		left := slices.Delete(slices.Clone(c.Slots), at, at+1)
		c = expectPut(t, c, recs(text), 0, cached(0, 21+i, append(left, hit(0, 9, 21+i, text))...), true)
	}
}

// Where one of the same name and type goes, there is room: no other one does.
func TestOneOfTheSameGoesAlone(t *testing.T) {
	c := eightSlots()
	for i := range c.Slots {
		text := fmt.Sprintf("s%d.com. 9 A 77", i)
		want := cached(100, 21, slices.Clone(c.Slots)...)
		want.Slots[i] = hit(1, 109, 21, text)
		expectPut(t, c, recs(text), 1, want, true)
		want = cached(100, 21, slices.Clone(c.Slots)...)
		want.Slots[i] = lack(fmt.Sprintf("s%d.com. A", i), 3, 2, 109, 21)
		expectLack(t, c, fmt.Sprintf("s%d.com. A", i), 3, 9, want, true)
		expectPut(t, c, recs(text), 0, c, false)
	}
}

func TestNineAreNotKept(t *testing.T) {
	var c impl.Cache
	for i := range 30 {
		got, ok := impl.CachePut(c, recs(fmt.Sprintf("s%02d.com. 50 A 1", i)), i%4)
		if !ok || len(got.Slots) != min(i+1, 8) || got.Turn != i+1 || !impl.CacheOk(got) {
			t.Fatal(i, ok, toldCache(got))
		}
		c = got
	}
	expectNames(t, c, "s22.com.", "s23.com.", "s24.com.", "s25.com.", "s26.com.", "s27.com.", "s28.com.", "s29.com.")
}

// What is not kept makes nothing go.
func TestWhatIsNotKeptChangesNothing(t *testing.T) {
	for _, c := range []impl.Cache{{}, someCache(), eightSlots(), cached(1000000, 5), cached(5, 1000000)} {
		for rank := range 4 {
			for _, text := range []string{"a.com. 0 A 1", "z.com. 0 A 1", "com. 0 NS a.", "s3.com. 0 A 1"} {
				expectPut(t, c, recs(text), rank, c, false)
			}
		}
		for kind := 2; kind <= 3; kind++ {
			for _, text := range []string{"a.com. A", "z.com. A", "com. NS", "s3.com. A"} {
				expectLack(t, c, text, kind, 0, c, false)
			}
		}
	}
}

func TestTimesThatAreKept(t *testing.T) {
	for _, now := range []int{0, 1, 100, 999999, 1000000} {
		for ttl, left := range map[int]int{1: 1, 2: 2, 999: 999, 1000: 1000, 1001: 1000, 99999: 1000, 100000: 1000} {
			text := fmt.Sprintf("a.com. %d A 1", ttl)
			c := expectPut(t, cached(now, 5), recs(text), 1, cached(now, 6, hit(1, now+left, 6, text)), true)
			expectGet(t, c, "a.com. A", cached(now, 7, hit(1, now+left, 7, text)), 1, fmt.Sprintf("a.com. %d A 1", left))
			c = expectLack(t, cached(now, 5), "a.com. A", 3, ttl, cached(now, 6, lack("a.com. A", 3, 2, now+left, 6)), true)
			expectGet(t, c, "a.com. A", cached(now, 7, lack("a.com. A", 3, 2, now+left, 7)), 3)
		}
	}
}

// Times go down moment by moment, and at Until the slot is gone; that it was got does not make it last.
func TestTimesGoDown(t *testing.T) {
	for _, now := range []int{0, 7, 998999, 999000} {
		for ttl, left := range map[int]int{1: 1, 2: 2, 9: 9, 999: 999, 1000: 1000, 1001: 1000, 100000: 1000} {
			c, _ := impl.CachePut(cached(now, 0), recs(fmt.Sprintf("a.com. %d A 1", ttl), fmt.Sprintf("a.com. %d A 2", ttl)), 1)
			c, _ = impl.CacheNo(c, named("b.com."), 1, 2, ttl)
			for gone := range left {
				after, n := impl.CacheTick(c, now+gone)
				after, l, kind := impl.CacheGet(after, named("a.com."), 1)
				_, none, lacks := impl.CacheGet(after, named("b.com."), 1)
				if n != 0 || kind != 1 || len(l) != 2 || l[0].Ttl != left-gone || l[1].Ttl != left-gone || len(none) != 0 || lacks != 2 {
					t.Fatal(now, ttl, gone, n, toldRrs(l), kind, lacks)
				}
				if gone%2 == 0 {
					c = after
				}
			}
			expectCacheTick(t, c, now+left, cached(now+left, c.Turn), 2)
		}
	}
}

// The time of the records themselves counts, where that is less; the slot keeps what it was put with.
func TestTheLesserTimeIsTold(t *testing.T) {
	for left, told := range map[int]int{1: 1, 8: 8, 9: 9, 10: 9, 999: 9, 1000: 9} {
		texts := []string{"a.com. 9 TXT x", "a.com. 9 TXT y"}
		c := cached(100, 3, hit(1, 100+left, 1, texts...))
		answer := []string{fmt.Sprintf("a.com. %d TXT x", told), fmt.Sprintf("a.com. %d TXT y", told)}
		expectGet(t, c, "a.com. TXT", cached(100, 4, hit(1, 100+left, 4, texts...)), 1, answer...)
	}
	c := cached(100, 3, hit(1, 150, 1, "a.com. 0 A 1"))
	expectGet(t, c, "a.com. A", cached(100, 4, hit(1, 150, 4, "a.com. 0 A 1")), 1, "a.com. 0 A 1")
}

func TestCacheTick(t *testing.T) {
	l := someSlots()
	c := someCache()
	expectCacheTick(t, c, 100, c, 0)
	expectCacheTick(t, c, 101, cached(101, 20, l[0], l[2], l[3], l[4]), 1)
	expectCacheTick(t, c, 149, cached(149, 20, l[0], l[2], l[3], l[4]), 1)
	expectCacheTick(t, c, 150, cached(150, 20, l[2:]...), 2)
	expectCacheTick(t, c, 160, cached(160, 20, l[3:]...), 3)
	expectCacheTick(t, c, 1099, cached(1099, 20, l[3:]...), 3)
	expectCacheTick(t, c, 1100, cached(1100, 20), 5)
	expectCacheTick(t, c, 1000000, cached(1000000, 20), 5)
	expectCacheTick(t, eightSlots(), 149, cached(149, 20, eightSlots().Slots...), 0)
	expectCacheTick(t, eightSlots(), 150, cached(150, 20), 8)
	expectCacheTick(t, impl.Cache{}, 0, impl.Cache{}, 0)
	expectCacheTick(t, impl.Cache{}, 1000000, cached(1000000, 0), 0)
	late := cached(1000000, 1000000, hit(1, 1000001, 5, "a.com. 9 A 1"))
	expectCacheTick(t, late, 1000000, late, 0)
	expectCacheTick(t, cached(999999, 7, hit(1, 1000000, 5, "a.com. 9 A 1"), lack("b.com. A", 2, 2, 1000001, 7)), 1000000, cached(1000000, 7, lack("b.com. A", 2, 2, 1000001, 7)), 1)
}

func TestMomentsThatMayNotBe(t *testing.T) {
	for _, c := range []impl.Cache{{}, someCache(), eightSlots(), cached(1000000, 5), cached(999999, 5, hit(1, 1000001, 5, "a.com. 9 A 1"))} {
		for _, now := range []int{c.Now - 1, c.Now - 2, -1, 1000001, 1000002, 1 << 32, math.MaxInt, math.MinInt} {
			got, n := impl.CacheTick(c, now)
			expectNothing(t, fmt.Sprint("now ", now), got, n)
		}
	}
}

// Where there are no more turns, nothing is kept, and what is got leaves Turn and Used.
func TestTheLastTurn(t *testing.T) {
	last := cached(100, 999999, someSlots()...)
	l := someSlots()
	full := expectPut(t, last, recs("d.com. 9 A 1"), 1, cached(100, 1000000, append(someSlots(), hit(1, 109, 1000000, "d.com. 9 A 1"))...), true)
	expectLack(t, last, "d.com. A", 2, 9, cached(100, 1000000, append(someSlots(), lack("d.com. A", 2, 2, 109, 1000000))...), true)
	l[3].Used = 1000000
	got := expectGet(t, last, "b.com. A", cached(100, 1000000, l...), 3)
	for _, c := range []impl.Cache{full, got, cached(100, 1000000), cached(100, 1000000, someSlots()...), cached(100, 1000000, eightSlots().Slots...)} {
		for rank := range 4 {
			for _, text := range []string{"a.com. 9 A 1", "z.com. 9 A 1", "com. 9 NS a.", "c.com. 9 TXT x", "s2.com. 9 A 1"} {
				expectPut(t, c, recs(text), rank, c, false)
			}
		}
		for _, text := range []string{"a.com. A", "z.com. A", "com. NS", "a.com. TXT", "s2.com. A"} {
			expectLack(t, c, text, 2, 9, c, false)
		}
		for _, s := range c.Slots {
			after, l, kind := impl.CacheGet(c, s.Name, s.Type)
			_, want, _ := gotIn(c, s.Name, s.Type)
			expectCache(t, "CacheGet "+toldSlot(s), after, kind, c, s.Kind)
			if toldRrs(l) != toldRrs(want) {
				t.Fatal(toldRrs(l), toldRrs(want))
			}
		}
		expectCacheTick(t, c, 1100, cached(1100, 1000000), len(c.Slots))
	}
	expectGet(t, cached(100, 1000000, someSlots()...), "a.com. A", cached(100, 1000000, someSlots()...), 1, "a.com. 1 A 1", "a.com. 1 A 2", "a.com. 1 A 256")
}

func TestCacheNames(t *testing.T) {
	expectNames(t, impl.Cache{})
	expectNames(t, cached(1000000, 1000000))
	expectNames(t, cached(0, 1, lack(". A", 2, 2, 9, 1)), ".")
	expectNames(t, someCache(), "com.", "a.com.", "b.com.", "c.com.")
	expectNames(t, eightSlots(), "s0.com.", "s1.com.", "s2.com.", "s3.com.", "s4.com.", "s5.com.", "s6.com.", "s7.com.")
	expectNames(t, goodCaches()["types in order"], "a.", "a.a.")
	expectNames(t, goodCaches()["names in order"], ".", "a.", "a.a.", "z.a.", "a-.", "a0.", "aa.", "1.2.3.4.5.b.")
	expectNames(t, cached(0, 9, lack(". A", 3, 2, 9, 1), lack(". NS", 3, 2, 9, 2), hit(1, 9, 3, "a. 9 A 1"), lack("a. TXT", 3, 2, 9, 4), lack("b. A", 3, 2, 9, 5), lack("b. NS", 2, 2, 9, 6), lack("b. TXT", 2, 2, 9, 7)), ".", "a.", "b.")
}

// Each function of each cache that may be answers as the second one does.
func TestGoodCachesAnswer(t *testing.T) {
	for why, c := range goodCaches() {
		if got := impl.CacheNames(c); toldAll(got, told) != toldAll(namesIn(c), told) {
			t.Fatalf("%s: CacheNames of %s = %s", why, toldCache(c), toldAll(got, told))
		}
		for _, n := range append(namesIn(c), named("."), named("a.com."), named("z.com.")) {
			for _, ty := range typeNumbers() {
				got, l, kind := impl.CacheGet(c, n, ty)
				want, wantL, wantKind := gotIn(c, n, ty)
				expectCache(t, why, got, fmt.Sprint(toldRrs(l), kind), want, fmt.Sprint(toldRrs(wantL), wantKind))
				got, ok := impl.CacheNo(c, n, ty, 2+ty%2, 60)
				want, wantOk := lackIn(c, n, ty, 2+ty%2, 60)
				expectCache(t, why, got, ok, want, wantOk)
			}
		}
		for i, l := range goodSets() {
			got, ok := impl.CachePut(c, l, i%4)
			want, wantOk := putIn(c, l, i%4)
			expectCache(t, why, got, ok, want, wantOk)
		}
		for _, now := range []int{c.Now, c.Now + 1, c.Now + 50, c.Now + 999, c.Now + 1000, 1000000} {
			if now <= 1000000 {
				got, n := impl.CacheTick(c, now)
				want, wantN := cacheTickedIn(c, now)
				expectCache(t, why, got, n, want, wantN)
			}
		}
	}
}

// entry is what a run knows of something that was kept: the least time that was told of it, and when it is over.
type entry struct {
	kind  int
	rank  int
	rrs   []impl.Rr
	least int
	until int
}

// cacheRun is a cache that things happen to; what must be there is written down apart from it, and in which order it was used.
type cacheRun struct {
	t     *testing.T
	m     *mixer
	c     impl.Cache
	known map[string]*entry
	order []string
	codes map[string]int
}

func runOf(t *testing.T, m *mixer, c impl.Cache, codes map[string]int) *cacheRun {
	r := &cacheRun{t: t, m: m, c: c, known: map[string]*entry{}, codes: codes}
	for _, s := range byUse(c.Slots) {
		place := slotPlace(s.Name, s.Type)
		r.known[place] = &entry{s.Kind, s.Rank, s.Rrs, 1000, s.Until}
		r.order = append(r.order, place)
	}
	return r
}

func runNames() []impl.Name {
	return []impl.Name{named("."), named("com."), named("a.com."), named("b.com."), named("a.b.com."), labels(longLabel(), "x")}
}

func (r *cacheRun) ask() (impl.Name, int) {
	l := runNames()
	return l[r.m.below(len(l))], r.m.of(1, 2, 16)
}

func (r *cacheRun) set() []impl.Rr {
	n, ty := r.ask()
	one := impl.Rr{Name: n, Type: ty, Ttl: r.m.of(0, 1, 2, 3, 5, 9, 20, 60, 60, 999, 1000, 1001, 100000)}
	var out []impl.Rr
	for i := range r.m.of(1, 1, 1, 2, 2, 3, 12) {
		x := one
		switch ty {
		case 1:
			x.Addr = 10*i + r.m.below(9)
		case 2:
			x.To = labels(strings.Repeat("n", i+1), "com")
		case 16:
			x.Text = slices.Repeat([]byte{byte('a' + r.m.below(3))}, i)
		}
		out = append(out, x)
	}
	if r.m.below(20) == 0 {
		return append(out, out[0])
	}
	return out
}

// forget takes what is over or had to go out of what is known.
func (r *cacheRun) forget(place string) {
	delete(r.known, place)
	r.order = slices.DeleteFunc(r.order, func(s string) bool { return s == place })
}

// learn writes down what must have been kept; so many are there at most.
func (r *cacheRun) learn(place string, e *entry) {
	r.forget(place)
	if len(r.order) == 8 {
		r.codes["gone"]++
		r.forget(r.order[0])
	}
	r.known[place] = e
	r.order = append(r.order, place)
}

// mustKeep tells whether the cache has to take something.
func (r *cacheRun) mustKeep(place string, rank, ttl int) bool {
	elder := r.known[place]
	return ttl > 0 && r.c.Turn < 1000000 && (elder == nil || elder.rank <= rank)
}

func (r *cacheRun) put() {
	l, rank := r.set(), r.m.of(0, 1, 1, 1, 2, 3, 3, 4)
	got, ok := impl.CachePut(r.c, l, rank)
	want, wantOk := putIn(r.c, l, rank)
	if toldCache(got) != toldCache(want) || ok != wantOk {
		r.t.Fatalf("CachePut %s, %d into %s = %s, %v", toldRrs(l), rank, toldCache(r.c), toldCache(got), ok)
	}
	if !setMay(l) || rank > 3 {
		r.codes["put wrong"]++
		expectNothing(r.t, "CachePut", got, ok)
		return
	}
	place := slotPlace(l[0].Name, l[0].Type)
	r.kept("put", got, ok, place, &entry{1, rank, l, 1000, r.c.Now + min(l[0].Ttl, 1000)}, l[0].Ttl)
}

func (r *cacheRun) no() {
	n, ty := r.ask()
	kind, ttl := r.m.of(2, 3, 2, 3, 2, 3, 1, 4), r.m.of(0, 1, 2, 5, 9, 60, 60, 1000, 1001, 100000, -1)
	got, ok := impl.CacheNo(r.c, n, ty, kind, ttl)
	want, wantOk := lackIn(r.c, n, ty, kind, ttl)
	if toldCache(got) != toldCache(want) || ok != wantOk {
		r.t.Fatalf("CacheNo %s, %d, %d, %d into %s = %s, %v", told(n), ty, kind, ttl, toldCache(r.c), toldCache(got), ok)
	}
	if kind != 2 && kind != 3 || ttl < 0 {
		r.codes["no wrong"]++
		expectNothing(r.t, "CacheNo", got, ok)
		return
	}
	r.kept("no", got, ok, slotPlace(n, ty), &entry{kind, 2, nil, 1000, r.c.Now + min(ttl, 1000)}, ttl)
}

// kept goes on with what was left, once that is held to what had to be kept.
func (r *cacheRun) kept(call string, got impl.Cache, ok bool, place string, e *entry, ttl int) {
	must := r.mustKeep(place, e.rank, ttl)
	r.codes[fmt.Sprint(call, " ", ok)]++
	if ok != must || !ok && toldCache(got) != toldCache(r.c) {
		r.t.Fatalf("%s: %v leaves %s of %s", call, ok, toldCache(got), toldCache(r.c))
	}
	if ok {
		r.learn(place, e)
	}
	r.c = got
}

func (r *cacheRun) get() {
	n, ty := r.ask()
	ty = r.m.of(ty, ty, ty, ty, ty, 5, 255)
	got, l, kind := impl.CacheGet(r.c, n, ty)
	want, wantL, wantKind := gotIn(r.c, n, ty)
	if toldCache(got) != toldCache(want) || toldRrs(l) != toldRrs(wantL) || kind != wantKind {
		r.t.Fatalf("CacheGet %s, %d of %s = %s, %s, %d", told(n), ty, toldCache(r.c), toldCache(got), toldRrs(l), kind)
	}
	r.codes[fmt.Sprint("get ", kind)]++
	if ty == 255 {
		expectNothing(r.t, "CacheGet", got, len(l), kind)
		return
	}
	if place := slotPlace(n, ty); kind != 0 && r.c.Turn < 1000000 {
		r.learn(place, r.known[place])
	}
	r.c = got
}

func (r *cacheRun) tick() {
	now := r.c.Now + r.m.of(0, 1, 1, 1, 2, 3, 10, 100, -1)
	got, n := impl.CacheTick(r.c, now)
	want, wantN := cacheTickedIn(r.c, now)
	if toldCache(got) != toldCache(want) || n != wantN {
		r.t.Fatalf("CacheTick %d of %s = %s, %d", now, toldCache(r.c), toldCache(got), n)
	}
	if now < r.c.Now || now > 1000000 {
		r.codes["tick wrong"]++
		expectNothing(r.t, "CacheTick", got, n)
		return
	}
	r.codes[fmt.Sprint("tick ", min(n, 2))]++
	for _, place := range slices.Clone(r.order) {
		if r.known[place].until <= now {
			r.forget(place)
		}
	}
	r.c = got
}

// check asks for all that may be there: what was kept, is not over and did not have to go is got, with no more time than it had; nothing else is.
func (r *cacheRun) check() {
	if !impl.CacheOk(r.c) || !cacheMay(r.c) || len(r.c.Slots) > 8 || len(r.c.Slots) != len(r.known) {
		r.t.Fatalf("%s, but %d are known", toldCache(r.c), len(r.known))
	}
	for _, n := range runNames() {
		for _, ty := range []int{1, 2, 5, 16} {
			_, l, kind := impl.CacheGet(r.c, n, ty)
			e := r.known[slotPlace(n, ty)]
			if e == nil {
				e = &entry{}
			}
			if kind != e.kind || len(l) != len(e.rrs) {
				r.t.Fatalf("CacheGet %s, %d of %s = %s, %d, want %v", told(n), ty, toldCache(r.c), toldRrs(l), kind, e)
			}
			r.checkTimes(l, e)
		}
	}
}

func (r *cacheRun) checkTimes(l []impl.Rr, e *entry) {
	for i, x := range l {
		if x.Ttl > e.least || x.Ttl > e.rrs[i].Ttl || x.Ttl > e.until-r.c.Now || x.Ttl < min(e.rrs[i].Ttl, e.until-r.c.Now) {
			r.t.Fatalf("%s is told of %s at %d, and %d before", toldRr(x), toldRr(e.rrs[i]), r.c.Now, e.least)
		}
		if x.Ttl = e.rrs[i].Ttl; toldRr(x) != toldRr(e.rrs[i]) {
			r.t.Fatalf("%s is told of %s", toldRr(x), toldRr(e.rrs[i]))
		}
	}
	if len(l) > 0 {
		e.least = l[0].Ttl
	}
}

func TestMixedRunsOfACache(t *testing.T) {
	m := mixer(12)
	codes := map[string]int{}
	for i := range 60 {
		c := []impl.Cache{{}, someCache(), cached(999900, 5), cached(50, 999900), cached(999990, 999990)}[i%5]
		if i%5 == 1 {
			// The last one lies outside the names of a run.
			c.Slots = c.Slots[:4]
		}
		r := runOf(t, &m, c, codes)
		for range 100 {
			[]func(){r.put, r.put, r.put, r.no, r.no, r.get, r.get, r.get, r.get, r.tick, r.tick}[m.below(11)]()
			r.check()
		}
	}
	for told, least := range map[string]int{
		"put true": 300, "put false": 100, "put wrong": 50, "no true": 200, "no false": 50, "no wrong": 100, "get 0": 300, "get 1": 200, "get 2": 50, "get 3": 50,
		"tick 0": 300, "tick 1": 50, "tick 2": 50, "tick wrong": 50, "gone": 100,
	} {
		if codes[told] < least {
			t.Error("too few of", told, codes)
		}
	}
}

// cacheArgs are all arguments that a function of the chapter may take; the number is a rank, a time and a moment.
type cacheArgs struct {
	C    impl.Cache
	L    []impl.Rr
	N    impl.Name
	Type int
	Kind int
	Num  int
}

func roomySlot(s impl.Slot) impl.Slot {
	s.Name, s.Rrs = roomyName(s.Name), roomy(s.Rrs, roomyRr, rec("spare. 9 A 9"))
	return s
}

func (a cacheArgs) roomy() cacheArgs {
	a.C.Slots = roomy(a.C.Slots, roomySlot, lack("spare. A", 2, 2, a.C.Now+9, 1))
	a.L, a.N = roomy(a.L, roomyRr, rec("spare. 9 A 9")), roomyName(a.N)
	return a
}

func (a cacheArgs) told() string {
	return fmt.Sprint(toldCache(a.C), toldRrs(a.L), told(a.N), a.Type, a.Kind, a.Num)
}

// cacheAnswer is all that one function answers.
type cacheAnswer struct {
	C impl.Cache
	L []impl.Rr
	N []impl.Name
}

func (a cacheAnswer) told(beside any) (any, string) {
	return a, fmt.Sprint(toldCache(a.C), toldRrs(a.L), toldAll(a.N, told), beside)
}

func cacheCalls() map[string]func(a cacheArgs) (any, string) {
	return map[string]func(a cacheArgs) (any, string){
		"CacheOk": func(a cacheArgs) (any, string) { return cacheAnswer{}.told(impl.CacheOk(a.C)) },
		"CachePut": func(a cacheArgs) (any, string) {
			c, ok := impl.CachePut(a.C, a.L, a.Num)
			return cacheAnswer{C: c}.told(ok)
		},
		"CacheNo": func(a cacheArgs) (any, string) {
			c, ok := impl.CacheNo(a.C, a.N, a.Type, a.Kind, a.Num)
			return cacheAnswer{C: c}.told(ok)
		},
		"CacheGet": func(a cacheArgs) (any, string) {
			c, l, kind := impl.CacheGet(a.C, a.N, a.Type)
			return cacheAnswer{C: c, L: l}.told(kind)
		},
		"CacheTick": func(a cacheArgs) (any, string) {
			c, n := impl.CacheTick(a.C, a.C.Now+a.Num)
			return cacheAnswer{C: c}.told(n)
		},
		"CacheNames": func(a cacheArgs) (any, string) { return cacheAnswer{N: impl.CacheNames(a.C)}.told(0) },
	}
}

func manyCacheArgs() []cacheArgs {
	caches := []impl.Cache{{}, someCache(), eightSlots(), cached(100, 1000000, someSlots()...), goodCaches()["types in order"], cached(100, 5, hit(0, 150, 1, "a.com. 9 SOA b.com. 5 60"), hit(0, 150, 2, "a.com. 9 TXT xyz")), wrongOrders()["backward"], cached(0, -1)}
	sets := append(goodSets(), recs("a.com. 9 SOA c.com. 5 60", "a.com. 9 SOA c.com. 6 60"), recs("a.com. 9 A 2", "a.com. 9 A 1"))
	var out []cacheArgs
	for _, c := range caches {
		for i, l := range sets {
			n, ty := asked([]string{"com. NS", "a.com. A", "a.com. TXT", "b.com. A", "c.com. TXT", "a.com. SOA", "a. TXT", "s2.com. A", "z.com. A", "a.com. ANY"}[i%10])
			out = append(out, cacheArgs{c, l, n, ty, 2 + i%2, i % 5})
			out = append(out, cacheArgs{c, l, labels("a", "com", "a", "b", "c"), 16, i % 5, []int{50, 999, 1000, -1}[i%4]})
		}
	}
	return out
}

func TestCacheAnswersAreNewMemory(t *testing.T) {
	for call, run := range cacheCalls() {
		for _, plain := range manyCacheArgs() {
			checkCall(t, call, run, plain, plain.roomy())
		}
	}
}

// Arguments may share memory with each other; what is answered may not.
func TestCachesBySharedMemory(t *testing.T) {
	name := named("a.com.")
	l := []impl.Rr{{Name: name, Type: 2, Ttl: 9, To: name}}
	texts := []impl.Rr{{Name: name, Type: 16, Ttl: 9, Text: name.L[0]}}
	c := cached(0, 9, impl.Slot{Name: name, Type: 2, Kind: 1, Rrs: l, Until: 9, Used: 1}, impl.Slot{Name: name, Type: 16, Kind: 1, Rrs: texts, Until: 9, Used: 2}, impl.Slot{Name: name, Type: 49, Kind: 2, Until: 9, Used: 3})
	for call, run := range cacheCalls() {
		for _, set := range [][]impl.Rr{l, texts, c.Slots[0].Rrs[:1]} {
			for _, ty := range []int{1, 2, 16, 49} {
				a := cacheArgs{c, set, name, ty, 2, 3}
				checkCall(t, call, run, a, a)
			}
		}
	}
}

// What CacheGet answers and the cache beside it are turned apart from each other.
func TestWhatIsGotIsNotTheCaches(t *testing.T) {
	for _, c := range []impl.Cache{someCache(), cached(100, 1000000, someSlots()...)} {
		for _, s := range c.Slots {
			after, l, _ := impl.CacheGet(c, s.Name, s.Type)
			before := toldCache(after)
			for _, r := range l {
				scribbleRr(r)
			}
			scribbleList(l, impl.Rr{Type: 77})
			if toldCache(after) != before || toldCache(c) != toldCache(cached(c.Now, c.Turn, someSlots()...)) {
				t.Fatal(toldCache(after), toldCache(c))
			}
		}
	}
}
