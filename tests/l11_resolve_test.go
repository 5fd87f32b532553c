package tests

import (
	"fmt"
	"math"
	"slices"
	"testing"

	"loop.example/g00422/impl"
)

// questionOf makes one of words.
func questionOf(text string) impl.Question {
	n, ty := asked(text)
	return impl.Question{Name: n, Type: ty}
}

func toldTask(x impl.Task) string {
	return fmt.Sprintf("{state %d id %d first %s name %s zone %s hints %v servers %v turn %d sends %d steps %d code %d answers %s}",
		x.State, x.Id, toldQuestion(x.First), told(x.Name), told(x.Zone), x.Hints, x.Servers, x.Turn, x.Sends, x.Steps, x.Code, toldRrs(x.Answers))
}

func isZeroTask(x impl.Task) bool {
	return toldTask(x) == toldTask(impl.Task{})
}

// begun is what must be begun with.
func begun(text string, hints ...int) impl.Task {
	q := questionOf(text)
	return impl.Task{Id: 7, First: q, Name: q.Name, Hints: hints, Servers: hints}
}

// halfway is a task in the middle of its way, with something in every field that may have some.
func halfway() impl.Task {
	return impl.Task{
		Id: 300, First: questionOf("old.org. A"), Name: named("w.x.com."), Zone: named("com."), Hints: []int{1, 9}, Servers: []int{2, 5, 6},
		Turn: 1, Sends: 3, Steps: 1, Answers: recs("old.org. 60 CNAME w.x.com."),
	}
}

// taskTurn is something that happens to a task; none writes into a list that it had.
type taskTurn = func(x *impl.Task)

func tasked(x impl.Task, turns ...taskTurn) impl.Task {
	for _, turn := range turns {
		turn(&x)
	}
	return x
}

func sendOne(x *impl.Task) { x.Sends++ }

func stepOne(x *impl.Task) { x.Steps++ }

// turnOn makes it the next server's turn.
func turnOn(x *impl.Task) { x.Turn = (x.Turn + 1) % len(x.Servers) }

// startOver has all asked from the hints on.
func startOver(x *impl.Task) {
	x.Zone, x.Servers, x.Turn = impl.Name{}, x.Hints, 0
}

func learn(texts ...string) taskTurn {
	return func(x *impl.Task) { x.Answers = slices.Concat(x.Answers, recs(texts...)) }
}

// alias takes one, which is a step.
func alias(text string) taskTurn {
	return func(x *impl.Task) {
		x.Name = rec(text).To
		*x = tasked(*x, learn(text), stepOne)
	}
}

// sendTo has a zone further down asked, which is a step.
func sendTo(zone string, servers ...int) taskTurn {
	return func(x *impl.Task) { x.Zone, x.Servers, x.Turn, x.Steps = named(zone), servers, 0, x.Steps+1 }
}

func endBy(code int) taskTurn {
	return func(x *impl.Task) {
		x.State, x.Code = 1, code
		if code != 0 && code != 3 {
			x.Answers = nil
		}
	}
}

func ofType(text string) taskTurn {
	return func(x *impl.Task) { x.First.Type = typeOfWord(text) }
}

func inZone(text string) taskTurn {
	return func(x *impl.Task) { x.Zone = named(text) }
}

func ofName(text string) taskTurn {
	return func(x *impl.Task) { x.Name = named(text) }
}

func sentTimes(n int) taskTurn { return func(x *impl.Task) { x.Sends = n } }

func steppedTimes(n int) taskTurn { return func(x *impl.Task) { x.Steps = n } }

// knowing has so many answers.
func knowing(n int) taskTurn {
	return func(x *impl.Task) { x.Answers = recs(severalTexts(n, "k%d.org. 9 A 1")...) }
}

func whom(x impl.Task) int {
	return x.Servers[x.Turn]
}

func askedBy(x impl.Task) impl.Msg {
	return impl.Msg{Id: x.Id, Qs: []impl.Question{{Name: x.Name, Type: x.First.Type}}}
}

// replied is an answer to what a task asks.
func replied(x impl.Task, code int, auth bool, answers, auths, more texts) impl.Msg {
	return reply(askedBy(x), code, auth, answers, auths, more)
}

func serversMay(l []int) bool {
	wrong := func(ip int) bool { return ip < 0 || ip > 4294967295 }
	return len(l) > 0 && len(l) < 5 && !slices.ContainsFunc(l, wrong)
}

// taskMay says again what TaskOk does, but for what NameOk and RrOk ask.
func taskMay(x impl.Task) bool {
	names := impl.NameOk(x.First.Name) && impl.NameOk(x.Name) && impl.NameOk(x.Zone) && isUnder(x.Name, x.Zone)
	wrong := func(r impl.Rr) bool { return !impl.RrOk(r) }
	lists := serversMay(x.Hints) && serversMay(x.Servers) && len(x.Answers) <= 12 && !slices.ContainsFunc(x.Answers, wrong)
	if !names || !lists || !slices.Contains(typeNumbers(), x.First.Type) {
		return false
	}
	if x.Id < 0 || x.Id > 65535 || x.Turn < 0 || x.Turn >= len(x.Servers) || x.Sends < 0 || x.Steps < 0 || x.Code < 0 {
		return false
	}
	if x.State == 0 {
		return x.Code == 0 && x.Sends < 12 && x.Steps < 6
	}
	return x.State == 1 && x.Code <= 10 && x.Sends <= 12 && x.Steps <= 6
}

func insideIn(l []impl.Rr, zone impl.Name) []impl.Rr {
	return slices.DeleteFunc(slices.Clone(l), func(r impl.Rr) bool { return !isUnder(r.Name, zone) })
}

// pick has the records of a name and a type.
func pick(l []impl.Rr, n impl.Name, ty int) []impl.Rr {
	return slices.DeleteFunc(slices.Clone(l), func(r impl.Rr) bool { return wordsOfName(r.Name) != wordsOfName(n) || r.Type != ty })
}

// heardIn says again what Heard does.
func heardIn(x impl.Task, from int, m impl.Msg) (impl.Task, bool) {
	if !taskMay(x) || !impl.MsgOk(m) {
		return impl.Task{}, false
	}
	if x.State == 1 || !m.Reply || m.Op != 0 || m.Id != x.Id || toldQuestion(m.Qs[0]) != toldQuestion(askedBy(x).Qs[0]) || from != whom(x) {
		return x, false
	}
	x.Sends++
	if x.Sends == 12 {
		return tasked(x, endBy(2)), true
	}
	if m.Code != 0 && m.Code != 3 {
		return tasked(x, turnOn), true
	}
	out := learnedIn(x, m, false)
	if len(out.Answers) > 12 {
		return tasked(out, endBy(2)), true
	}
	return out, true
}

// learnedIn looks at the answers once for each name that they lead to.
func learnedIn(x impl.Task, m impl.Msg, led bool) impl.Task {
	set, aliases := pick(insideIn(m.Answers, x.Zone), x.Name, x.First.Type), pick(insideIn(m.Answers, x.Zone), x.Name, 5)
	switch {
	case len(set) > 0:
		x.Answers = slices.Concat(x.Answers, set)
		return tasked(x, endBy(0))
	case len(aliases) > 0:
		return aliasedIn(x, m, aliases[0])
	case m.Code == 3:
		return tasked(x, endBy(3))
	case led:
		return x
	}
	return handedIn(x, m)
}

func aliasedIn(x impl.Task, m impl.Msg, r impl.Rr) impl.Task {
	x.Answers, x.Name, x.Steps = slices.Concat(x.Answers, []impl.Rr{r}), r.To, x.Steps+1
	inside := isUnder(x.Name, x.Zone)
	if !inside {
		startOver(&x)
	}
	if x.Steps == 6 {
		return tasked(x, endBy(2))
	}
	if inside {
		return learnedIn(x, m, true)
	}
	return x
}

func handedIn(x impl.Task, m impl.Msg) impl.Task {
	below := slices.DeleteFunc(insideIn(m.Auths, x.Zone), func(r impl.Rr) bool {
		return r.Type != 2 || len(r.Name.L) <= len(x.Zone.L) || !isUnder(x.Name, r.Name)
	})
	if len(below) == 0 && m.Auth {
		return tasked(x, endBy(0))
	}
	if len(below) == 0 {
		return tasked(x, turnOn)
	}
	longest := slices.MaxFunc(below, func(a, b impl.Rr) int { return len(a.Name.L) - len(b.Name.L) }).Name
	var ips []int
	for _, server := range pick(below, longest, 2) {
		for _, r := range pick(insideIn(m.More, x.Zone), server.To, 1) {
			if len(ips) < 4 {
				ips = append(ips, r.Addr)
			}
		}
	}
	if len(ips) == 0 {
		return tasked(x, endBy(2))
	}
	x.Zone, x.Servers, x.Turn, x.Steps = longest, ips, 0, x.Steps+1
	if x.Steps == 6 {
		return tasked(x, endBy(2))
	}
	return x
}

func lostIn(x impl.Task) (impl.Task, bool) {
	if !taskMay(x) || x.State == 1 {
		return impl.Task{}, false
	}
	if x.Sends == 11 {
		return tasked(x, sendOne, endBy(2), turnOn), true
	}
	return tasked(x, sendOne, turnOn), true
}

func worldMay(zones []impl.Zone, at []int) bool {
	wrong := func(ip int) bool { return ip < 0 || ip > 4294967295 }
	return len(zones) <= 5 && len(at) == len(zones) && !slices.ContainsFunc(at, wrong) && !slices.ContainsFunc(zones, func(z impl.Zone) bool { return !mayBe(z) })
}

// servedIn says again what ServerOf does, of a world and of a question that may be.
func servedIn(zones []impl.Zone, at []int, ip int, m impl.Msg) (impl.Msg, bool) {
	if !slices.Contains(at, ip) {
		return impl.Msg{}, false
	}
	var have []impl.Zone
	for i, z := range zones {
		if at[i] == ip && isUnder(m.Qs[0].Name, z.Origin) {
			have = append(have, z)
		}
	}
	if len(have) == 0 {
		return impl.Msg{Id: m.Id, Reply: true, Code: 5, Qs: m.Qs}, true
	}
	slices.SortStableFunc(have, func(a, b impl.Zone) int { return len(b.Origin.L) - len(a.Origin.L) })
	return answered(have[0], m), true
}

// resolvedIn says again what Resolve does.
func resolvedIn(zones []impl.Zone, at []int, hints []int, q impl.Question, lost []bool) (impl.Task, bool) {
	x := impl.Task{Id: 7, First: q, Name: q.Name, Hints: hints, Servers: hints}
	if !taskMay(x) || !worldMay(zones, at) || len(lost) > 24 {
		return impl.Task{}, false
	}
	for i := 0; x.State == 0; i++ {
		m, there := servedIn(zones, at, whom(x), askedBy(x))
		if there && (i >= len(lost) || !lost[i]) {
			x, _ = heardIn(x, whom(x), m)
		} else {
			x, _ = lostIn(x)
		}
	}
	return x, true
}

func TestAskingLimits(t *testing.T) {
	if impl.MaxSends != 12 || impl.MaxSteps != 6 || impl.TkAsk != 0 || impl.TkDone != 1 {
		t.Error(impl.MaxSends, impl.MaxSteps, impl.TkAsk, impl.TkDone)
	}
}

func greatInts() []int {
	return []int{-1, -1 << 32, 1 << 32, 1<<32 + 1, math.MaxInt, math.MinInt}
}

// goodTasks meet each limit.
func goodTasks() map[string]impl.Task {
	w := longLabel()
	out := map[string]impl.Task{
		"halfway": halfway(), "begun": begun("w.com. A", 1), "of the root": begun(". SOA", 0), "with empty lists": tasked(halfway(), func(x *impl.Task) { x.Answers = []impl.Rr{} }),
		"name and zone are one": tasked(halfway(), ofName("com.")), "root and root": tasked(halfway(), ofName("."), inZone(".")), "a great name": tasked(halfway(), func(x *impl.Task) { x.Name, x.Zone = labels(w, w, w, w, w, w), labels(w, w) }),
		"done": tasked(halfway(), endBy(0)), "no name": tasked(halfway(), endBy(3)), "failed": tasked(halfway(), endBy(2)), "failed with answers": tasked(halfway(), endBy(2), knowing(1)),
		"all at once": tasked(halfway(), endBy(10), knowing(12), sentTimes(12), steppedTimes(6)), "nearly all": tasked(halfway(), knowing(12), sentTimes(11), steppedTimes(5)),
		"answers twice": tasked(halfway(), learn("a. 9 A 1", "a. 9 A 1")),
	}
	for _, id := range []int{0, 1, 65534, 65535} {
		out[fmt.Sprint("id ", id)] = tasked(halfway(), func(x *impl.Task) { x.Id = id })
	}
	for _, ty := range typeNumbers() {
		out[fmt.Sprint("type ", ty)] = tasked(halfway(), func(x *impl.Task) { x.First.Type = ty })
	}
	for _, l := range [][]int{{0}, {1<<32 - 1}, {1, 2}, {1, 1, 1}, {0, 1, 2, 1<<32 - 1}, {5, 5, 5, 5}} {
		out[fmt.Sprint("hints ", l)] = tasked(halfway(), func(x *impl.Task) { x.Hints = l })
		for turn := range l {
			out[fmt.Sprint("servers ", l, turn)] = tasked(halfway(), func(x *impl.Task) { x.Servers, x.Turn = l, turn })
		}
	}
	for n := range 13 {
		if n < 12 {
			out[fmt.Sprint("sends ", n)] = tasked(halfway(), sentTimes(n))
		}
		out[fmt.Sprint("answers ", n)] = tasked(halfway(), knowing(n))
		out[fmt.Sprint("done sends ", n)] = tasked(halfway(), endBy(0), sentTimes(n))
	}
	for n := range 7 {
		if n < 6 {
			out[fmt.Sprint("steps ", n)] = tasked(halfway(), steppedTimes(n))
		}
		out[fmt.Sprint("done steps ", n)] = tasked(halfway(), endBy(3), steppedTimes(n))
	}
	for code := range 11 {
		out[fmt.Sprint("code ", code)] = tasked(halfway(), endBy(code))
	}
	return out
}

// wrongTurns each make a task that may be one that may not.
func wrongTurns() map[string]taskTurn {
	out := map[string]taskTurn{
		"of a name outside": ofName("w.org."), "of a name above": ofName("."), "of a name that ends alike": ofName("xcom."), "of a zone below": inZone("a.w.x.com."), "of a zone beside": inZone("y.com."), "of a zone that ends alike": inZone("m."),
		"no hints": func(x *impl.Task) { x.Hints = nil }, "empty hints": func(x *impl.Task) { x.Hints = []int{} }, "five hints": func(x *impl.Task) { x.Hints = []int{1, 2, 3, 4, 5} }, "many hints": func(x *impl.Task) { x.Hints = make([]int, 5000) },
		"no servers": func(x *impl.Task) { x.Servers, x.Turn = nil, 0 }, "hidden servers": func(x *impl.Task) { x.Servers, x.Turn = []int{1, 2}[:0], 0 }, "five servers": func(x *impl.Task) { x.Servers = []int{1, 2, 3, 4, 5} }, "many servers": func(x *impl.Task) { x.Servers = make([]int, 5000) },
		"no servers and a turn before": func(x *impl.Task) { x.Servers, x.Turn = nil, -1 }, "13 answers": knowing(13), "14 answers": knowing(14), "500 answers": knowing(500),
	}
	set := func(why string, n int, turn func(x *impl.Task, n int)) {
		out[fmt.Sprint(why, " ", n)] = func(x *impl.Task) { turn(x, n) }
	}
	for _, n := range greatInts() {
		for at := range 4 {
			l := []int{1, 2, 3, 4}
			l[at] = n
			set(fmt.Sprint("hint ", at), n, func(x *impl.Task, n int) { x.Hints = l })
			set(fmt.Sprint("server ", at), n, func(x *impl.Task, n int) { x.Servers = l })
		}
		set("the one hint", n, func(x *impl.Task, n int) { x.Hints = []int{n} })
		set("the one server", n, func(x *impl.Task, n int) { x.Servers, x.Turn = []int{n}, 0 })
		set("id", n, func(x *impl.Task, n int) { x.Id = n })
		set("state", n, func(x *impl.Task, n int) { x.State = n })
		set("turn", n, func(x *impl.Task, n int) { x.Turn = n })
		set("sends", n, func(x *impl.Task, n int) { x.Sends = n })
		set("steps", n, func(x *impl.Task, n int) { x.Steps = n })
		set("code", n, func(x *impl.Task, n int) { x.Code = n })
	}
	set("id", 65536, func(x *impl.Task, n int) { x.Id = n })
	set("state", 2, func(x *impl.Task, n int) { x.State = n })
	set("turn behind the last", 3, func(x *impl.Task, n int) { x.Turn = max(n, len(x.Servers)) })
	set("sends", 13, func(x *impl.Task, n int) { x.Sends = n })
	set("steps", 7, func(x *impl.Task, n int) { x.Steps = n })
	set("code", 11, func(x *impl.Task, n int) { x.Code = n })
	for i, n := range badNames() {
		set("wrong first", i, func(x *impl.Task, _ int) { x.First.Name = n })
		set("wrong name", i, func(x *impl.Task, _ int) { x.Name = n })
		set("wrong name in the root", i, func(x *impl.Task, _ int) { x.Name, x.Zone = n, impl.Name{} })
		set("wrong zone", i, func(x *impl.Task, _ int) { x.Zone = n })
		set("wrong name and zone", i, func(x *impl.Task, _ int) { x.Name, x.Zone = n, n })
	}
	for _, ty := range wrongTypes() {
		set("type", ty, func(x *impl.Task, n int) { x.First.Type = n })
	}
	for i, r := range badRecords() {
		set("wrong answer", i, func(x *impl.Task, _ int) { x.Answers = []impl.Rr{r} })
		set("wrong answer behind", i, func(x *impl.Task, _ int) { x.Answers = append(recs("a. 9 A 1"), r) })
	}
	return out
}

// badTasks are not TaskOk, each in one way.
func badTasks() map[string]impl.Task {
	out := map[string]impl.Task{
		"nothing": {}, "asks with 12 sends": tasked(halfway(), sentTimes(12)), "asks with 6 steps": tasked(halfway(), steppedTimes(6)),
	}
	for why, turn := range wrongTurns() {
		out[why] = tasked(halfway(), turn)
		out["done, "+why] = tasked(halfway(), endBy(0), turn)
	}
	for code := 1; code < 12; code++ {
		out[fmt.Sprint("asks with code ", code)] = tasked(halfway(), func(x *impl.Task) { x.Code = code })
	}
	return out
}

func TestTaskOk(t *testing.T) {
	for why, x := range goodTasks() {
		if !impl.TaskOk(x) || !taskMay(x) {
			t.Errorf("%s: TaskOk(%s) = false", why, toldTask(x))
		}
	}
	for why, x := range badTasks() {
		if impl.TaskOk(x) || taskMay(x) {
			t.Errorf("%s: TaskOk(%s) = true", why, toldTask(x))
		}
	}
}

func expectNoTask(t *testing.T, call string, x impl.Task, ok bool) {
	t.Helper()
	if ok || !isZeroTask(x) {
		t.Fatalf("%s = %s, %v", call, toldTask(x), ok)
	}
}

// expectNoAsk holds AskOf to what it answers where nothing is asked.
func expectNoAsk(t *testing.T, why string, x impl.Task) {
	t.Helper()
	if ip, m, ok := impl.AskOf(x); ip != 0 || !isZeroMsg(m) || ok {
		t.Fatalf("%s: AskOf(%s) = %d, %s, %v", why, toldTask(x), ip, toldMsg(m), ok)
	}
}

// What is wrong with the task counts ahead of all that is wrong with the answer.
func TestWrongTasksAreNotTaken(t *testing.T) {
	for why, x := range badTasks() {
		expectNoAsk(t, why, x)
		good := replied(halfway(), 0, true, texts{"w.x.com. 9 A 1"}, nil, nil)
		for _, m := range []impl.Msg{good, askedBy(halfway()), update(named("w.x.com.")), turned(good, func(m *impl.Msg) { m.Id++ }), {}} {
			for _, from := range []int{5, 2, 1, -1} {
				got, ok := impl.Heard(x, from, m)
				expectNoTask(t, why+": Heard", got, ok)
			}
		}
		got, ok := impl.Lost(x)
		expectNoTask(t, why+": Lost", got, ok)
	}
}

func TestInside(t *testing.T) {
	l := recs(". 9 NS a.", "com. 9 NS a.com.", "x.com. 9 CNAME y.org.", "xcom. 9 A 1", "a.org. 9 TXT com", "b.x.com. 9 A 3", "x.com.org. 9 A 4", "com. 9 SOA com. 1 2", "a.x.com. 9 PTR com.", "com. 9 NS a.com.")
	for zone, want := range map[string][]int{
		".": {0, 1, 2, 3, 4, 5, 6, 7, 8, 9}, "com.": {1, 2, 5, 7, 8, 9}, "x.com.": {2, 5, 8}, "b.x.com.": {5}, "org.": {4, 6}, "com.org.": {6}, "c.b.x.com.": {}, "om.": {}, "x.": {}, "y.org.": {}, "m.": {},
	} {
		var left []impl.Rr
		for _, i := range want {
			left = append(left, l[i])
		}
		if got := impl.Inside(l, named(zone)); toldRrs(got) != toldRrs(left) {
			t.Errorf("Inside %s = %s, want %s", zone, toldRrs(got), toldRrs(left))
		}
	}
	if got := impl.Inside(nil, named("com.")); len(got) != 0 {
		t.Error(toldRrs(got))
	}
}

func TestLimitsOfInside(t *testing.T) {
	for n := range 16 {
		l := recs(severalTexts(n, "k%d.org. 9 A 1")...)
		for _, zone := range []string{".", "org."} {
			want := l
			if n > 12 {
				want = nil
			}
			if got := impl.Inside(l, named(zone)); toldRrs(got) != toldRrs(want) {
				t.Errorf("Inside %d of %s = %s", n, zone, toldRrs(got))
			}
		}
	}
	hidden := recs("a. 9 A 1", "b. 9 A 1", "c. 9 A 1")
	if got := impl.Inside(hidden[:1], named(".")); len(got) != 1 {
		t.Error(toldRrs(got))
	}
	for _, r := range badRecords() {
		for at := range 3 {
			if got := impl.Inside(slices.Insert(recs("a. 9 A 1", "b. 9 A 1"), at, r), named(".")); len(got) != 0 {
				t.Fatalf("Inside with %s = %s", toldRr(r), toldRrs(got))
			}
		}
	}
	for _, n := range badNames() {
		same := []impl.Rr{{Name: n, Type: 1}}
		if len(impl.Inside(recs("a. 9 A 1", "pc.home. 9 A 1"), n)) != 0 || len(impl.Inside(same, n)) != 0 || len(impl.Inside(same, named("."))) != 0 {
			t.Fatalf("Inside %s", told(n))
		}
	}
}

func TestBegin(t *testing.T) {
	for _, n := range goodNames() {
		for _, ty := range typeNumbers() {
			for _, hints := range [][]int{{1}, {0, 1<<32 - 1}, {7, 7, 7}, {4, 3, 2, 1}} {
				for _, id := range []int{0, 7, 65535} {
					q := impl.Question{Name: n, Type: ty}
					want := impl.Task{Id: id, First: q, Name: n, Hints: hints, Servers: hints}
					got, ok := impl.Begin(q, hints, id)
					if !ok || toldTask(got) != toldTask(want) || !impl.TaskOk(got) {
						t.Fatalf("Begin(%s, %v, %d) = %s, %v", toldQuestion(q), hints, id, toldTask(got), ok)
					}
				}
			}
		}
	}
}

func TestBeginOfWhatMayNotBe(t *testing.T) {
	q := questionOf("w.com. A")
	refuse := func(q impl.Question, hints []int, id int) {
		t.Helper()
		got, ok := impl.Begin(q, hints, id)
		expectNoTask(t, fmt.Sprint("Begin ", toldQuestion(q), hints, id), got, ok)
	}
	for _, id := range append(greatInts(), 65536, -7) {
		refuse(q, []int{1}, id)
	}
	for _, hints := range [][]int{nil, {}, []int{1, 2}[:0], {1, 2, 3, 4, 5}, {1, 1, 1, 1, 1, 1}, make([]int, 5000)} {
		refuse(q, hints, 7)
	}
	for _, ip := range greatInts() {
		for at := range 4 {
			refuse(q, slices.Insert([]int{1, 2, 3}, at, ip), 7)
		}
		refuse(q, []int{ip}, 7)
	}
	for _, ty := range wrongTypes() {
		refuse(impl.Question{Name: q.Name, Type: ty}, []int{1}, 7)
	}
	for _, n := range badNames() {
		refuse(impl.Question{Name: n, Type: 1}, []int{1}, 7)
	}
}

func TestAskOf(t *testing.T) {
	for why, x := range goodTasks() {
		if x.State == 1 {
			expectNoAsk(t, why, x)
			continue
		}
		ip, m, ok := impl.AskOf(x)
		if ip != whom(x) || toldMsg(m) != toldMsg(askedBy(x)) || !ok || !impl.MsgOk(m) {
			t.Errorf("%s: AskOf(%s) = %d, %s, %v", why, toldTask(x), ip, toldMsg(m), ok)
		}
	}
	ip, m, _ := impl.AskOf(halfway())
	if ip != 5 || m.Id != 300 || m.Reply || m.Op != 0 || toldQuestion(m.Qs[0]) != toldQuestion(questionOf("w.x.com. A")) {
		t.Error(ip, toldMsg(m))
	}
}

// checkHeard holds what an answer leaves to what it must, in all that promise 9 says of it.
func checkHeard(t *testing.T, x impl.Task, m impl.Msg, got impl.Task) {
	t.Helper()
	if !impl.TaskOk(got) || !taskMay(got) || got.Sends != x.Sends+1 {
		t.Fatalf("Heard %s by %s leaves %s", toldMsg(m), toldTask(x), toldTask(got))
	}
	if len(got.Answers) == 0 {
		return
	}
	if len(got.Answers) < len(x.Answers) || toldRrs(got.Answers[:len(x.Answers)]) != toldRrs(x.Answers) {
		t.Fatalf("Heard %s by %s forgets: %s", toldMsg(m), toldTask(x), toldTask(got))
	}
	for _, r := range got.Answers[len(x.Answers):] {
		if !isUnder(r.Name, x.Zone) || !slices.ContainsFunc(m.Answers, func(a impl.Rr) bool { return toldRr(a) == toldRr(r) }) {
			t.Fatalf("Heard %s by %s believes %s", toldMsg(m), toldTask(x), toldRr(r))
		}
	}
}

// expectHeard holds what an answer leaves to what happens to the task, and the second one, too.
func expectHeard(t *testing.T, x impl.Task, m impl.Msg, turns ...taskTurn) {
	t.Helper()
	want := tasked(tasked(x, sendOne), turns...)
	got, ok := impl.Heard(x, whom(x), m)
	if !ok || toldTask(got) != toldTask(want) {
		t.Fatalf("Heard %s\nby %s\n = %s, %v\nwant %s", toldMsg(m), toldTask(x), toldTask(got), ok, toldTask(want))
	}
	checkHeard(t, x, m, got)
	if again, ok := heardIn(x, whom(x), m); !ok || toldTask(again) != toldTask(want) {
		t.Fatalf("the second Heard %s\nby %s\n = %s, %v\nwant %s", toldMsg(m), toldTask(x), toldTask(again), ok, toldTask(want))
	}
}

// expectKept holds what is no answer to changing nothing.
func expectKept(t *testing.T, x impl.Task, from int, m impl.Msg) {
	t.Helper()
	got, ok := impl.Heard(x, from, m)
	again, second := heardIn(x, from, m)
	if ok || second || toldTask(got) != toldTask(x) || toldTask(again) != toldTask(x) {
		t.Fatalf("Heard %s from %d by %s = %s, %v, %s, %v", toldMsg(m), from, toldTask(x), toldTask(got), ok, toldTask(again), second)
	}
}

func TestHeardOfASet(t *testing.T) {
	one := texts{"w.x.com. 60 A 1"}
	for _, x := range []impl.Task{halfway(), begun("w.x.com. A", 1, 2), tasked(halfway(), inZone(".")), tasked(halfway(), inZone("w.x.com.")), tasked(halfway(), steppedTimes(5)), tasked(halfway(), sentTimes(10))} {
		for _, code := range []int{0, 3} {
			for _, auth := range []bool{false, true} {
				expectHeard(t, x, replied(x, code, auth, one, nil, nil), learn(one...), endBy(0))
				expectHeard(t, x, replied(x, code, auth, one, texts{"x.com. 9 NS ns.com."}, texts{"ns.com. 9 A 7"}), learn(one...), endBy(0))
			}
		}
	}
	x := halfway()
	three := texts{"w.x.com. 60 A 9", "w.x.com. 30 A 1", "w.x.com. 60 A 9"}
	expectHeard(t, x, replied(x, 0, true, three, nil, nil), learn(three...), endBy(0))
	expectHeard(t, x, replied(x, 0, true, texts{"w.x.com. 60 TXT a", "x.com. 60 A 3", three[0], "a.w.x.com. 60 A 3", three[1], "w.com. 60 A 3", "w.x.com. 60 NS a."}, nil, nil), learn(three[:2]...), endBy(0))
	expectHeard(t, x, replied(x, 0, true, texts{"w.x.com. 60 CNAME y.com.", three[0], "y.com. 60 A 7"}, nil, nil), learn(three[0]), endBy(0))
	for _, r := range fewRecords() {
		x := begun("pc.home. "+typeTexts()[r.Type], 1)
		m := replied(x, 0, true, nil, nil, nil)
		m.Answers = fewRecords()
		expectHeard(t, x, m, func(x *impl.Task) { x.Answers = []impl.Rr{r} }, endBy(0))
	}
}

func TestHeardOfAnAliasAndItsSet(t *testing.T) {
	x := halfway()
	first, second, third := "w.x.com. 60 CNAME y.com.", "y.com. 60 CNAME z.x.com.", "z.x.com. 60 CNAME com."
	set := texts{"y.com. 60 A 7", "y.com. 60 A 8"}
	for _, code := range []int{0, 3} {
		for _, auth := range []bool{false, true} {
			expectHeard(t, x, replied(x, code, auth, texts{first, set[0], set[1]}, nil, nil), alias(first), learn(set...), endBy(0))
			expectHeard(t, x, replied(x, code, auth, texts{set[0], set[1], first}, nil, nil), alias(first), learn(set...), endBy(0))
			expectHeard(t, x, replied(x, code, auth, texts{"com. 60 A 3", second, third, first}, nil, nil), alias(first), alias(second), alias(third), learn("com. 60 A 3"), endBy(0))
		}
	}
	expectHeard(t, x, replied(x, 0, true, texts{"y.com. 60 CNAME a.com.", first, "w.x.com. 60 CNAME b.com.", "a.com. 60 A 1", "b.com. 60 A 1"}, nil, nil), alias(first), alias("y.com. 60 CNAME a.com."), learn("a.com. 60 A 1"), endBy(0))
	low := tasked(x, ofType("CNAME"))
	expectHeard(t, low, replied(low, 0, true, texts{first, second, set[0]}, nil, nil), learn(first), endBy(0))
	expectHeard(t, low, replied(low, 0, true, texts{"w.x.com. 60 CNAME y.org.", first}, nil, nil), learn("w.x.com. 60 CNAME y.org.", first), endBy(0))
	root := begun("a. TXT", 3)
	expectHeard(t, root, replied(root, 0, false, texts{"a. 9 CNAME .", ". 9 CNAME b.org.", "b.org. 9 TXT x"}, nil, nil), alias("a. 9 CNAME ."), alias(". 9 CNAME b.org."), learn("b.org. 9 TXT x"), endBy(0))
}

// Where nothing is told of the name that an alias in Zone leads to, the same server is asked for it, if that isn't said to be none.
func TestHeardOfAnAliasInZone(t *testing.T) {
	x := halfway()
	first, second := "w.x.com. 60 CNAME y.com.", "y.com. 60 CNAME z.x.com."
	for _, auth := range []bool{false, true} {
		for _, more := range []texts{nil, {"ns.com. 9 A 7"}} {
			for _, auths := range []texts{nil, {"com. 9 SOA com. 1 2"}, {"x.com. 9 NS ns.com."}, {"y.com. 9 NS ns.com."}} {
				expectHeard(t, x, replied(x, 0, auth, texts{first}, auths, more), alias(first))
				expectHeard(t, x, replied(x, 3, auth, texts{first}, auths, more), alias(first), endBy(3))
				expectHeard(t, x, replied(x, 0, auth, texts{second, first}, auths, more), alias(first), alias(second))
				expectHeard(t, x, replied(x, 3, auth, texts{second, first}, auths, more), alias(first), alias(second), endBy(3))
				expectHeard(t, x, replied(x, 0, auth, texts{first, "y.com. 9 TXT x", "z.com. 9 A 1"}, auths, more), alias(first))
				expectHeard(t, x, replied(x, 3, auth, texts{first, "y.com. 9 TXT x", "z.com. 9 A 1"}, auths, more), alias(first), endBy(3))
			}
		}
	}
	expectHeard(t, x, replied(x, 0, true, texts{"w.x.com. 60 CNAME com."}, nil, nil), alias("w.x.com. 60 CNAME com."))
	expectHeard(t, x, replied(x, 0, true, texts{second, "w.com. 60 CNAME y.com."}, nil, nil), endBy(0))
}

// An alias that leads out of Zone is all that is taken: what is told of the other name, or that it is none, is not believed.
func TestHeardOfAnAliasOutOfZone(t *testing.T) {
	x := halfway()
	for _, to := range []string{"y.org.", "org.", ".", "xcom.", "com.org."} {
		out := "w.x.com. 60 CNAME " + to
		for _, code := range []int{0, 3} {
			for _, auth := range []bool{false, true} {
				expectHeard(t, x, replied(x, code, auth, texts{out}, nil, nil), alias(out), startOver)
				expectHeard(t, x, replied(x, code, auth, texts{out, to + " 60 A 66", to + " 60 CNAME a.com.", "a.com. 60 A 66"}, texts{"x.com. 9 NS ns.com."}, texts{"ns.com. 9 A 7"}), alias(out), startOver)
			}
		}
	}
	first, second := "w.x.com. 60 CNAME y.com.", "y.com. 60 CNAME z.org."
	expectHeard(t, x, replied(x, 0, true, texts{first, second, "z.org. 60 A 66"}, nil, nil), alias(first), alias(second), startOver)
	expectHeard(t, x, replied(x, 3, true, texts{first, second}, nil, nil), alias(first), alias(second), startOver)
	low := tasked(x, inZone("w.x.com."))
	expectHeard(t, low, replied(low, 0, true, texts{first, "y.com. 60 A 7"}, nil, nil), alias(first), startOver)
	down := "w.x.com. 60 CNAME a.w.x.com."
	expectHeard(t, low, replied(low, 0, true, texts{down, "a.w.x.com. 60 A 7"}, nil, nil), alias(down), learn("a.w.x.com. 60 A 7"), endBy(0))
	root := tasked(x, inZone("."))
	expectHeard(t, root, replied(root, 0, true, texts{first, second}, nil, nil), alias(first), alias(second))
}

func TestHeardOfNothing(t *testing.T) {
	for _, x := range []impl.Task{halfway(), begun("w.x.com. A", 1), begun("w.x.com. A", 1, 2, 3, 4), tasked(halfway(), inZone("w.x.com.")), tasked(halfway(), onTurn(0)), tasked(halfway(), onTurn(2)), tasked(halfway(), knowing(12)), tasked(halfway(), steppedTimes(5))} {
		for _, auths := range []texts{nil, {"com. 9 SOA com. 1 2"}} {
			expectHeard(t, x, replied(x, 0, true, nil, auths, nil), endBy(0))
			expectHeard(t, x, replied(x, 0, false, nil, auths, nil), turnOn)
			for _, auth := range []bool{false, true} {
				expectHeard(t, x, replied(x, 3, auth, nil, auths, nil), endBy(3))
				expectHeard(t, x, replied(x, 3, auth, texts{"a.x.com. 9 A 1", "w.x.com. 9 TXT x"}, texts{"x.com. 9 NS ns.com.", "w.x.com. 9 NS ns.com."}, texts{"ns.com. 9 A 7"}), endBy(3))
			}
		}
	}
}

func onTurn(n int) taskTurn { return func(x *impl.Task) { x.Turn = n } }

// What a server says that can't tell is not looked at.
func TestHeardOfAnotherCode(t *testing.T) {
	for _, x := range []impl.Task{halfway(), begun("w.x.com. A", 1), tasked(halfway(), onTurn(2)), tasked(halfway(), knowing(12)), tasked(halfway(), steppedTimes(5))} {
		for _, code := range []int{1, 2, 4, 5, 6, 7, 8, 9, 10} {
			for _, auth := range []bool{false, true} {
				expectHeard(t, x, replied(x, code, auth, nil, nil, nil), turnOn)
				expectHeard(t, x, replied(x, code, auth, texts{"w.x.com. 9 A 1"}, nil, nil), turnOn)
				expectHeard(t, x, replied(x, code, auth, texts{"w.x.com. 9 CNAME y.org."}, nil, nil), turnOn)
				expectHeard(t, x, replied(x, code, auth, nil, texts{"x.com. 9 NS ns.com."}, texts{"ns.com. 9 A 7"}), turnOn)
			}
		}
	}
}

func TestHeardOfServersBelow(t *testing.T) {
	x := halfway()
	for _, c := range []struct {
		auths, more texts
		zone        string
		servers     []int
	}{
		{texts{"x.com. 9 NS ns.com."}, texts{"ns.com. 9 A 7"}, "x.com.", []int{7}},
		{texts{"w.x.com. 9 NS ns.com."}, texts{"ns.com. 9 A 7"}, "w.x.com.", []int{7}},
		{texts{"x.com. 9 NS x.com."}, texts{"x.com. 9 A 0"}, "x.com.", []int{0}},
		{texts{"x.com. 9 NS com."}, texts{"com. 9 A 4294967295"}, "x.com.", []int{4294967295}},
		{texts{"x.com. 9 NS w.x.com."}, texts{"w.x.com. 9 A 7"}, "x.com.", []int{7}},
		{texts{"x.com. 9 NS ns.com."}, texts{"ns.com. 9 A 9", "ns.com. 9 A 7", "ns.com. 9 A 8"}, "x.com.", []int{9, 7, 8}},
		{texts{"x.com. 9 NS ns.com."}, texts{"ns.com. 9 A 4", "ns.com. 9 A 3", "ns.com. 9 A 2", "ns.com. 9 A 1"}, "x.com.", []int{4, 3, 2, 1}},
		{texts{"x.com. 9 NS ns.com."}, texts{"ns.com. 9 A 5", "ns.com. 9 A 4", "ns.com. 9 A 3", "ns.com. 9 A 2", "ns.com. 9 A 1"}, "x.com.", []int{5, 4, 3, 2}},
		{texts{"x.com. 9 NS b.com.", "x.com. 9 NS a.com."}, texts{"a.com. 9 A 1", "b.com. 9 A 2", "a.com. 9 A 3", "b.com. 9 A 4"}, "x.com.", []int{2, 4, 1, 3}},
		{texts{"x.com. 9 NS b.com.", "x.com. 9 NS a.com."}, texts{"a.com. 9 A 1", "b.com. 9 A 2", "a.com. 9 A 3", "b.com. 9 A 4", "b.com. 9 A 5"}, "x.com.", []int{2, 4, 5, 1}},
		{texts{"x.com. 9 NS a.com.", "x.com. 9 NS b.com.", "x.com. 9 NS c.com.", "x.com. 9 NS d.com.", "x.com. 9 NS e.com."}, texts{"e.com. 9 A 5", "d.com. 9 A 4", "c.com. 9 A 3", "b.com. 9 A 2", "a.com. 9 A 1"}, "x.com.", []int{1, 2, 3, 4}},
		{texts{"x.com. 9 NS a.com.", "x.com. 9 NS b.com.", "x.com. 9 NS c.com."}, texts{"b.com. 9 A 2"}, "x.com.", []int{2}},
		{texts{"x.com. 9 NS a.com.", "x.com. 8 NS a.com."}, texts{"a.com. 9 A 2", "a.com. 9 A 2"}, "x.com.", []int{2, 2, 2, 2}},
		{texts{"com. 9 SOA com. 1 2", "x.com. 9 TXT a", "x.com. 9 NS a.com.", "x.com. 9 PTR b.com."}, texts{"a.com. 9 TXT x", "a.com. 9 A 2", "b.com. 9 A 3"}, "x.com.", []int{2}},
	} {
		for _, auth := range []bool{false, true} {
			for _, answers := range []texts{nil, {"w.x.com. 9 TXT a"}, {"x.com. 9 A 1", "x.com. 9 CNAME com."}} {
				expectHeard(t, x, replied(x, 0, auth, answers, c.auths, c.more), sendTo(c.zone, c.servers...))
			}
		}
	}
	root := begun("w.x.com. A", 1)
	expectHeard(t, root, replied(root, 0, false, nil, texts{"com. 9 NS ns.org."}, texts{"ns.org. 9 A 7"}), sendTo("com.", 7))
	expectHeard(t, root, replied(root, 0, false, nil, texts{"com. 9 NS ."}, texts{". 9 A 7"}), sendTo("com.", 7))
}

// Servers of what is not below Zone, or not above the name, are as good as none.
func TestServersThatAreNotBelieved(t *testing.T) {
	x := halfway()
	more := texts{"ns.com. 9 A 7", "ns.org. 9 A 8"}
	strange := texts{"com. 9 NS ns.com.", ". 9 NS ns.com.", "org. 9 NS ns.com.", "org. 9 NS ns.org.", "y.com. 9 NS ns.com.", "a.w.x.com. 9 NS ns.com.", "xcom. 9 NS ns.com.", "x.org. 9 NS ns.com.", "w.x. 9 NS ns.com.", "m. 9 NS ns.com.", "w.x.com. 9 PTR ns.com.", "x.com. 9 CNAME ns.com.", "x.com. 9 TXT ns.com."}
	for i, text := range append(strange, "") {
		auths := texts{text}
		if text == "" {
			auths = strange[:12]
		}
		expectHeard(t, x, replied(x, 0, true, nil, auths, more), endBy(0))
		expectHeard(t, x, replied(x, 0, false, nil, auths, more), turnOn)
		if i < len(strange) {
			expectHeard(t, x, replied(x, 0, true, nil, texts{text, "x.com. 9 NS ns.com."}, more), sendTo("x.com.", 7))
			expectHeard(t, x, replied(x, 0, true, nil, texts{"x.com. 9 NS ns.com.", text}, more), sendTo("x.com.", 7))
		}
	}
	expectHeard(t, x, replied(x, 0, true, texts{"x.com. 9 NS ns.com."}, nil, more), endBy(0))
	expectHeard(t, x, replied(x, 0, false, texts{"x.com. 9 NS ns.com."}, nil, append(more, "x.com. 9 NS ns.com.")), turnOn)
	for _, at := range []string{"x.com.", "w.x.com."} {
		low := tasked(x, inZone(at))
		expectHeard(t, low, replied(low, 0, false, nil, texts{"com. 9 NS ns.w.x.com.", "x.com. 9 NS ns.w.x.com.", ". 9 NS ns.w.x.com."}, texts{"ns.w.x.com. 9 A 7"}), turnOn)
	}
}

func TestTheLongestZoneCounts(t *testing.T) {
	x := tasked(halfway(), ofName("a.w.x.com."))
	more := texts{"a.com. 9 A 1", "b.com. 9 A 2", "c.com. 9 A 3", "d.com. 9 A 4"}
	above, middle, low := "x.com. 9 NS a.com.", "w.x.com. 9 NS b.com.", "a.w.x.com. 9 NS c.com."
	expectHeard(t, x, replied(x, 0, false, nil, texts{above, middle}, more), sendTo("w.x.com.", 2))
	expectHeard(t, x, replied(x, 0, false, nil, texts{middle, above}, more), sendTo("w.x.com.", 2))
	expectHeard(t, x, replied(x, 0, false, nil, texts{above, low, middle}, more), sendTo("a.w.x.com.", 3))
	expectHeard(t, x, replied(x, 0, false, nil, texts{low, above, "a.w.x.com. 9 NS d.com.", middle}, more), sendTo("a.w.x.com.", 3, 4))
	expectHeard(t, x, replied(x, 0, false, nil, texts{"a.w.x.com. 9 NS d.com.", above, low}, more), sendTo("a.w.x.com.", 4, 3))
	expectHeard(t, x, replied(x, 0, false, nil, texts{above, middle, "b.w.x.com. 9 NS d.com.", "b.a.w.x.com. 9 NS d.com."}, more), sendTo("w.x.com.", 2))
	// Those of a shorter name don't help where the longest has no addresses.
	expectHeard(t, x, replied(x, 0, false, nil, texts{above, middle, low}, more[:2]), endBy(2))
	expectHeard(t, x, replied(x, 0, true, nil, texts{low, above}, more[:2]), endBy(2))
}

// Addresses of other names, or from outside of Zone, are as good as none; then it fails, whatever else was found.
func TestAddressesThatAreNotBelieved(t *testing.T) {
	x := halfway()
	for _, c := range []struct{ auths, more texts }{
		{texts{"x.com. 9 NS ns.com."}, nil},
		{texts{"x.com. 9 NS ns.com."}, texts{"a.com. 9 A 7"}},
		{texts{"x.com. 9 NS ns.com."}, texts{"com. 9 A 7", "x.com. 9 A 7", "w.x.com. 9 A 7", "a.ns.com. 9 A 7", "ns.x.com. 9 A 7"}},
		{texts{"x.com. 9 NS ns.com."}, texts{"ns.com. 9 TXT a", "ns.com. 9 CNAME a.com.", "a.com. 9 A 7", "ns.com. 9 NS a.com."}},
		{texts{"x.com. 9 NS ns.org."}, texts{"ns.org. 9 A 66"}},
		{texts{"x.com. 9 NS xcom."}, texts{"xcom. 9 A 66"}},
		{texts{"x.com. 9 NS ."}, texts{". 9 A 66"}},
		{texts{"x.com. 9 NS ns.org.", "x.com. 9 NS a.org."}, texts{"ns.org. 9 A 66", "a.org. 9 A 66", "ns.com. 9 A 7"}},
		{texts{"x.com. 9 NS ns.com.", "com. 9 NS a.com."}, texts{"a.com. 9 A 7"}},
		{texts{"x.com. 9 NS ns.com.", "ns.com. 9 A 7"}, nil},
	} {
		for _, auth := range []bool{false, true} {
			expectHeard(t, x, replied(x, 0, auth, nil, c.auths, c.more), endBy(2))
			expectHeard(t, x, replied(x, 0, auth, texts{"ns.com. 9 A 7"}, c.auths, c.more), endBy(2))
			expectHeard(t, x, replied(x, 0, auth, nil, append(c.auths, "x.com. 9 NS good.com."), append(c.more, "good.com. 9 A 5")), sendTo("x.com.", 5))
		}
	}
	low := tasked(x, inZone("x.com."))
	expectHeard(t, low, replied(low, 0, false, nil, texts{"w.x.com. 9 NS ns.com."}, texts{"ns.com. 9 A 66"}), endBy(2))
	expectHeard(t, low, replied(low, 0, false, nil, texts{"w.x.com. 9 NS ns.x.com."}, texts{"ns.com. 9 A 66", "ns.x.com. 9 A 7"}), sendTo("w.x.com.", 7))
}

// What doesn't lie in Zone, or is of another name, is as good as nothing, by itself and beside what is believed.
func TestAnswersThatAreNotBelieved(t *testing.T) {
	x := halfway()
	strange := texts{"w.org. 9 A 66", "w.x.org. 9 A 66", ". 9 A 66", "xcom. 9 A 66", "com. 9 A 66", "x.com. 9 A 66", "a.w.x.com. 9 A 66", "w.com. 9 A 66", "old.org. 9 A 66", "w.x. 9 A 66", "org. 9 CNAME y.com.", "old.org. 9 CNAME y.com.", "x.com. 9 CNAME y.com."}
	good := "w.x.com. 9 A 1"
	for _, text := range strange {
		expectHeard(t, x, replied(x, 0, true, texts{text}, nil, nil), endBy(0))
		expectHeard(t, x, replied(x, 0, false, texts{text}, nil, nil), turnOn)
		expectHeard(t, x, replied(x, 3, true, texts{text}, nil, nil), endBy(3))
		expectHeard(t, x, replied(x, 0, true, texts{text, good}, nil, nil), learn(good), endBy(0))
		expectHeard(t, x, replied(x, 0, true, texts{good, text}, nil, nil), learn(good), endBy(0))
		expectHeard(t, x, replied(x, 0, false, texts{text}, texts{"x.com. 9 NS ns.com."}, texts{"ns.com. 9 A 7"}), sendTo("x.com.", 7))
	}
	expectHeard(t, x, replied(x, 0, false, strange[:11], nil, nil), turnOn)
	expectHeard(t, x, replied(x, 0, false, append(slices.Clone(strange[:11]), good), nil, nil), learn(good), endBy(0))
	expectHeard(t, x, replied(x, 0, true, nil, texts{good}, nil), endBy(0))
	expectHeard(t, x, replied(x, 0, false, nil, nil, texts{good}), turnOn)
	// Beside the name, but above Zone: what is told of where the alias leads is not believed.
	first := "w.x.com. 9 CNAME y.x.com."
	low := tasked(x, inZone("w.x.com."))
	expectHeard(t, low, replied(low, 0, true, texts{first, "y.x.com. 9 A 66"}, nil, nil), alias(first), startOver)
}

// The answer by which Sends come to be MaxSends is not looked at.
func TestTheLastSend(t *testing.T) {
	for _, steps := range []int{0, 5} {
		x := tasked(halfway(), sentTimes(11), steppedTimes(steps))
		for _, code := range []int{0, 3, 5} {
			expectHeard(t, x, replied(x, code, true, texts{"w.x.com. 9 A 1"}, nil, nil), endBy(2))
			expectHeard(t, x, replied(x, code, true, texts{"w.x.com. 9 CNAME y.org."}, nil, nil), endBy(2))
			expectHeard(t, x, replied(x, code, true, texts{"w.x.com. 9 CNAME y.com."}, nil, nil), endBy(2))
			expectHeard(t, x, replied(x, code, false, nil, texts{"x.com. 9 NS ns.com."}, texts{"ns.com. 9 A 7"}), endBy(2))
			expectHeard(t, x, replied(x, code, true, nil, nil, nil), endBy(2))
		}
	}
	x := tasked(halfway(), sentTimes(10))
	expectHeard(t, x, replied(x, 0, true, texts{"w.x.com. 9 A 1"}, nil, nil), learn("w.x.com. 9 A 1"), endBy(0))
	expectHeard(t, x, replied(x, 0, false, nil, nil, nil), turnOn)
	expectHeard(t, x, replied(x, 0, false, nil, texts{"x.com. 9 NS ns.com."}, texts{"ns.com. 9 A 7"}), sendTo("x.com.", 7))
}

// The step by which Steps come to be MaxSteps ends it; what happens ahead of the step has happened.
func TestTheLastStep(t *testing.T) {
	x := tasked(halfway(), steppedTimes(5))
	in, out := "w.x.com. 9 CNAME y.com.", "w.x.com. 9 CNAME y.org."
	next := "y.com. 9 CNAME z.com."
	set, more := "y.com. 9 A 1", texts{"ns.com. 9 A 7"}
	for _, code := range []int{0, 3} {
		expectHeard(t, x, replied(x, code, true, texts{in}, nil, nil), alias(in), endBy(2))
		expectHeard(t, x, replied(x, code, true, texts{in, set}, nil, nil), alias(in), endBy(2))
		expectHeard(t, x, replied(x, code, true, texts{in, next}, nil, nil), alias(in), endBy(2))
		expectHeard(t, x, replied(x, code, true, texts{out}, nil, nil), alias(out), startOver, endBy(2))
	}
	expectHeard(t, x, replied(x, 0, false, nil, texts{"x.com. 9 NS ns.com."}, more), sendTo("x.com.", 7), endBy(2))
	expectHeard(t, x, replied(x, 0, true, texts{"w.x.com. 9 A 1"}, nil, nil), learn("w.x.com. 9 A 1"), endBy(0))
	x = tasked(halfway(), steppedTimes(4))
	expectHeard(t, x, replied(x, 0, true, texts{in, set}, nil, nil), alias(in), learn(set), endBy(0))
	expectHeard(t, x, replied(x, 0, true, texts{in}, nil, nil), alias(in))
	expectHeard(t, x, replied(x, 3, true, texts{in}, nil, nil), alias(in), endBy(3))
	expectHeard(t, x, replied(x, 3, true, texts{in, next}, nil, nil), alias(in), alias(next), endBy(2))
	expectHeard(t, x, replied(x, 0, true, texts{in, next, "z.com. 9 A 1"}, nil, nil), alias(in), alias(next), endBy(2))
	expectHeard(t, x, replied(x, 0, true, texts{out}, nil, nil), alias(out), startOver)
	expectHeard(t, x, replied(x, 0, false, nil, texts{"x.com. 9 NS ns.com."}, more), sendTo("x.com.", 7))
	round := texts{in, "y.com. 9 CNAME w.x.com."}
	for steps := range 6 {
		x := tasked(halfway(), steppedTimes(steps))
		turns := []taskTurn{}
		for i := range 6 - steps {
			turns = append(turns, alias(round[i%2]))
		}
		expectHeard(t, x, replied(x, 0, true, round, nil, nil), append(turns, endBy(2))...)
	}
}

// Answers that come to be more than MaxList are none, and it fails; what happens to the task beside them has happened.
func TestAsManyAnswersAsMayBe(t *testing.T) {
	set := func(n int) texts { return severalTexts(n, "w.x.com. 9 A %d") }
	for have := range 13 {
		x := tasked(halfway(), knowing(have))
		for n := 1; n < 13; n++ {
			if have+n <= 12 {
				expectHeard(t, x, replied(x, 0, true, set(n), nil, nil), learn(set(n)...), endBy(0))
			} else {
				expectHeard(t, x, replied(x, 0, true, set(n), nil, nil), endBy(2))
			}
		}
	}
	in, out := "w.x.com. 9 CNAME y.com.", "w.x.com. 9 CNAME y.org."
	x := tasked(halfway(), knowing(11))
	expectHeard(t, x, replied(x, 0, true, texts{in}, nil, nil), alias(in))
	expectHeard(t, x, replied(x, 3, true, texts{in}, nil, nil), alias(in), endBy(3))
	expectHeard(t, x, replied(x, 0, true, texts{out}, nil, nil), alias(out), startOver)
	expectHeard(t, x, replied(x, 0, true, texts{in, "y.com. 9 A 1"}, nil, nil), alias(in), endBy(2))
	x = tasked(halfway(), knowing(12))
	expectHeard(t, x, replied(x, 0, true, texts{in}, nil, nil), alias(in), endBy(2))
	expectHeard(t, x, replied(x, 3, true, texts{in}, nil, nil), alias(in), endBy(2))
	expectHeard(t, x, replied(x, 0, true, texts{out}, nil, nil), alias(out), startOver, endBy(2))
	expectHeard(t, x, replied(x, 0, true, texts{in, "y.com. 9 A 1"}, nil, nil), alias(in), endBy(2))
	expectHeard(t, x, replied(x, 0, false, nil, texts{"x.com. 9 NS ns.com."}, texts{"ns.com. 9 A 7"}), sendTo("x.com.", 7))
}

// strays are messages that answer nothing that a task asks, each by itself, with whom they come from.
func strays(x impl.Task, m impl.Msg) map[string]impl.Msg {
	out := map[string]impl.Msg{
		"no reply": turned(m, func(m *impl.Msg) { m.Reply = false }), "what was asked": askedBy(x),
	}
	for _, id := range []int{0, 299, 301, 7, 44, 300 + 256, 65535} {
		if id != x.Id {
			out[fmt.Sprint("id ", id)] = turned(m, func(m *impl.Msg) { m.Id = id })
		}
	}
	for _, name := range []string{".", "com.", "x.com.", "a.w.x.com.", "w.com.", "w.x.org.", "old.org.", "x.w.com.", "ww.x.com."} {
		out["name "+name] = turned(m, func(m *impl.Msg) { m.Qs = []impl.Question{{Name: named(name), Type: x.First.Type}} })
	}
	for _, ty := range append(typeNumbers(), 255) {
		if ty != x.First.Type {
			out[fmt.Sprint("type ", ty)] = turned(m, func(m *impl.Msg) { m.Qs = []impl.Question{{Name: x.Name, Type: ty}} })
		}
	}
	return out
}

func TestWhatIsNoAnswerChangesNothing(t *testing.T) {
	for _, x := range []impl.Task{halfway(), tasked(halfway(), sentTimes(11)), tasked(halfway(), knowing(12)), tasked(halfway(), ofType("SOA")), tasked(halfway(), onTurn(2))} {
		for _, m := range []impl.Msg{replied(x, 0, true, texts{"w.x.com. 9 A 1"}, nil, nil), replied(x, 3, true, nil, nil, nil), replied(x, 5, false, nil, nil, nil), replied(x, 0, false, nil, texts{"x.com. 9 NS ns.com."}, texts{"ns.com. 9 A 7"})} {
			for _, from := range []int{2, 5, 6, 1, 9, 0, 7, -1, 1 << 32, 1<<32 + 5, math.MaxInt, math.MinInt} {
				if from != whom(x) {
					expectKept(t, x, from, m)
				}
			}
			for why, stray := range strays(x, m) {
				if !impl.MsgOk(stray) {
					t.Fatal(why)
				}
				expectKept(t, x, whom(x), stray)
				expectKept(t, x, 1, stray)
			}
			for code := range 11 {
				expectKept(t, tasked(x, endBy(code)), whom(x), m)
			}
		}
	}
	x := tasked(halfway(), ofType("SOA"))
	up := turned(update(x.Name), func(m *impl.Msg) { m.Id, m.Reply = x.Id, true })
	expectKept(t, x, whom(x), up)
	up.Ups = wishes("+ w.x.com. 9 SOA a. 1 2")
	expectKept(t, x, whom(x), up)
	for why, x := range goodTasks() {
		if _, ok := impl.Heard(x, whom(x), replied(x, 0, true, nil, nil, nil)); ok != (x.State == 0) {
			t.Fatal(why, ok)
		}
	}
}

// That a message may not be counts ahead of whether it is an answer.
func TestHeardOfMessagesThatMayNotBe(t *testing.T) {
	for _, x := range []impl.Task{halfway(), tasked(halfway(), endBy(0)), tasked(halfway(), sentTimes(11))} {
		for _, m := range badMsgs() {
			for _, from := range []int{5, 2} {
				got, ok := impl.Heard(x, from, m)
				expectNoTask(t, "Heard "+toldMsg(m), got, ok)
			}
		}
		for i, m := range badHeads(replied(x, 0, true, texts{"w.x.com. 9 A 1"}, nil, nil)) {
			got, ok := impl.Heard(x, 5, m)
			expectNoTask(t, fmt.Sprint("Heard of head ", i), got, ok)
		}
		long := replied(x, 0, true, texts{"w.x.com. 9 A 1"}, nil, nil)
		long.More = filling(600)
		got, ok := impl.Heard(x, 5, long)
		expectNoTask(t, "Heard of too many bytes", got, ok)
	}
}

func expectLost(t *testing.T, x, want impl.Task) impl.Task {
	t.Helper()
	got, ok := impl.Lost(x)
	again, second := lostIn(x)
	if !ok || !second || toldTask(got) != toldTask(want) || toldTask(again) != toldTask(want) || !impl.TaskOk(got) {
		t.Fatalf("Lost(%s) = %s, %v, the second %s, want %s", toldTask(x), toldTask(got), ok, toldTask(again), toldTask(want))
	}
	return got
}

func TestLost(t *testing.T) {
	expectLost(t, halfway(), tasked(halfway(), sendOne, onTurn(2)))
	expectLost(t, tasked(halfway(), onTurn(2)), tasked(halfway(), sendOne, onTurn(0)))
	expectLost(t, begun("w.com. A", 1), tasked(begun("w.com. A", 1), sendOne))
	expectLost(t, tasked(halfway(), sentTimes(10)), tasked(halfway(), sentTimes(11), onTurn(2)))
	expectLost(t, tasked(halfway(), sentTimes(11)), tasked(halfway(), sentTimes(12), onTurn(2), endBy(2)))
	expectLost(t, tasked(halfway(), sentTimes(11), onTurn(2), knowing(12)), tasked(halfway(), sentTimes(12), onTurn(0), endBy(2)))
	for why, x := range goodTasks() {
		if x.State == 1 {
			got, ok := impl.Lost(x)
			expectNoTask(t, why+": Lost", got, ok)
		} else {
			want, _ := lostIn(x)
			expectLost(t, x, want)
		}
	}
}

// A task of which nobody hears ends with RcFail, behind MaxSends; its servers have their turns.
func TestATaskOfWhichNobodyHears(t *testing.T) {
	for why, x := range goodTasks() {
		start := x
		for i := 1; x.State == 0; i++ {
			got, ok := impl.Lost(x)
			if !ok || got.Sends != start.Sends+i || got.Turn != (start.Turn+i)%len(start.Servers) || got.Steps != start.Steps || !impl.TaskOk(got) {
				t.Fatalf("%s: %s", why, toldTask(got))
			}
			x = got
		}
		if start.State == 0 && (x.Sends != 12 || x.Code != 2 || len(x.Answers) != 0) {
			t.Fatalf("%s: %s", why, toldTask(x))
		}
	}
}

// world is a list of zones, each with its address.
type world struct {
	zones []impl.Zone
	at    []int
}

func worldOf(at []int, zones ...impl.Zone) world {
	return world{zones, at}
}

// greatWorld has as many zones as there may be; it hands names down, sends aliases up, down, out and round, and has servers that are not there.
func greatWorld() world {
	root := zone(".", ". 60 SOA . 1 60", ". 60 NS ns.", "ns. 60 A 1", "com. 60 NS ns.com.", "ns.com. 60 A 2", "org. 60 NS ns.org.", "org. 60 NS ns2.org.", "ns.org. 60 A 9", "ns2.org. 60 A 4", "net. 60 NS ns.net.", "ns.net. 60 A 9", "bare. 60 NS ns.bare.", "odd. 60 NS ns.com.", "a. 60 CNAME y.com.")
	com := zone("com.", "com. 60 SOA com. 1 60", "com. 60 NS ns.com.", "ns.com. 60 A 2", "y.com. 60 A 20", "w.com. 60 CNAME y.com.", "v.com. 60 CNAME w.com.", "x.com. 60 NS ns.x.com.", "x.com. 60 NS ns.com.", "ns.x.com. 60 A 3", "a.x.com. 60 A 66",
		"far.com. 60 CNAME a.org.", "in.com. 60 CNAME a.x.com.", "p.com. 60 CNAME q.com.", "q.com. 60 CNAME p.com.", "off.com. 60 CNAME no.com.", "dry.com. 60 CNAME ns.x.com.", "b.z.com. 60 TXT t")
	low := zone("x.com.", "x.com. 60 SOA x.com. 1 60", "a.x.com. 60 A 30", "a.x.com. 60 A 31", "a.x.com. 60 TXT t", "up.x.com. 60 CNAME y.com.", "e.x.com. 60 CNAME e.org.", "back.x.com. 60 NS ns.back.x.com.", "ns.back.x.com. 60 A 2")
	org := zone("org.", "org. 60 SOA org. 1 60", "a.org. 60 A 40", "to.org. 60 CNAME up.x.com.", "e.org. 60 CNAME e.x.com.", "f.org. 60 CNAME a.x.com.")
	more := zone("b.org.", "b.org. 60 SOA b.org. 1 60", "a.b.org. 60 A 50", "b.org. 60 A 51")
	return worldOf([]int{1, 2, 3, 4, 4}, root, com, low, org, more)
}

func (w world) resolve(hints []int, q impl.Question, lost ...bool) (impl.Task, bool) {
	return impl.Resolve(w.zones, w.at, hints, q, lost)
}

// has tells whether a record is one of the world.
func (w world) has(r impl.Rr) bool {
	return slices.ContainsFunc(w.zones, func(z impl.Zone) bool {
		return slices.ContainsFunc(z.Rrs, func(x impl.Rr) bool { return toldRr(x) == toldRr(r) })
	})
}

// checkResolve goes the way by itself, step by step, and holds Resolve to its end, to the second one, and to promises 9 and 10.
func (w world) checkResolve(t *testing.T, hints []int, q impl.Question, lost ...bool) impl.Task {
	t.Helper()
	x, ok := impl.Begin(q, hints, 7)
	call := fmt.Sprintf("Resolve %s at %v, %v, lost %v", toldQuestion(q), hints, w.at, lost)
	times := 0
	for ; ok && x.State == 0; times++ {
		ip, m, _ := impl.AskOf(x)
		r, there := impl.ServerOf(w.zones, w.at, ip, m)
		next, fine := impl.Lost(x)
		if there && (times >= len(lost) || !lost[times]) {
			next, fine = impl.Heard(x, ip, r)
			checkHeard(t, x, r, next)
		}
		if !fine || !impl.TaskOk(next) || next.Sends != times+1 || times > 11 {
			t.Fatalf("%s comes to %s", call, toldTask(next))
		}
		x = next
	}
	got, is := w.resolve(hints, q, lost...)
	want, second := resolvedIn(w.zones, w.at, hints, q, lost)
	if toldTask(got) != toldTask(x) || toldTask(got) != toldTask(want) || is != ok || is != second {
		t.Fatalf("%s = %s, %v\nby steps %s, %v\nthe second %s, %v", call, toldTask(got), is, toldTask(x), ok, toldTask(want), second)
	}
	if is && (!impl.TaskOk(got) || got.State != 1 || got.Sends != times || got.Sends > 12 || got.Id != 7 || toldQuestion(got.First) != toldQuestion(q)) {
		t.Fatalf("%s = %s behind %d times", call, toldTask(got), times)
	}
	for _, r := range got.Answers {
		if !w.has(r) {
			t.Fatalf("%s tells %s", call, toldRr(r))
		}
	}
	return got
}

func TestResolve(t *testing.T) {
	fail, ok, none := impl.RcFail, impl.RcOk, impl.RcName
	for _, c := range []struct {
		text               string
		code, sends, steps int
		zone               string
		answers            texts
	}{
		{". SOA", ok, 1, 0, ".", texts{". 60 SOA . 1 60"}},
		{". TXT", ok, 1, 0, ".", nil},
		{"nothing. A", none, 1, 0, ".", nil},
		{"a. A", ok, 3, 2, "com.", texts{"a. 60 CNAME y.com.", "y.com. 60 A 20"}},
		{"a. CNAME", ok, 1, 0, ".", texts{"a. 60 CNAME y.com."}},
		{"com. NS", ok, 2, 1, "com.", texts{"com. 60 NS ns.com."}},
		{"y.com. A", ok, 2, 1, "com.", texts{"y.com. 60 A 20"}},
		{"y.com. TXT", ok, 2, 1, "com.", nil},
		{"z.com. A", ok, 2, 1, "com.", nil},
		{"no.com. A", none, 2, 1, "com.", nil},
		{"w.com. A", ok, 2, 2, "com.", texts{"w.com. 60 CNAME y.com.", "y.com. 60 A 20"}},
		{"v.com. A", ok, 2, 3, "com.", texts{"v.com. 60 CNAME w.com.", "w.com. 60 CNAME y.com.", "y.com. 60 A 20"}},
		{"off.com. A", none, 2, 2, "com.", texts{"off.com. 60 CNAME no.com."}},
		{"p.com. A", fail, 2, 6, "com.", nil},
		{"far.com. A", ok, 5, 3, "org.", texts{"far.com. 60 CNAME a.org.", "a.org. 60 A 40"}},
		{"in.com. A", ok, 4, 3, "x.com.", texts{"in.com. 60 CNAME a.x.com.", "a.x.com. 60 A 30", "a.x.com. 60 A 31"}},
		{"dry.com. A", none, 4, 3, "x.com.", texts{"dry.com. 60 CNAME ns.x.com."}},
		{"a.x.com. A", ok, 3, 2, "x.com.", texts{"a.x.com. 60 A 30", "a.x.com. 60 A 31"}},
		{"a.x.com. TXT", ok, 3, 2, "x.com.", texts{"a.x.com. 60 TXT t"}},
		{"x.com. SOA", ok, 3, 2, "x.com.", texts{"x.com. 60 SOA x.com. 1 60"}},
		{"x.com. NS", ok, 3, 2, "x.com.", nil},
		{"ns.x.com. A", none, 3, 2, "x.com.", nil},
		{"up.x.com. A", ok, 5, 4, "com.", texts{"up.x.com. 60 CNAME y.com.", "y.com. 60 A 20"}},
		{"a.org. A", ok, 3, 1, "org.", texts{"a.org. 60 A 40"}},
		{"a.b.org. A", ok, 3, 1, "org.", texts{"a.b.org. 60 A 50"}},
		{"b.org. A", ok, 3, 1, "org.", texts{"b.org. 60 A 51"}},
		{"no.org. A", none, 3, 1, "org.", nil},
		{"net. A", fail, 12, 1, "net.", nil},
		{"bare. A", fail, 1, 0, ".", nil},
		{"odd. A", fail, 12, 1, "odd.", nil},
	} {
		w := greatWorld()
		got := w.checkResolve(t, []int{1}, questionOf(c.text))
		if got.Code != c.code || got.Sends != c.sends || got.Steps != c.steps || told(got.Zone) != told(named(c.zone)) || toldRrs(got.Answers) != toldRrs(recs(c.answers...)) {
			t.Errorf("Resolve %s = %s", c.text, toldTask(got))
		}
	}
}

// Ways that are too long, or that lead round, end with RcFail.
func TestResolveRoundAndRound(t *testing.T) {
	w := greatWorld()
	for _, text := range []string{"to.org. A", "e.org. A", "e.x.com. A"} {
		got := w.checkResolve(t, []int{1}, questionOf(text))
		if got.Code != 2 || got.Sends != 7 || len(got.Answers) != 0 || got.Steps != 6 {
			t.Errorf("Resolve %s = %s", text, toldTask(got))
		}
	}
	// Two servers that hand a name to each other hand it no further down, so they are asked until there are no more sends.
	one := zone("com.", "com. 60 SOA com. 1 60", "x.com. 60 NS ns.com.", "ns.com. 60 A 2")
	two := zone("com.", "com. 60 SOA com. 1 60", "x.com. 60 NS ns.com.", "ns.com. 60 A 1")
	got := worldOf([]int{1, 2}, one, two).checkResolve(t, []int{1, 2}, questionOf("a.x.com. A"))
	if got.Code != 2 || got.Sends != 12 || got.Steps != 1 || len(got.Servers) != 1 || got.Servers[0] != 2 {
		t.Error(toldTask(got))
	}
	// A way further down at each send is too long by its steps.
	var zones []impl.Zone
	var at []int
	origin := "."
	for i := range 5 {
		low := []string{"a.", "b.a.", "c.b.a.", "d.c.b.a.", "e.d.c.b.a."}[i]
		zones = append(zones, zone(origin, origin+" 60 SOA . 1 60", low+" 60 NS "+low, low+fmt.Sprintf(" 60 A %d", i+2)))
		at = append(at, i+1)
		origin = low
	}
	got = worldOf(at, zones...).checkResolve(t, []int{1}, questionOf("f.e.d.c.b.a. A"))
	if got.Code != 2 || got.Sends != 12 || got.Steps != 5 || told(got.Zone) != told(named("e.d.c.b.a.")) {
		t.Error(toldTask(got))
	}
	got = worldOf(at, zones...).checkResolve(t, []int{1}, questionOf("f.d.c.b.a. A"))
	if got.Code != 3 || got.Sends != 5 || got.Steps != 4 {
		t.Error(toldTask(got))
	}
}

func flags(n int, lost ...int) []bool {
	out := make([]bool, n)
	for _, i := range lost {
		out[i] = true
	}
	return out
}

func allLost(n int) []bool {
	return slices.Repeat([]bool{true}, n)
}

func TestResolveWithLosses(t *testing.T) {
	w := greatWorld()
	for _, c := range []struct {
		hints       []int
		text        string
		lost        []bool
		code, sends int
	}{
		{[]int{1}, "y.com. A", nil, 0, 2},
		{[]int{1}, "y.com. A", flags(24), 0, 2},
		{[]int{1}, "y.com. A", flags(1, 0), 0, 3},
		{[]int{1}, "y.com. A", flags(2, 1), 0, 3},
		{[]int{1}, "y.com. A", flags(4, 0, 1, 3), 0, 5},
		{[]int{1}, "y.com. A", flags(24, 2, 3, 4, 5, 23), 0, 2},
		{[]int{1}, "y.com. A", allLost(9), 0, 11},
		{[]int{1}, "y.com. A", allLost(10), 2, 12},
		{[]int{1}, "y.com. A", allLost(11), 2, 12},
		{[]int{1}, "y.com. A", allLost(12), 2, 12},
		{[]int{1}, "y.com. A", allLost(24), 2, 12},
		{[]int{1}, ". SOA", allLost(10), 0, 11},
		{[]int{1}, ". SOA", allLost(11), 2, 12},
		{[]int{9}, "y.com. A", nil, 2, 12},
		{[]int{9, 1}, "y.com. A", nil, 0, 3},
		{[]int{9, 8, 7, 1}, "y.com. A", nil, 0, 5},
		{[]int{1, 9}, "y.com. A", flags(1, 0), 0, 4},
		{[]int{3, 1}, "y.com. A", nil, 0, 3},
		{[]int{3, 1}, "y.com. A", flags(2, 1), 0, 5},
		{[]int{2}, "y.com. A", nil, 0, 1},
		{[]int{4}, "y.com. A", nil, 2, 12},
		{[]int{1}, "a.org. A", flags(3, 1), 0, 3},
		{[]int{1}, "a.org. A", flags(3, 2), 0, 5},
	} {
		got := w.checkResolve(t, c.hints, questionOf(c.text), c.lost...)
		if got.Code != c.code || got.Sends != c.sends {
			t.Errorf("Resolve %s at %v, lost %v = %s", c.text, c.hints, c.lost, toldTask(got))
		}
	}
}

// Whichever of the first nine times are lost, it ends, and finds what there is wherever there are sends enough.
func TestResolveWithEveryLoss(t *testing.T) {
	w := greatWorld()
	needs := map[string]int{"y.com. A": 2, "a.x.com. A": 3, "far.com. A": 0, "p.com. A": 0, "no.com. A": 0}
	for text, need := range needs {
		whole := w.checkResolve(t, []int{1}, questionOf(text))
		for pattern := range 1 << 9 {
			lost := make([]bool, 9)
			count := 0
			for i := range lost {
				lost[i] = pattern>>i&1 == 1
				if lost[i] {
					count++
				}
			}
			got := w.checkResolve(t, []int{1}, questionOf(text), lost...)
			if need > 0 && count+need <= 11 && toldRrs(got.Answers) != toldRrs(whole.Answers) {
				t.Fatalf("Resolve %s, lost %v = %s", text, lost, toldTask(got))
			}
		}
	}
}

// wrongWorlds are none, each in one way.
func wrongWorlds() map[string]world {
	good := greatWorld()
	six := append(slices.Clone(good.zones), house())
	out := map[string]world{
		"six zones": worldOf([]int{1, 2, 3, 4, 4, 6}, six...), "six zones and five addresses": worldOf(good.at, six...), "fewer addresses": worldOf(good.at[:4], good.zones...), "no addresses": worldOf(nil, good.zones...), "one zone without": worldOf(nil, rootZone()),
		"more addresses": worldOf(append(slices.Clone(good.at), 6), good.zones...), "addresses alone": worldOf([]int{1}), "hidden zones": worldOf([]int{1, 2}, good.zones[:1]...), "many": worldOf(make([]int, 500), slices.Repeat(six[:1], 500)...),
	}
	for _, ip := range greatInts() {
		for i := range good.at {
			at := slices.Clone(good.at)
			at[i] = ip
			out[fmt.Sprint("address ", ip, " of ", i)] = worldOf(at, good.zones...)
		}
		out[fmt.Sprint("the one address ", ip)] = worldOf([]int{ip}, rootZone())
	}
	for i, z := range append(wrongZones(), zonesOfBadRecords()[:40]...) {
		zones := slices.Clone(good.zones)
		zones[i%5] = z
		out[fmt.Sprint("wrong zone ", i)] = worldOf(good.at, zones...)
		out[fmt.Sprint("the one wrong zone ", i)] = worldOf([]int{1}, z)
	}
	return out
}

func TestWrongWorldsAreNotTaken(t *testing.T) {
	m := query(named("y.com."), 1)
	for why, w := range wrongWorlds() {
		for _, ip := range []int{1, 2, 6, 77, -1, 1 << 32} {
			for _, m := range []impl.Msg{m, {}} {
				if got, ok := impl.ServerOf(w.zones, w.at, ip, m); ok || !isZeroMsg(got) {
					t.Fatalf("%s: ServerOf = %s, %v", why, toldMsg(got), ok)
				}
			}
		}
		for _, hints := range [][]int{{1}, {2}, {77}} {
			got, ok := w.resolve(hints, questionOf("y.com. A"))
			expectNoTask(t, why+": Resolve", got, ok)
		}
	}
}

// There may be no zones at all: then nobody is there.
func TestAnEmptyWorld(t *testing.T) {
	var w world
	for _, ip := range []int{0, 1, -1} {
		if got, ok := impl.ServerOf(nil, nil, ip, query(named("y.com."), 1)); ok || !isZeroMsg(got) {
			t.Fatal(toldMsg(got))
		}
	}
	for _, lost := range [][]bool{nil, flags(24), allLost(24)} {
		got := w.checkResolve(t, []int{1, 2}, questionOf("y.com. A"), lost...)
		if got.Code != 2 || got.Sends != 12 || got.Turn != 0 || got.Steps != 0 {
			t.Fatal(toldTask(got))
		}
	}
}

func expectServed(t *testing.T, w world, ip int, m, want impl.Msg) {
	t.Helper()
	got, ok := impl.ServerOf(w.zones, w.at, ip, m)
	again, second := servedIn(w.zones, w.at, ip, m)
	if !ok || !second || toldMsg(got) != toldMsg(want) || toldMsg(again) != toldMsg(want) || !impl.MsgOk(got) {
		t.Fatalf("ServerOf %d, %s = %s, %v, the second %s, want %s", ip, toldMsg(m), toldMsg(got), ok, toldMsg(again), toldMsg(want))
	}
}

func TestServerOf(t *testing.T) {
	w := greatWorld()
	for _, c := range []struct {
		ip   int
		text string
		want int
	}{
		{1, "y.com. A", 0}, {1, ". SOA", 0}, {1, "no. A", 0}, {2, "y.com. A", 1}, {2, "com. SOA", 1}, {2, "a.x.com. A", 1}, {2, "a.org. A", -1}, {2, ". SOA", -1}, {2, "xcom. A", -1},
		{3, "a.x.com. A", 2}, {3, "x.com. ANY", 2}, {3, "y.com. A", -1}, {4, "a.org. A", 3}, {4, "b.org. A", 4}, {4, "a.b.org. A", 4}, {4, "ab.org. A", 3}, {4, "org. A", 3}, {4, "b.com. A", -1},
	} {
		n, ty := asked(c.text)
		for _, id := range []int{0, 9, 65535} {
			m := turned(query(n, ty), func(m *impl.Msg) { m.Id = id })
			want := reply(m, 5, false, nil, nil, nil)
			if c.want >= 0 {
				want = answered(w.zones[c.want], m)
			}
			expectServed(t, w, c.ip, m, want)
		}
	}
	m := query(named("y.com."), 1)
	for _, ip := range []int{0, 5, 6, -1, 1<<32 - 1, 1 << 32, 1<<32 + 1, math.MaxInt, math.MinInt} {
		if got, ok := impl.ServerOf(w.zones, w.at, ip, m); ok || !isZeroMsg(got) {
			t.Errorf("ServerOf %d = %s, %v", ip, toldMsg(got), ok)
		}
	}
	for _, m := range noQueries() {
		for _, ip := range []int{1, 2, 9} {
			if got, ok := impl.ServerOf(w.zones, w.at, ip, m); ok || !isZeroMsg(got) {
				t.Fatalf("ServerOf %d, %s = %s, %v", ip, toldMsg(m), toldMsg(got), ok)
			}
		}
	}
	edge := worldOf([]int{0, 1<<32 - 1}, w.zones[:2]...)
	expectServed(t, edge, 0, m, answered(w.zones[0], m))
	expectServed(t, edge, 1<<32-1, m, answered(w.zones[1], m))
}

// Of several zones at one address the longest counts that has the name, of those of one Origin the first, in whatever order they stand.
func TestServersOfSeveralZones(t *testing.T) {
	first := zone("com.", "com. 60 SOA com. 1 60", "a.com. 60 A 1")
	second := zone("com.", "com. 60 SOA com. 2 60", "a.com. 60 A 2", "b.com. 60 A 2")
	low := zone("x.com.", "x.com. 60 SOA com. 1 60", "a.x.com. 60 A 3")
	side := zone("y.x.org.", "y.x.org. 60 SOA com. 1 60", "a.y.x.org. 60 A 4")
	a, b, c, d := query(named("a.com."), 1), query(named("b.com."), 1), query(named("a.x.com."), 1), query(named("a.y.x.org."), 1)
	for _, zones := range [][]impl.Zone{{first, second, low, side, rootZone()}, {rootZone(), side, low, first, second}, {side, first, low, rootZone(), second}, {low, first, side, second, rootZone()}} {
		w := worldOf([]int{7, 7, 7, 7, 7}, zones...)
		expectServed(t, w, 7, a, reply(a, 0, true, texts{"a.com. 60 A 1"}, nil, nil))
		expectServed(t, w, 7, b, reply(b, 3, true, nil, texts{"com. 60 SOA com. 1 60"}, nil))
		expectServed(t, w, 7, c, reply(c, 0, true, texts{"a.x.com. 60 A 3"}, nil, nil))
		expectServed(t, w, 7, d, reply(d, 0, true, texts{"a.y.x.org. 60 A 4"}, nil, nil))
		expectServed(t, w, 7, query(named("x.org."), 1), answered(rootZone(), query(named("x.org."), 1)))
	}
	other := worldOf([]int{6, 7, 6, 6, 7}, first, second, low, side, rootZone())
	expectServed(t, other, 7, a, reply(a, 0, true, texts{"a.com. 60 A 2"}, nil, nil))
	expectServed(t, other, 6, a, reply(a, 0, true, texts{"a.com. 60 A 1"}, nil, nil))
	expectServed(t, other, 7, c, reply(c, 3, true, nil, texts{"com. 60 SOA com. 2 60"}, nil))
	expectServed(t, other, 6, query(named("."), 1), reply(query(named("."), 1), 5, false, nil, nil, nil))
}

func TestResolveOfWhatMayNotBe(t *testing.T) {
	w := greatWorld()
	q := questionOf("y.com. A")
	refuse := func(hints []int, q impl.Question, lost []bool) {
		t.Helper()
		got, ok := w.resolve(hints, q, lost...)
		expectNoTask(t, fmt.Sprint("Resolve ", hints, toldQuestion(q), len(lost)), got, ok)
	}
	for _, n := range []int{25, 26, 500} {
		refuse([]int{1}, q, flags(n))
		refuse([]int{1}, q, allLost(n))
	}
	for _, hints := range [][]int{nil, {}, {1, 2, 3, 4, 5}, {-1}, {1, 1 << 32}, make([]int, 500)} {
		refuse(hints, q, nil)
		refuse(hints, q, allLost(24))
		refuse(hints, q, allLost(25))
	}
	for _, ty := range wrongTypes() {
		refuse([]int{1}, impl.Question{Name: q.Name, Type: ty}, nil)
	}
	for _, n := range badNames() {
		refuse([]int{1}, impl.Question{Name: n, Type: 1}, nil)
	}
	if got := w.checkResolve(t, []int{0, 1<<32 - 1, 1, 1}, q); got.Code != 0 || got.Sends != 4 {
		t.Error(toldTask(got))
	}
}

// askNames are few, so that what is told of one is often told of the other, too.
func askNames() []string {
	return []string{".", "com.", "x.com.", "a.x.com.", "b.x.com.", "a.b.x.com.", "a.com.", "b.com.", "org.", "a.org.", "xcom."}
}

func (m *mixer) askName() impl.Name {
	return named(askNames()[m.below(len(askNames()))])
}

// toldOf gives a record of the name that is asked for, more often than not.
func (m *mixer) toldOf(x impl.Task) impl.Rr {
	r := impl.Rr{Name: m.askName(), Type: m.of(1, 2, 5, 5, 5, 5, 16, x.First.Type), Ttl: 9}
	if m.below(3) > 0 {
		r.Name = x.Name
	}
	return m.filled(r)
}

// filled gives a record data of its type.
func (m *mixer) filled(r impl.Rr) impl.Rr {
	switch r.Type {
	case 1:
		r.Addr = 1 + m.below(5)
	case 6:
		r.To, r.Nums = m.askName(), []int{1, 60}
	case 16, 49:
		r.Text = []byte{"ab"[m.below(2)]}
	default:
		r.To = m.askName()
	}
	return r
}

func (m *mixer) ips(n int) []int {
	var out []int
	for range n {
		out = append(out, m.below(6))
	}
	return out
}

func (m *mixer) task() impl.Task {
	name := m.askName()
	x := impl.Task{Id: 7, First: impl.Question{Name: m.askName(), Type: m.of(1, 1, 1, 2, 5, 16)}, Name: name, Zone: impl.Name{L: name.L[m.below(len(name.L)+1):]}}
	x.Hints, x.Servers = m.ips(1+m.below(4)), m.ips(1+m.below(4))
	x.Turn, x.Sends, x.Steps = m.below(len(x.Servers)), m.of(0, 1, 2, 5, 9, 10, 10, 11), m.below(6)
	for range m.of(0, 0, 1, 2, 3, 10, 11, 12) {
		x.Answers = append(x.Answers, m.toldOf(x))
	}
	if m.below(15) == 0 {
		return tasked(x, endBy(m.below(11)))
	}
	return x
}

// replyTo gives something that is most often an answer.
func (m *mixer) replyTo(x impl.Task) (int, impl.Msg) {
	out := replied(x, m.of(0, 0, 0, 0, 3, 3, 2, 5), m.below(2) == 0, nil, nil, nil)
	for range m.of(0, 0, 1, 2, 4, 6) {
		out.Answers = append(out.Answers, m.toldOf(x))
	}
	for range m.of(0, 1, 2, 3) {
		name := impl.Name{L: x.Name.L[m.below(len(x.Name.L)-len(x.Zone.L)+1):]}
		out.Auths = append(out.Auths, m.filled(impl.Rr{Name: []impl.Name{name, name, m.askName()}[m.below(3)], Type: m.of(2, 2, 2, 6, 1)}))
	}
	for i := range m.of(0, 2, 4, 6) {
		name := m.askName()
		if i < len(out.Auths) && m.below(9) > 0 {
			name = out.Auths[i].To
		}
		out.More = append(out.More, m.filled(impl.Rr{Name: name, Type: m.of(1, 1, 1, 1, 16, 5)}))
	}
	from := whom(x)
	switch m.below(40) {
	case 0:
		from = m.below(6)
	case 1:
		out.Id = m.below(9)
	case 2:
		out.Qs = []impl.Question{{Name: m.askName(), Type: m.of(1, 2, 255)}}
	case 3:
		out.Reply = false
	}
	return from, out
}

// whatHappened tells apart what an answer may do.
func whatHappened(x, got impl.Task) string {
	switch {
	case got.State == 1 && got.Code == 2 && got.Sends == 12:
		return "no more sends"
	case got.State == 1 && got.Code == 2 && got.Steps == 6:
		return "no more steps"
	case got.State == 1 && len(got.Answers) > len(x.Answers):
		return fmt.Sprint("ends with more ", got.Code)
	case got.State == 1:
		return fmt.Sprint("ends ", got.Code)
	case len(got.Answers) > len(x.Answers) && len(got.Zone.L) < len(x.Zone.L):
		return "alias out"
	case len(got.Answers) > len(x.Answers):
		return "alias in"
	case len(got.Zone.L) > len(x.Zone.L):
		return "down"
	}
	return "next"
}

func TestMixedAnswers(t *testing.T) {
	m := mixer(21)
	codes := map[string]int{}
	for range 20000 {
		x := m.task()
		from, r := m.replyTo(x)
		got, ok := impl.Heard(x, from, r)
		want, wantOk := heardIn(x, from, r)
		if ok != wantOk || toldTask(got) != toldTask(want) {
			t.Fatalf("Heard %s\nfrom %d by %s\n = %s, %v\nwant %s, %v", toldMsg(r), from, toldTask(x), toldTask(got), ok, toldTask(want), wantOk)
		}
		if !ok && impl.MsgOk(r) && toldTask(got) != toldTask(x) {
			t.Fatal("no answer, but", toldTask(got))
		}
		if !ok {
			codes["none"]++
			continue
		}
		checkHeard(t, x, r, got)
		codes[whatHappened(x, got)]++
	}
	for what, least := range map[string]int{
		"none": 1000, "no more sends": 500, "no more steps": 300, "ends with more 0": 1000, "ends with more 3": 100, "ends 0": 500, "ends 2": 500, "ends 3": 500, "alias out": 300, "alias in": 500, "down": 200, "next": 1000,
	} {
		if codes[what] < least {
			t.Error("too few of", what, codes)
		}
	}
}

// worldZone gives a zone of mixed records; it hands most of what lies below it to where that is.
func (m *mixer) worldZone(origin impl.Name, origins []impl.Name, at []int) impl.Zone {
	z, _ := impl.ZoneNew(origin, 1)
	put := func(r impl.Rr) {
		if isUnder(r.Name, origin) {
			z, _ = addedTo(z, r)
		}
	}
	for i, low := range origins {
		if m.below(4) > 0 && len(low.L) > len(origin.L) {
			server := impl.Name{L: slices.Insert(slices.Clone(low.L), 0, []byte("ns"))}
			put(impl.Rr{Name: low, Type: 2, Ttl: 60, To: server})
			put(impl.Rr{Name: server, Type: 1, Ttl: 60, Addr: at[i]})
		}
	}
	for range m.of(0, 5, 10, 20) {
		put(m.filled(impl.Rr{Name: m.askName(), Type: m.of(1, 1, 1, 5, 5, 5, 5, 5, 5, 16, 2), Ttl: m.of(9, 60)}))
	}
	return z
}

func (m *mixer) world() world {
	var w world
	var origins []impl.Name
	for i := range m.of(0, 1, 2, 3, 4, 5, 5, 5, 5, 5) {
		origins = append(origins, named([]string{".", "com.", "x.com.", "org.", "b.x.com."}[i]))
		w.at = append(w.at, i+1)
		if m.below(8) == 0 {
			origins[i] = m.askName()
		}
		if m.below(8) == 0 {
			w.at[i] = 1 + m.below(5)
		}
	}
	for _, origin := range origins {
		w.zones = append(w.zones, m.worldZone(origin, origins, w.at))
	}
	return w
}

func TestMixedWorlds(t *testing.T) {
	m := mixer(31)
	codes := map[string]int{}
	for range 400 {
		w := m.world()
		hints := append(m.ips(m.below(3)), slices.Concat(w.at, []int{1})[0])
		for _, text := range askNames() {
			lost := make([]bool, m.of(0, 0, 3, 12, 24))
			for i := range lost {
				lost[i] = m.below(4) == 0
			}
			got := w.checkResolve(t, hints, impl.Question{Name: named(text), Type: m.of(1, 1, 1, 2, 5, 16)}, lost...)
			codes[fmt.Sprintf("code %d, %v", got.Code, len(got.Answers) > 0)]++
			codes[fmt.Sprint("steps ", got.Steps)]++
			codes[fmt.Sprint("sends ", got.Sends)]++
		}
	}
	for what, least := range map[string]int{
		"code 0, true": 400, "code 0, false": 200, "code 2, false": 500, "code 3, false": 200, "code 3, true": 30,
		"steps 0": 300, "steps 1": 300, "steps 2": 200, "steps 3": 100, "steps 4": 30, "steps 5": 10, "steps 6": 30, "sends 1": 300, "sends 2": 300, "sends 4": 100, "sends 6": 50, "sends 8": 10, "sends 12": 300,
	} {
		if codes[what] < least {
			t.Error("too few of", what, codes)
		}
	}
}

// handedWorld has the root at 1, which hands com. to 2, and that x.com. to 3, with mixed records in all three.
func (m *mixer) handedWorld() world {
	root, _ := impl.ZoneNew(impl.Name{}, 1)
	com, _ := impl.ZoneNew(named("com."), 1)
	low, _ := impl.ZoneNew(named("x.com."), 1)
	above := []string{"ns.com.", "ns.", "ns.x.com.", "com.", "."}[m.below(5)]
	below := []string{"ns.com.", "ns.x.com.", "x.com.", "com."}[m.below(4)]
	for _, text := range []string{"com. 60 NS " + above, above + " 60 A 2"} {
		root = with(root, rec(text))
	}
	for _, text := range []string{"x.com. 60 NS " + below, below + " 60 A 3"} {
		com = with(com, rec(text))
	}
	out := []impl.Zone{root, com, low}
	for range 40 {
		i := m.below(3)
		r := m.filled(impl.Rr{Name: m.askName(), Type: m.of(1, 1, 1, 2, 5, 5, 16, 12, 49), Ttl: m.of(9, 60)})
		handed := r.Type == 2 && i < 2 && wordsOfName(r.Name) == []string{"com.", "x.com."}[i]
		server := r.Type == 1 && i < 2 && wordsOfName(r.Name) == wordsOfName(named([]string{above, below}[i]))
		if isUnder(r.Name, out[i].Origin) && !handed && !server {
			out[i], _ = addedTo(out[i], r)
		}
	}
	w := worldOf([]int{1, 2, 3}, out...)
	for i := range 3 {
		k := m.below(3)
		w.zones[i], w.zones[k], w.at[i], w.at[k] = w.zones[k], w.zones[i], w.at[k], w.at[i]
	}
	return w
}

// longest is the longest zone of a world that has a name.
func (w world) longest(n impl.Name) impl.Zone {
	var out impl.Zone
	for _, z := range w.zones {
		if isUnder(n, z.Origin) && len(z.Origin.L) >= len(out.Origin.L) {
			out = z
		}
	}
	return out
}

// Promise 11: what there is is answered by just that, what there is none of is answered so.
func TestWhatThereIsIsFound(t *testing.T) {
	m := mixer(41)
	kinds := map[string]int{}
	for range 150 {
		w := m.handedWorld()
		for _, text := range append(askNames(), "no.", "no.com.", "no.x.com.", "no.a.x.com.", "ns.", "ns.com.", "ns.x.com.", "b.x.", "no.org.") {
			for _, ty := range typeNumbers() {
				n := named(text)
				l, kind := impl.Lookup(w.longest(n), n, ty)
				got := w.checkResolve(t, []int{1}, impl.Question{Name: n, Type: ty})
				kinds[fmt.Sprint(kind, " in ", len(w.longest(n).Origin.L))]++
				switch kind {
				case impl.LkAnswer:
					if got.Code != 0 || toldRrs(got.Answers) != toldRrs(l) {
						t.Fatalf("%s %d is answered by %s, not %s", text, ty, toldTask(got), toldRrs(l))
					}
				case impl.LkNoName:
					if got.Code != 3 || len(got.Answers) != 0 {
						t.Fatalf("%s %d is answered by %s", text, ty, toldTask(got))
					}
				case impl.LkNoData:
					if got.Code != 0 || len(got.Answers) != 0 {
						t.Fatalf("%s %d is answered by %s", text, ty, toldTask(got))
					}
				}
			}
		}
	}
	for i := range 3 {
		for kind, least := range []int{500, 100, 0, 500, 500} {
			if told := fmt.Sprint(kind, " in ", i); kinds[told] < least {
				t.Error("too few of", told, kinds)
			}
		}
	}
}

// taskArgs are all arguments that a function of the chapter may take.
type taskArgs struct {
	X     impl.Task
	From  int
	M     impl.Msg
	L     []impl.Rr
	N     impl.Name
	Q     impl.Question
	Hints []int
	Zones []impl.Zone
	At    []int
	Lost  []bool
}

func roomyInts(l []int) []int {
	return append(slices.Clone(l), 1, 2, 3)[:len(l)]
}

func roomyTask(x impl.Task) impl.Task {
	x.First.Name, x.Name, x.Zone = roomyName(x.First.Name), roomyName(x.Name), roomyName(x.Zone)
	x.Hints, x.Servers, x.Answers = roomyInts(x.Hints), roomyInts(x.Servers), roomy(x.Answers, roomyRr, rec("spare. 9 A 9"))
	return x
}

func (a taskArgs) roomy() taskArgs {
	a.X, a.M, a.L, a.N = roomyTask(a.X), roomyMsg(a.M), roomy(a.L, roomyRr, rec("spare. 9 A 9")), roomyName(a.N)
	a.Q.Name, a.Hints, a.At = roomyName(a.Q.Name), roomyInts(a.Hints), roomyInts(a.At)
	a.Zones, a.Lost = roomy(a.Zones, roomyZone, rootZone()), append(slices.Clone(a.Lost), true, true)[:len(a.Lost)]
	return a
}

func (a taskArgs) told() string {
	return fmt.Sprint(toldTask(a.X), a.From, toldMsg(a.M), toldRrs(a.L), told(a.N), toldQuestion(a.Q), a.Hints, toldAll(a.Zones, toldZone), a.At, a.Lost)
}

// taskAnswer is all that one function answers.
type taskAnswer struct {
	X impl.Task
	M impl.Msg
	L []impl.Rr
}

func (a taskAnswer) told(beside ...any) (any, string) {
	return a, fmt.Sprint(toldTask(a.X), toldMsg(a.M), toldRrs(a.L), beside)
}

func taskCalls() map[string]func(a taskArgs) (any, string) {
	return map[string]func(a taskArgs) (any, string){
		"TaskOk": func(a taskArgs) (any, string) { return taskAnswer{}.told(impl.TaskOk(a.X)) },
		"Inside": func(a taskArgs) (any, string) { return taskAnswer{L: impl.Inside(a.L, a.N)}.told() },
		"Begin": func(a taskArgs) (any, string) {
			x, ok := impl.Begin(a.Q, a.Hints, a.X.Id)
			return taskAnswer{X: x}.told(ok)
		},
		"AskOf": func(a taskArgs) (any, string) {
			ip, m, ok := impl.AskOf(a.X)
			return taskAnswer{M: m}.told(ip, ok)
		},
		"Heard": func(a taskArgs) (any, string) {
			x, ok := impl.Heard(a.X, a.From, a.M)
			return taskAnswer{X: x}.told(ok)
		},
		"Lost": func(a taskArgs) (any, string) {
			x, ok := impl.Lost(a.X)
			return taskAnswer{X: x}.told(ok)
		},
		"ServerOf": func(a taskArgs) (any, string) {
			m, ok := impl.ServerOf(a.Zones, a.At, a.From, askedBy(a.X))
			return taskAnswer{M: m}.told(ok)
		},
		"Resolve": func(a taskArgs) (any, string) {
			x, ok := impl.Resolve(a.Zones, a.At, a.Hints, a.Q, a.Lost)
			return taskAnswer{X: x}.told(ok)
		},
	}
}

// manyReplies do to a task all that an answer may do, and some are none.
func manyReplies(x impl.Task) []impl.Msg {
	in, out := "w.x.com. 9 CNAME y.com.", "w.x.com. 9 CNAME y.org."
	down := replied(x, 0, false, nil, texts{"x.com. 9 NS ns.com.", "x.com. 9 NS ns.com."}, texts{"ns.com. 9 A 7", "ns.com. 9 A 8"})
	return []impl.Msg{
		replied(x, 0, true, texts{"w.x.com. 9 A 1", "w.x.com. 9 A 2"}, nil, nil), replied(x, 0, true, texts{in, "y.com. 9 A 1"}, nil, nil), replied(x, 0, true, texts{in}, nil, nil), replied(x, 3, true, texts{in}, nil, nil), replied(x, 0, true, texts{out}, nil, nil),
		replied(x, 3, true, nil, texts{"com. 9 SOA com. 1 2"}, nil), replied(x, 0, true, nil, nil, nil), replied(x, 0, false, nil, nil, nil), replied(x, 5, false, nil, nil, nil), down, replied(x, 0, false, nil, texts{"x.com. 9 NS ns.com."}, nil),
		turned(down, func(m *impl.Msg) { m.Id++ }), askedBy(x), update(named("com.")), {},
	}
}

func manyTaskArgs() []taskArgs {
	w := greatWorld()
	questions := []string{"y.com. A", "w.com. A", "far.com. A", "up.x.com. A", "no.com. A", "net. A", "off.com. A", "x.com. SOA", "a.x.com. TXT", "p.com. A", "a.x.com. ANY"}
	tasks := []impl.Task{halfway(), tasked(halfway(), knowing(12)), tasked(halfway(), knowing(0)), tasked(halfway(), sentTimes(11)), tasked(halfway(), steppedTimes(5)), tasked(halfway(), endBy(0)), tasked(halfway(), endBy(2)), begun("w.x.com. A", 1), tasked(halfway(), onTurn(3))}
	var out []taskArgs
	for i, x := range tasks {
		for k, m := range manyReplies(x) {
			a := taskArgs{X: x, From: x.Servers[x.Turn%len(x.Servers)], M: m, L: fewRecords()[:1+k%7], N: []impl.Name{{}, named("home."), named("pc.home."), named("com.")}[k%4], Q: questionOf(questions[(i+k)%len(questions)])}
			a.Hints, a.Zones, a.At, a.Lost = [][]int{{1}, {9, 1}, {1, 2, 3, 4}, {1, 2, 3, 4, 5}}[k%4], w.zones, w.at, flags(k)
			if k%5 == 1 {
				a.Lost = flags(k, 0)
			}
			if k%6 == 1 {
				a.From, a.At = 2, []int{2, 2, 2, 2, 2}
			}
			out = append(out, a)
		}
	}
	return out
}

func TestTaskAnswersAreNewMemory(t *testing.T) {
	for call, run := range taskCalls() {
		for _, plain := range manyTaskArgs() {
			checkCall(t, call, run, plain, plain.roomy())
		}
	}
}

// Arguments may share memory with each other, and in themselves; what is answered may not.
func TestTasksBySharedMemory(t *testing.T) {
	name := named("a.x.com.")
	zone := impl.Name{L: name.L[2:]}
	ips := []int{1, 2, 1}
	alias := impl.Rr{Name: name, Type: 5, Ttl: 9, To: name}
	server := impl.Rr{Name: name, Type: 2, Ttl: 9, To: name}
	text := impl.Rr{Name: name, Type: 16, Ttl: 9, Text: name.L[0]}
	address := impl.Rr{Name: name, Type: 1, Ttl: 9, Addr: 2}
	q := impl.Question{Name: name, Type: 16}
	x := impl.Task{Id: 7, First: q, Name: name, Zone: zone, Hints: ips, Servers: ips, Answers: []impl.Rr{alias, alias}}
	m := impl.Msg{Id: 7, Reply: true, Qs: []impl.Question{q}}
	low := impl.Zone{Origin: name, Rrs: []impl.Rr{{Name: name, Type: 6, To: name, Nums: ips[:2]}, text}}
	for _, l := range [][]impl.Rr{{alias}, {alias, alias}, {text}, {text, text}, nil} {
		m.Answers, m.Auths, m.More = l, []impl.Rr{server, server}, []impl.Rr{address, address}
		a := taskArgs{X: x, From: 1, M: m, L: []impl.Rr{alias, text, alias}, N: name, Q: q, Hints: ips, Zones: []impl.Zone{low, low, low}, At: ips}
		for call, run := range taskCalls() {
			checkCall(t, call, run, a, a)
		}
	}
	if got, ok := impl.Heard(x, 1, m); !ok || told(got.Zone) != told(name) || !slices.Equal(got.Servers, []int{2, 2, 2, 2}) {
		t.Error(toldTask(got), ok)
	}
}
