package tests

import (
	"bytes"
	"fmt"
	"math"
	"slices"
	"strconv"
	"strings"
	"testing"

	"loop.example/g00422/impl"
)

func toldWant(w impl.Want) string {
	return fmt.Sprintf("{%s class %d bare %v}", toldRr(w.Rr), w.Class, w.Bare)
}

func toldAll[T any](l []T, one func(T) string) string {
	var out []string
	for _, x := range l {
		out = append(out, one(x))
	}
	return "[" + strings.Join(out, " ") + "]"
}

func toldQuestion(q impl.Question) string {
	return fmt.Sprintf("{%s type %d}", told(q.Name), q.Type)
}

// toldMsg tells messages apart, those that are not MsgOk, too; an empty list and nil are told alike.
func toldMsg(m impl.Msg) string {
	return fmt.Sprintf("{id %d reply %v op %d auth %v code %d qs %s answers %s auths %s more %s pres %s ups %s}",
		m.Id, m.Reply, m.Op, m.Auth, m.Code, toldAll(m.Qs, toldQuestion),
		toldAll(m.Answers, toldRr), toldAll(m.Auths, toldRr), toldAll(m.More, toldRr), toldAll(m.Pres, toldWant), toldAll(m.Ups, toldWant))
}

func isZeroMsg(m impl.Msg) bool {
	return toldMsg(m) == toldMsg(impl.Msg{})
}

func query(n impl.Name, ty int) impl.Msg {
	return impl.Msg{Id: 5, Qs: []impl.Question{{Name: n, Type: ty}}}
}

func update(n impl.Name) impl.Msg {
	m := query(n, 6)
	m.Op = 5
	return m
}

// turned is a message with something of it changed.
func turned(m impl.Msg, turn func(m *impl.Msg)) impl.Msg {
	turn(&m)
	return m
}

// section is one of the five lists of a message.
type section struct {
	name string
	op   int
	at   int // where its number stands
	turn func(m *impl.Msg, l []impl.Rr)
}

func inClass(l []impl.Rr) []impl.Want {
	var out []impl.Want
	for _, r := range l {
		out = append(out, impl.Want{Rr: r, Class: 1})
	}
	return out
}

func sections() []section {
	return []section{
		{"Answers", 0, 6, func(m *impl.Msg, l []impl.Rr) { m.Answers = l }},
		{"Auths", 0, 8, func(m *impl.Msg, l []impl.Rr) { m.Auths = l }},
		{"More", 0, 10, func(m *impl.Msg, l []impl.Rr) { m.More = l }},
		{"Pres", 5, 6, func(m *impl.Msg, l []impl.Rr) { m.Pres = inClass(l) }},
		{"Ups", 5, 8, func(m *impl.Msg, l []impl.Rr) { m.Ups = inClass(l) }},
	}
}

// with gives a message that has these records in the section, and nothing else.
func (s section) with(l []impl.Rr) impl.Msg {
	m := query(labels(), 6)
	m.Op = s.op
	s.turn(&m, l)
	return m
}

// headSize is how many bytes a message of section.with has ahead of its records.
const headSize = 17

// filling gives records that have just so many bytes in a message.
func filling(size int) []impl.Rr {
	var out []impl.Rr
	for left := (size + 51) / 52; left > 0; left-- {
		have := size / left
		out = append(out, impl.Rr{Type: 16, Text: bytes.Repeat([]byte{'f'}, have-12)})
		size -= have
	}
	return out
}

func wrongClasses() []int {
	return []int{0, -1, 2, 3, 4, 252, 253, 256, 257, 510, 511, 65535, 65537, 65536 + 254, 1<<32 + 1, 1<<32 + 255, -254, -255, math.MaxInt, math.MinInt}
}

// emptyOf is a record that has its name and type alone, as a bare one must.
func emptyOf(n impl.Name, ty int) impl.Rr {
	return impl.Rr{Name: n, Type: ty}
}

func bareWants() []impl.Want {
	var out []impl.Want
	w := longLabel()
	for _, n := range []impl.Name{labels(), labels("home"), labels("pc", "home"), labels(w, w, w, w, w, w)} {
		for _, ty := range append(typeNumbers(), 255) {
			out = append(out, impl.Want{Rr: emptyOf(n, ty), Class: 254, Bare: true}, impl.Want{Rr: emptyOf(n, ty), Class: 255, Bare: true})
		}
	}
	return out
}

// fullWants are not bare; some have data that look as if there were none.
func fullWants() []impl.Want {
	l := append(fewRecords(), impl.Rr{Type: 1}, impl.Rr{Type: 2}, impl.Rr{Type: 6, Nums: []int{0, 0}}, impl.Rr{Type: 16}, impl.Rr{Type: 49}, impl.Rr{Type: 1, Addr: 1<<32 - 1}, impl.Rr{Type: 16, Text: make([]byte, 40)})
	var out []impl.Want
	for _, r := range l {
		for _, ttl := range []int{0, 1, 60, 100000} {
			r.Ttl = ttl
			out = append(out, impl.Want{Rr: r, Class: 1})
		}
		r.Ttl = 0
		out = append(out, impl.Want{Rr: r, Class: 254})
	}
	return out
}

func goodWants() []impl.Want {
	return append(bareWants(), fullWants()...)
}

func badBareWants() []impl.Want {
	var out []impl.Want
	for _, w := range bareWants() {
		turns := []func(r *impl.Rr){
			func(r *impl.Rr) { r.Addr = 1 }, func(r *impl.Rr) { r.Addr = -1 }, func(r *impl.Rr) { r.Addr = math.MinInt },
			func(r *impl.Rr) { r.To = labels("a") }, func(r *impl.Rr) { r.To = labels("") },
			func(r *impl.Rr) { r.Text = []byte{0} }, func(r *impl.Rr) { r.Text = make([]byte, 41) },
			func(r *impl.Rr) { r.Nums = []int{0} }, func(r *impl.Rr) { r.Nums = []int{0, 0} }, func(r *impl.Rr) { r.Nums = []int{7, 30} },
		}
		for _, ttl := range []int{1, -1, 60, 100000, 100001, 1 << 32, math.MaxInt, math.MinInt} {
			turns = append(turns, func(r *impl.Rr) { r.Ttl = ttl })
		}
		for _, ty := range wrongTypes() {
			if ty != 255 {
				turns = append(turns, func(r *impl.Rr) { r.Type = ty })
			}
		}
		for _, n := range badNames() {
			turns = append(turns, func(r *impl.Rr) { r.Name = n })
		}
		for _, turn := range turns {
			x := w
			turn(&x.Rr)
			out = append(out, x)
		}
		w.Class = 1
		out = append(out, w)
	}
	return out
}

func badFullWants() []impl.Want {
	var out []impl.Want
	for _, w := range fullWants() {
		x := w
		x.Class = 255
		out = append(out, x)
		for _, ttl := range []int{1, 60, 100000, 100001, -1} {
			x.Class, x.Rr.Ttl = 254, ttl
			out = append(out, x)
		}
	}
	for _, r := range badRecords() {
		out = append(out, impl.Want{Rr: r, Class: 1}, impl.Want{Rr: r, Class: 254})
		r.Ttl = 0
		if !impl.RrOk(r) {
			out = append(out, impl.Want{Rr: r, Class: 254})
		}
	}
	return out
}

func badWants() []impl.Want {
	out := append(badBareWants(), badFullWants()...)
	for _, w := range goodWants() {
		for _, class := range wrongClasses() {
			w.Class = class
			out = append(out, w)
		}
	}
	return append(out, impl.Want{}, impl.Want{Bare: true}, impl.Want{Class: 255, Bare: true}, impl.Want{Class: 1})
}

func TestMessageLimits(t *testing.T) {
	if impl.MaxList != 12 || impl.OpQuery != 0 || impl.OpUpdate != 5 {
		t.Error(impl.MaxList, impl.OpQuery, impl.OpUpdate)
	}
	codes := []int{impl.RcOk, impl.RcForm, impl.RcFail, impl.RcName, impl.RcNot, impl.RcRefused, impl.RcYxName, impl.RcYxSet, impl.RcNxSet, impl.RcNotAuth, impl.RcNotZone}
	for i, code := range codes {
		if code != i {
			t.Error(i, code)
		}
	}
	if impl.ClIn != 1 || impl.ClNone != 254 || impl.ClAny != 255 {
		t.Error(impl.ClIn, impl.ClNone, impl.ClAny)
	}
}

func TestWantOk(t *testing.T) {
	for _, w := range goodWants() {
		if !impl.WantOk(w) {
			t.Errorf("WantOk(%s) = false", toldWant(w))
		}
		w.Rr.Name.L = append([][]byte{}, w.Rr.Name.L...)
		w.Rr.To.L = append([][]byte{}, w.Rr.To.L...)
		w.Rr.Text = append([]byte{}, w.Rr.Text...)
		w.Rr.Nums = append([]int{}, w.Rr.Nums...)
		if !impl.WantOk(w) {
			t.Errorf("an empty list is no list in %s", toldWant(w))
		}
	}
	for _, w := range badWants() {
		if impl.WantOk(w) {
			t.Errorf("WantOk(%s) = true", toldWant(w))
		}
	}
}

// goodQueries are questions and answers, with the least and the greatest of each part.
func goodQueries() []impl.Msg {
	pc := labels("pc", "home")
	all := fewRecords()
	whole := impl.Msg{Id: 258, Reply: true, Auth: true, Code: 3, Qs: query(pc, 1).Qs, Answers: all[:3], Auths: all[3:5], More: all[5:]}
	out := []impl.Msg{whole, {Qs: query(labels(), 255).Qs}}
	for i, n := range goodNames() {
		ty := append(typeNumbers(), 255)[i%8]
		out = append(out, query(n, ty), query(n, 255))
	}
	for _, ty := range append(typeNumbers(), 255) {
		out = append(out, query(pc, ty), query(labels(), ty))
	}
	for _, id := range []int{0, 1, 255, 256, 32768, 65534, 65535} {
		out = append(out, turned(whole, func(m *impl.Msg) { m.Id = id }))
	}
	for code := range 11 {
		out = append(out, turned(whole, func(m *impl.Msg) { m.Code = code }), turned(query(pc, 1), func(m *impl.Msg) { m.Code = code }))
	}
	for i := range 8 {
		m := query(pc, 16)
		m.Reply, m.Auth = i%2 == 1, i/2%2 == 1
		if i >= 4 {
			m.Answers = all[:2]
		}
		out = append(out, m)
	}
	for _, r := range goodRecords() {
		m := query(labels(), 1)
		m.Answers, m.More = []impl.Rr{r}, []impl.Rr{r}
		out = append(out, m)
	}
	return out
}

// goodUpdates have every want in Pres, in Ups and in both.
func goodUpdates() []impl.Msg {
	wants := goodWants()
	home := labels("home")
	out := []impl.Msg{update(home), update(labels()), turned(update(home), func(m *impl.Msg) { m.Reply, m.Auth, m.Code = true, true, 10 })}
	for i, w := range wants {
		other := wants[(7*i+3)%len(wants)]
		out = append(out,
			turned(update(home), func(m *impl.Msg) { m.Pres = []impl.Want{w} }),
			turned(update(home), func(m *impl.Msg) { m.Ups = []impl.Want{w} }),
			turned(update(home), func(m *impl.Msg) { m.Pres, m.Ups = []impl.Want{w, w}, []impl.Want{other} }),
			turned(update(home), func(m *impl.Msg) { m.Id, m.Pres, m.Ups = 65535, []impl.Want{other}, []impl.Want{w} }))
	}
	small := bareWants()[:12]
	few := fullWants()[35:47]
	return append(out,
		turned(update(home), func(m *impl.Msg) { m.Pres, m.Ups = small, small }),
		turned(update(labels()), func(m *impl.Msg) { m.Pres, m.Ups = few, small }))
}

// greatMsgs have MaxList of something, or just MaxBytes bytes.
func greatMsgs() []impl.Msg {
	least := slices.Repeat([]impl.Rr{{Type: 16}}, 12)
	m := query(labels(), 1)
	m.Answers, m.Auths, m.More = least, least, least
	out := []impl.Msg{m}
	for _, s := range sections() {
		out = append(out, s.with(least), s.with(filling(512-headSize)), s.with(filling(511-headSize)))
	}
	m.Answers, m.Auths, m.More = filling(165), filling(165), filling(165)
	u := update(labels())
	u.Pres, u.Ups = inClass(filling(200)), inClass(filling(295))
	b := update(labels())
	b.Pres = slices.Repeat([]impl.Want{{Rr: emptyOf(labels(), 255), Class: 255, Bare: true}}, 12)
	b.Ups = inClass(filling(512 - headSize - 12*11))
	return append(out, m, u, b)
}

func goodMsgs() []impl.Msg {
	return slices.Concat(goodQueries(), goodUpdates(), greatMsgs())
}

func fewMsgs() []impl.Msg {
	pc := labels("pc", "home")
	all := fewRecords()
	m := query(pc, 255)
	m.Reply, m.Code, m.Answers, m.Auths, m.More = true, 3, all[:2], all[3:4], all[5:6]
	u := update(labels("home"))
	u.Pres = []impl.Want{{Rr: emptyOf(pc, 255), Class: 255, Bare: true}, {Rr: emptyOf(pc, 1), Class: 254, Bare: true}, {Rr: impl.Rr{Name: pc, Type: 16}, Class: 1}}
	u.Ups = []impl.Want{{Rr: emptyOf(pc, 49), Class: 255, Bare: true}, {Rr: impl.Rr{Name: pc, Type: 1}, Class: 254}, {Rr: all[2], Class: 1}}
	return []impl.Msg{query(labels(), 1), query(pc, 255), m, update(labels()), u}
}

// badHeads turn the numbers and the question of a good message.
func badHeads(m impl.Msg) []impl.Msg {
	var out []impl.Msg
	add := func(turn func(m *impl.Msg)) { out = append(out, turned(m, turn)) }
	for _, id := range []int{-1, -5, -65536, 65536, 65537, 1 << 32, math.MaxInt, math.MinInt} {
		add(func(m *impl.Msg) { m.Id = id })
	}
	for _, op := range []int{-1, 1, 2, 3, 4, 6, 7, 15, 16, 21, 32, 65541, 1<<32 + 5, -5, math.MaxInt, math.MinInt} {
		add(func(m *impl.Msg) { m.Op = op })
	}
	for _, code := range []int{-1, -10, 11, 12, 15, 16, 1024, 65536, 1 << 32, math.MaxInt, math.MinInt} {
		add(func(m *impl.Msg) { m.Code = code })
	}
	q := m.Qs[0]
	for _, l := range [][]impl.Question{nil, {}, {q, q}, {q, {}}, {{}}, slices.Repeat([]impl.Question{q}, 13), make([]impl.Question, 5000)} {
		add(func(m *impl.Msg) { m.Qs = l })
	}
	for _, ty := range wrongTypes() {
		if ty != 255 {
			add(func(m *impl.Msg) { m.Qs = []impl.Question{{Name: q.Name, Type: ty}} })
		}
	}
	for _, n := range badNames() {
		add(func(m *impl.Msg) { m.Qs = []impl.Question{{Name: n, Type: q.Type}} })
	}
	return out
}

// badLists have one record too many, a wrong one, or a section that is not their operation's.
func badLists() []impl.Msg {
	var out []impl.Msg
	least := impl.Rr{Type: 16}
	for _, s := range sections() {
		out = append(out, s.with(slices.Repeat([]impl.Rr{least}, 13)), s.with(slices.Repeat([]impl.Rr{least}, 14)), s.with(make([]impl.Rr, 5000)), s.with(filling(513-headSize)), s.with(filling(600)))
		out = append(out, turned(s.with([]impl.Rr{least}), func(m *impl.Msg) { m.Op = 5 - m.Op }))
		for _, r := range badRecords() {
			out = append(out, s.with([]impl.Rr{r}), s.with([]impl.Rr{least, r}))
		}
	}
	for _, w := range badWants() {
		out = append(out, turned(update(labels()), func(m *impl.Msg) { m.Pres = []impl.Want{w} }))
		out = append(out, turned(update(labels()), func(m *impl.Msg) { m.Ups = []impl.Want{{Rr: least, Class: 1}, w} }))
	}
	for _, w := range bareWants() {
		out = append(out, turned(query(labels(), 6), func(m *impl.Msg) { m.Pres = []impl.Want{w} }), turned(query(labels(), 6), func(m *impl.Msg) { m.Ups = []impl.Want{w} }))
	}
	return out
}

func badMsgs() []impl.Msg {
	out := append(badLists(), impl.Msg{})
	for _, m := range fewMsgs() {
		out = append(out, badHeads(m)...)
	}
	for _, ty := range append(typeNumbers(), 255) {
		if ty != 6 {
			out = append(out, turned(update(labels()), func(m *impl.Msg) { m.Qs[0].Type = ty }))
		}
	}
	least := slices.Repeat([]impl.Rr{{Type: 16}}, 12)
	for _, s := range sections() {
		m := query(labels(), 6)
		m.Op, m.Answers, m.Pres, m.Ups = s.op, least, inClass(least), inClass(least)
		out = append(out, m)
	}
	long := turned(query(labels("a"), 1), func(m *impl.Msg) { m.Answers, m.Auths, m.More = filling(165), filling(165), filling(164) })
	both := turned(update(labels()), func(m *impl.Msg) { m.Pres, m.Ups = inClass(filling(200)), inClass(filling(296)) })
	return append(out, long, both)
}

func TestMsgOk(t *testing.T) {
	for _, m := range goodMsgs() {
		if !impl.MsgOk(m) {
			t.Errorf("MsgOk(%s) = false", toldMsg(m))
		}
	}
	for _, m := range badMsgs() {
		if impl.MsgOk(m) {
			t.Errorf("MsgOk(%s) = true", toldMsg(m))
		}
	}
}

// writer says again how a message stands in bytes; it may write names with pointers or in great letters.
type writer struct {
	out     []byte
	packing bool
	great   bool
	seen    map[string]int
}

func (w *writer) number(n int, size int) {
	w.out = append(w.out, highestFirst(n, size)...)
}

func (w *writer) name(n impl.Name) {
	for i, label := range n.L {
		if w.packing {
			rest := wordsOfName(impl.Name{L: n.L[i:]})
			if at, ok := w.seen[rest]; ok {
				w.number(49152+at, 2)
				return
			}
			w.seen[rest] = len(w.out)
		}
		if w.great {
			label = greatLetters(label, 2)
		}
		w.out = append(append(w.out, byte(len(label))), label...)
	}
	w.out = append(w.out, 0)
}

func (w *writer) data(r impl.Rr) {
	switch r.Type {
	case 1:
		w.number(r.Addr, 4)
	case 16, 49:
		w.out = append(append(w.out, byte(len(r.Text))), r.Text...)
	default:
		w.name(r.To)
		for _, n := range r.Nums {
			w.number(n, 4)
		}
	}
}

func (w *writer) want(x impl.Want) {
	w.name(x.Rr.Name)
	w.number(x.Rr.Type, 2)
	w.number(x.Class, 2)
	w.number(x.Rr.Ttl, 4)
	at := len(w.out)
	w.number(0, 2)
	if !x.Bare {
		w.data(x.Rr)
	}
	copy(w.out[at:], highestFirst(len(w.out)-at-2, 2))
}

func (w *writer) msg(m impl.Msg) []byte {
	w.seen = map[string]int{}
	second := 2048*m.Op + m.Code
	if m.Reply {
		second += 32768
	}
	if m.Auth {
		second += 1024
	}
	for _, n := range []int{m.Id, second, len(m.Qs), len(m.Answers) + len(m.Pres), len(m.Auths) + len(m.Ups), len(m.More)} {
		w.number(n, 2)
	}
	for _, q := range m.Qs {
		w.name(q.Name)
		w.number(q.Type, 2)
		w.number(1, 2)
	}
	for _, x := range slices.Concat(m.Pres, m.Ups, inClass(m.Answers), inClass(m.Auths), inClass(m.More)) {
		w.want(x)
	}
	return w.out
}

func bytesOfMsg(m impl.Msg) []byte {
	w := writer{}
	return w.msg(m)
}

func TestFillingsAreAsLongAsTheyShould(t *testing.T) {
	for _, s := range sections() {
		for _, size := range []int{100, 511, 512, 513} {
			m := s.with(filling(size - headSize))
			if got := len(bytesOfMsg(m)); got != size {
				t.Errorf("%s: %d bytes, not %d", s.name, got, size)
			}
		}
	}
}

func TestMessagesStandInBytes(t *testing.T) {
	for _, m := range goodMsgs() {
		if got, ok := impl.MsgBytes(m); !ok || !bytes.Equal(got, bytesOfMsg(m)) {
			t.Fatalf("MsgBytes(%s) = %q, %v, want %q", toldMsg(m), got, ok, bytesOfMsg(m))
		}
	}
	for _, m := range badMsgs() {
		if got, ok := impl.MsgBytes(m); ok || len(got) != 0 {
			t.Errorf("MsgBytes(%s) = %q, %v", toldMsg(m), got, ok)
		}
	}
}

func TestBytesOfAnUpdate(t *testing.T) {
	u := update(labels("a"))
	u.Pres = []impl.Want{{Rr: emptyOf(labels("b"), 1), Class: 254, Bare: true}}
	u.Ups = []impl.Want{{Rr: impl.Rr{Type: 1}, Class: 254}, {Rr: impl.Rr{Type: 16, Ttl: 60}, Class: 1}}
	want := "\x00\x05\x28\x00\x00\x01\x00\x01\x00\x02\x00\x00" + "\x01a\x00\x00\x06\x00\x01" +
		"\x01b\x00\x00\x01\x00\xfe\x00\x00\x00\x00\x00\x00" +
		"\x00\x00\x01\x00\xfe\x00\x00\x00\x00\x00\x04\x00\x00\x00\x00" +
		"\x00\x00\x10\x00\x01\x00\x00\x00\x3c\x00\x01\x00"
	if got, ok := impl.MsgBytes(u); !ok || string(got) != want {
		t.Errorf("%q, %v, want %q", got, ok, want)
	}
	expectMsg(t, []byte(want), u)
}

func expectMsg(t *testing.T, b []byte, want impl.Msg) {
	t.Helper()
	got, ok := impl.MsgRead(b)
	if !ok || toldMsg(got) != toldMsg(want) {
		t.Errorf("MsgRead(%q) = %s, %v, want %s", b, toldMsg(got), ok, toldMsg(want))
	}
}

func expectNoMsg(t *testing.T, b []byte) {
	t.Helper()
	if got, ok := impl.MsgRead(b); ok || !isZeroMsg(got) {
		t.Errorf("MsgRead(%q) = %s, %v", b, toldMsg(got), ok)
	}
}

func TestMessagesComeBackFromTheirBytes(t *testing.T) {
	for _, m := range goodMsgs() {
		b, ok := impl.MsgBytes(m)
		if !ok {
			t.Fatalf("MsgBytes(%s)", toldMsg(m))
		}
		expectMsg(t, b, m)
		for _, w := range []writer{{great: true}, {packing: true}, {packing: true, great: true}} {
			expectMsg(t, w.msg(m), m)
		}
		if t.Failed() {
			return
		}
	}
}

func TestMessagesThatAreNotOkAreNotRead(t *testing.T) {
	for _, m := range badMsgs() {
		if len(m.Qs) > 100 || len(m.Answers) > 100 || m.Id < 0 || m.Id > 65535 || m.Code < 0 || m.Code > 15 || m.Op < 0 || m.Op > 15 {
			continue
		}
		b := bytesOfMsg(m)
		// What is wrong may stand in bytes as something that is right: then the other reader finds it, too.
		checkMsg(t, b)
	}
}

func TestMessagesOfTooManyBytes(t *testing.T) {
	for _, s := range sections() {
		for size := 510; size <= 516; size++ {
			m := s.with(filling(size - headSize))
			b := bytesOfMsg(m)
			if got := impl.MsgOk(m); got != (size <= 512) {
				t.Errorf("%s: MsgOk of %d bytes = %v", s.name, size, got)
			}
			if size <= 512 {
				expectMsg(t, b, m)
				expectNoMsg(t, append(b, make([]byte, 513-size)...))
			} else {
				expectNoMsg(t, b)
			}
		}
	}
	expectNoMsg(t, make([]byte, 512))
	expectNoMsg(t, make([]byte, 513))
	expectNoMsg(t, make([]byte, 100000))
	expectNoMsg(t, append(bytesOfMsg(query(labels(), 1)), make([]byte, 100000)...))
}

// pointed has records of a long name, which stands in full in the question alone; without pointers it has size bytes.
func pointed(n impl.Name, size int) (impl.Msg, []byte) {
	m := query(n, 1)
	for i := range 5 {
		m.Answers = append(m.Answers, impl.Rr{Name: n, Type: 1, Addr: i})
	}
	m.More = filling(size - len(bytesOfMsg(m)))
	w := writer{packing: true}
	return m, w.msg(m)
}

func TestPointersDoNotMakeALongMessageShort(t *testing.T) {
	w := longLabel()
	for _, n := range []impl.Name{labels(w, w, "s"), labels(w, w, w, "a")} {
		m, b := pointed(n, 512)
		if len(bytesOfMsg(m)) != 512 || len(b) > 400 || !impl.MsgOk(m) {
			t.Fatal(len(bytesOfMsg(m)), len(b), toldMsg(m))
		}
		expectMsg(t, b, m)
		long, b := pointed(n, 513)
		if len(bytesOfMsg(long)) != 513 || len(b) > 400 || impl.MsgOk(long) {
			t.Fatal(len(bytesOfMsg(long)), len(b))
		}
		expectNoMsg(t, b)
	}
}

func TestMessagesByPointers(t *testing.T) {
	head := "\x00\x05\x80\x00\x00\x01\x00\x01\x00\x00\x00\x00\x02PC\x04home\x00\x00\x01\x00\x01"
	tail := "\x00\x01\x00\x00\x00\x3c"
	pc := labels("pc", "home")
	base := turned(query(pc, 1), func(m *impl.Msg) { m.Reply = true })
	for b, want := range map[string]impl.Rr{
		"\xc0\x0c\x00\x01" + tail + "\x00\x04\x0a\x00\x00\x03":                         {Name: pc, Type: 1, Ttl: 60, Addr: 167772163},
		"\x02tv\xc0\x0f\x00\x05" + tail + "\x00\x02\xc0\x0c":                           {Name: labels("tv", "home"), Type: 5, Ttl: 60, To: pc},
		"\xc0\x04\x00\x02" + tail + "\x00\x05\x02Ns\xc0\x0f":                           {Type: 2, Ttl: 60, To: labels("ns", "home")},
		"\xc0\x0f\x00\x06" + tail + "\x00\x0a\xc0\x0c\x00\x00\x00\x07\x00\x00\x00\x1e": {Name: labels("home"), Type: 6, Ttl: 60, To: pc, Nums: []int{7, 30}},
	} {
		expectMsg(t, []byte(head+b), turned(base, func(m *impl.Msg) { m.Answers = []impl.Rr{want} }))
	}
	for _, b := range []string{
		"\xc0\x19\x00\x01" + tail + "\x00\x04\x0a\x00\x00\x03",
		"\xc0\xff\x00\x01" + tail + "\x00\x04\x0a\x00\x00\x03",
		"\xc0\x02\x00\x01" + tail + "\x00\x04\x0a\x00\x00\x03",
		"\xc0\x0c\x00\x05" + tail + "\x00\x03\xc0\x0c\x00",
		"\xc0\x0c\x00\x05" + tail + "\x00\x02\xc0\x25",
	} {
		expectNoMsg(t, []byte(head+b))
	}
	up := "\x00\x05\x28\x00\x00\x01\x00\x01\x00\x01\x00\x00\x04Home\x00\x00\x06\x00\x01"
	u := update(labels("home"))
	u.Pres = []impl.Want{{Rr: emptyOf(pc, 255), Class: 255, Bare: true}}
	u.Ups = []impl.Want{{Rr: impl.Rr{Name: pc, Type: 12, To: labels("home")}, Class: 254}}
	expectMsg(t, []byte(up+"\x02pC\xc0\x0c\x00\xff\x00\xff\x00\x00\x00\x00\x00\x00"+"\xc0\x16\x00\x0c\x00\xfe\x00\x00\x00\x00\x00\x02\xc0\x0c"), u)
}

// wantAlone is an update with one record of this type, class, time and data.
func wantAlone(ty, class, ttl int, size int, data string) []byte {
	out := []byte("\x00\x05\x28\x00\x00\x01\x00\x00\x00\x01\x00\x00\x00\x00\x06\x00\x01\x01a\x00")
	for _, n := range []int{ty, class} {
		out = append(out, highestFirst(n, 2)...)
	}
	out = append(out, highestFirst(ttl, 4)...)
	out = append(out, highestFirst(size, 2)...)
	return append(out, data...)
}

func TestWhatIsBare(t *testing.T) {
	data := map[int]string{1: "\x00\x00\x00\x00", 2: "\x00", 5: "\x00", 6: "\x00\x00\x00\x00\x00\x00\x00\x00\x00", 12: "\x00", 16: "\x00", 49: "\x00"}
	for ty, d := range data {
		full := impl.Rr{Name: labels("a"), Type: ty}
		if ty == 6 {
			full.Nums = []int{0, 0}
		}
		one := func(r impl.Rr, class int, bare bool) impl.Msg {
			return turned(update(labels()), func(m *impl.Msg) { m.Ups = []impl.Want{{Rr: r, Class: class, Bare: bare}} })
		}
		for class := range 300 {
			b, withData := wantAlone(ty, class, 0, 0, ""), wantAlone(ty, class, 0, len(d), d)
			if class == 254 || class == 255 {
				expectMsg(t, b, one(emptyOf(labels("a"), ty), class, true))
			} else {
				expectNoMsg(t, b)
			}
			if class == 1 || class == 254 {
				expectMsg(t, withData, one(full, class, false))
			} else {
				expectNoMsg(t, withData)
			}
		}
		for _, ttl := range []int{1, 60, 100000, 100001, 1 << 31, 1<<32 - 1} {
			for _, class := range []int{1, 254, 255} {
				expectNoMsg(t, wantAlone(ty, class, ttl, 0, ""))
				if class != 1 || ttl > 100000 {
					expectNoMsg(t, wantAlone(ty, class, ttl, len(d), d))
				}
			}
		}
		for _, class := range []int{1, 254, 255} {
			expectNoMsg(t, wantAlone(ty, class, 0, 0, d))
			expectNoMsg(t, wantAlone(ty, class, 0, len(d), ""))
			expectNoMsg(t, wantAlone(ty, class, 0, len(d)+1, d))
			expectNoMsg(t, wantAlone(ty, class, 0, len(d)+1, d+"\x00"))
		}
	}
}

func TestBareOfAnyTypeAndOfNone(t *testing.T) {
	for ty := range 65536 {
		if slices.Contains(typeNumbers(), ty) {
			continue
		}
		for _, class := range []int{254, 255} {
			b := wantAlone(ty, class, 0, 0, "")
			if ty != 255 {
				expectNoMsg(t, b)
				continue
			}
			expectMsg(t, b, turned(update(labels()), func(m *impl.Msg) { m.Ups = []impl.Want{{Rr: emptyOf(labels("a"), ty), Class: class, Bare: true}} }))
			expectNoMsg(t, wantAlone(ty, class, 0, 1, "\x00"))
			expectNoMsg(t, wantAlone(ty, class, 0, 4, "\x00\x00\x00\x00"))
		}
	}
}

func TestNothingOfAQueryIsBare(t *testing.T) {
	for _, s := range sections() {
		if s.op == 5 {
			continue
		}
		for _, w := range goodWants() {
			m := query(labels(), 1)
			x := writer{}
			x.msg(m)
			copy(x.out[s.at:], "\x00\x01")
			x.want(w)
			if w.Class != 1 {
				expectNoMsg(t, x.out)
				continue
			}
			s.turn(&m, []impl.Rr{w.Rr})
			expectMsg(t, x.out, m)
		}
	}
}

func TestAllFlags(t *testing.T) {
	ask, up := bytesOfMsg(query(labels("a"), 6)), bytesOfMsg(update(labels("a")))
	for flags := range 65536 {
		op, code := flags/2048%16, flags%16
		if flags/16%64 != 0 || op != 0 && op != 5 || code > 10 {
			expectNoMsg(t, put(ask, 2, flags, 2))
			expectNoMsg(t, put(up, 2, flags, 2))
			continue
		}
		want := query(labels("a"), 6)
		want.Reply, want.Op, want.Auth, want.Code = flags >= 32768, op, flags/1024%2 == 1, code
		expectMsg(t, put(ask, 2, flags, 2), want)
		expectMsg(t, put(up, 2, flags, 2), want)
		if got, ok := impl.MsgBytes(want); !ok || !bytes.Equal(got, put(ask, 2, flags, 2)) {
			t.Fatalf("MsgBytes(%s) = %q, %v", toldMsg(want), got, ok)
		}
	}
}

func TestEachSpareBit(t *testing.T) {
	for _, m := range append(fewMsgs(), greatMsgs()...) {
		b := bytesOfMsg(m)
		for _, bit := range []int{16, 32, 64, 128, 256, 512} {
			expectNoMsg(t, put(b, 2, int(b[2])*256+int(b[3])+bit, 2))
		}
		expectMsg(t, b, m)
	}
}

func TestAllNumbersOfMessages(t *testing.T) {
	for id := range 65536 {
		m := query(labels("a"), 1)
		m.Id = id
		b, ok := impl.MsgBytes(m)
		if !ok {
			t.Fatal(id)
		}
		expectMsg(t, b, m)
	}
}

func TestWrongCounts(t *testing.T) {
	for _, m := range append(fewMsgs(), greatMsgs()...) {
		b := bytesOfMsg(m)
		for at := 4; at < 12; at += 2 {
			is := int(b[at])*256 + int(b[at+1])
			for n := range 65536 {
				if n != is && (n < 40 || n%251 == 0 || n > 65530) {
					expectNoMsg(t, put(b, at, n, 2))
				}
			}
		}
	}
}

// A count that is too small for one list and too great for the next one is right for both together.
func TestCountsSayWhichListARecordIsIn(t *testing.T) {
	m := fewMsgs()[2]
	all := slices.Concat(m.Answers, m.Auths, m.More)
	b := bytesOfMsg(m)
	for first := range len(all) + 1 {
		for second := range len(all) - first + 1 {
			x := put(put(put(b, 6, first, 2), 8, second, 2), 10, len(all)-first-second, 2)
			want := m
			want.Answers, want.Auths, want.More = all[:first], all[first:first+second], all[first+second:]
			expectMsg(t, x, want)
		}
	}
}

func TestMoreOfAnUpdateIsRefused(t *testing.T) {
	u := update(labels())
	u.Ups = inClass([]impl.Rr{{Type: 1, Addr: 1}, {Type: 1, Addr: 2}})
	b := bytesOfMsg(u)
	expectMsg(t, b, u)
	expectNoMsg(t, put(put(b, 8, 1, 2), 10, 1, 2))
	expectNoMsg(t, put(put(b, 8, 0, 2), 10, 2, 2))
	expectMsg(t, put(put(b, 6, 1, 2), 8, 1, 2), turned(u, func(m *impl.Msg) { m.Pres, m.Ups = u.Ups[:1], u.Ups[1:] }))
}

func TestTooManyRecordsAreNotRead(t *testing.T) {
	for _, s := range sections() {
		for n := 10; n <= 16; n++ {
			m := s.with(slices.Repeat([]impl.Rr{{Type: 16}}, n))
			if n <= 12 {
				expectMsg(t, bytesOfMsg(m), m)
			} else {
				expectNoMsg(t, bytesOfMsg(m))
			}
		}
	}
}

func TestQuestionsInBytes(t *testing.T) {
	base := bytesOfMsg(query(labels("a"), 1))
	for ty := range 65536 {
		b := put(base, 15, ty, 2)
		if slices.Contains(typeNumbers(), ty) || ty == 255 {
			expectMsg(t, b, query(labels("a"), ty))
		} else {
			expectNoMsg(t, b)
		}
		if up := put(bytesOfMsg(update(labels("a"))), 15, ty, 2); ty == 6 {
			expectMsg(t, up, update(labels("a")))
		} else {
			expectNoMsg(t, up)
		}
		if ty != 1 {
			expectNoMsg(t, put(base, 17, ty, 2))
		}
	}
	one := base[12:]
	expectNoMsg(t, put(base[:12], 4, 0, 2))
	expectNoMsg(t, put(append(bytes.Clone(base), one...), 4, 2, 2))
	expectNoMsg(t, base[:12])
}

func TestMessageCutOff(t *testing.T) {
	for _, m := range slices.Concat(fewMsgs(), greatMsgs(), goodQueries()[:40], goodUpdates()[:120]) {
		for _, w := range []writer{{}, {packing: true}} {
			b := w.msg(m)
			for size := range len(b) {
				expectNoMsg(t, b[:size:size])
				expectNoMsg(t, b[:size])
			}
			expectMsg(t, b, m)
		}
	}
	expectNoMsg(t, nil)
	expectNoMsg(t, []byte{})
}

func TestNothingStandsBehindAMessage(t *testing.T) {
	for _, m := range slices.Concat(fewMsgs(), goodQueries()[:40], goodUpdates()[:120]) {
		b := bytesOfMsg(m)
		for _, behind := range []string{"\x00", "\x01", "\xc0\x0c", "\x00\x00", "\x00\x00\x01\x00\x01\x00\x00\x00\x00\x00\x04\x00\x00\x00\x00", "\x00\x00\xff\x00\xff\x00\x00\x00\x00\x00\x00"} {
			expectNoMsg(t, append(bytes.Clone(b), behind...))
		}
		expectNoMsg(t, append(bytes.Clone(b), b...))
	}
}

// readWant says again what stands in an update at a place; false where there is nothing that may be.
func readWant(msg []byte, at int) (impl.Want, int, bool) {
	l, next, ok := readName(msg, at, 0)
	if !ok || len(msg)-next < 10 {
		return impl.Want{}, -1, false
	}
	ty, class := readNumber(msg[next:next+2]), readNumber(msg[next+2:next+4])
	ttl, size := readNumber(msg[next+4:next+8]), readNumber(msg[next+8:next+10])
	next += 10
	if size == 0 {
		_, known := typeTexts()[ty]
		w := impl.Want{Rr: emptyOf(labels(l...), ty), Class: class, Bare: true}
		return w, next, (known || ty == 255) && (class == 254 || class == 255) && ttl == 0
	}
	r, ok := readData(ty, msg, next, size)
	r.Name, r.Ttl = labels(l...), ttl
	return impl.Want{Rr: r, Class: class}, next + size, ok && (class == 1 && ttl <= 100000 || class == 254 && ttl == 0)
}

// readList reads so many records behind one another, in an update or not.
func readList(msg []byte, at int, n int, up bool) ([]impl.Want, int, bool) {
	var out []impl.Want
	for len(out) < n {
		w, next, ok := readWant(msg, at)
		if !ok || !up && w.Class != 1 {
			return nil, -1, false
		}
		out = append(out, w)
		at = next
	}
	return out, at, n <= 12
}

func recordsOf(l []impl.Want) []impl.Rr {
	var out []impl.Rr
	for _, w := range l {
		out = append(out, w.Rr)
	}
	return out
}

// readMsg says again what MsgRead does.
func readMsg(msg []byte) (impl.Msg, bool) {
	if len(msg) < 12 || len(msg) > 512 {
		return impl.Msg{}, false
	}
	var head [6]int
	for i := range head {
		head[i] = readNumber(msg[2*i : 2*i+2])
	}
	flags := fmt.Sprintf("%016b", head[1])
	m := impl.Msg{Id: head[0], Reply: flags[0] == '1', Op: head[1] / 2048 % 16, Auth: flags[5] == '1', Code: head[1] % 16}
	up := flags[1:5] == "0101"
	l, at, ok := readName(msg, 12, 0)
	if !ok || head[2] != 1 || flags[6:12] != "000000" || m.Code > 10 || !up && flags[1:5] != "0000" || len(msg)-at < 4 {
		return impl.Msg{}, false
	}
	ty := readNumber(msg[at : at+2])
	_, known := typeTexts()[ty]
	if readNumber(msg[at+2:at+4]) != 1 || !known && ty != 255 || up && (ty != 6 || head[5] != 0) {
		return impl.Msg{}, false
	}
	m.Qs = []impl.Question{{Name: labels(l...), Type: ty}}
	first, at, ok1 := readList(msg, at+4, head[3], up)
	second, at, ok2 := readList(msg, at, head[4], up)
	third, at, ok3 := readList(msg, at, head[5], up)
	if up {
		m.Pres, m.Ups = first, second
	} else {
		m.Answers, m.Auths, m.More = recordsOf(first), recordsOf(second), recordsOf(third)
	}
	if !ok1 || !ok2 || !ok3 || at != len(msg) || len(bytesOfMsg(m)) > 512 {
		return impl.Msg{}, false
	}
	return m, true
}

// checkMsg holds MsgRead to the other reader; what it read must come back once it is written.
func checkMsg(t *testing.T, b []byte) bool {
	t.Helper()
	want, ok := readMsg(b)
	if !ok {
		expectNoMsg(t, b)
		return false
	}
	expectMsg(t, b, want)
	got, _ := impl.MsgRead(b)
	flat, wrote := impl.MsgBytes(got)
	if !wrote || !impl.MsgOk(got) || !bytes.Equal(flat, bytesOfMsg(want)) {
		t.Errorf("what MsgRead(%q) read is written as %q, %v", b, flat, wrote)
	}
	expectMsg(t, flat, got)
	return true
}

func TestMessagesOneByteAway(t *testing.T) {
	found := 0
	for _, m := range fewMsgs() {
		w := writer{packing: true}
		for _, b := range changedTexts(w.msg(m)) {
			if checkMsg(t, b) {
				found++
			}
		}
		if t.Failed() {
			return
		}
	}
	if found < 1000 {
		t.Error("too few messages were found:", found)
	}
}

// appendMsg makes a message that is wrong now and then.
func (m *mixer) appendMsg() []byte {
	up := m.below(2) == 0
	flags := m.of(0, 0, 0, 32768, 1024, 32768+1024+3, 10, 10, 15, 16)
	ty := m.of(1, 2, 5, 6, 12, 16, 49, 255)
	if up {
		flags += 2048 * 5
		ty = m.of(6, 6, 6, 6, 6, 6, 6, 1)
	}
	counts := []int{m.below(3), m.below(3), 0}
	if !up {
		counts[2] = m.below(3)
	}
	var msg []byte
	for _, n := range []int{m.below(65536), flags, m.of(1, 1, 1, 1, 1, 1, 1, 1, 0, 2)} {
		msg = append(msg, highestFirst(n, 2)...)
	}
	for _, n := range counts {
		msg = append(msg, highestFirst(max(0, n+m.of(0, 0, 0, 0, 0, 0, 0, 0, 0, 0, 0, 1, -1)), 2)...)
	}
	msg = m.appendName(msg)
	msg = append(msg, highestFirst(ty, 2)...)
	msg = append(msg, 0, 1)
	for range counts[0] + counts[1] + counts[2] {
		msg = m.appendWant(msg, up)
	}
	return msg
}

// appendWant puts a record behind a message that may be bare if it is an update.
func (m *mixer) appendWant(msg []byte, up bool) []byte {
	ty, class, ttl := m.of(typeNumbers()...), 1, m.of(0, 60, 100000)
	if up && m.below(2) == 0 {
		class, ttl = m.of(254, 255, 254, 254, 1), m.of(0, 0, 0, 0, 0, 0, 0, 60)
	}
	bare := up && class != 1 && m.below(2) == 0
	if bare && m.below(3) == 0 {
		ty = 255
	}
	msg = m.appendName(msg)
	msg = append(msg, highestFirst(ty, 2)...)
	msg = append(msg, highestFirst(class, 2)...)
	msg = append(msg, highestFirst(ttl, 4)...)
	at := len(msg)
	msg = append(msg, 0, 0)
	if !bare {
		msg = m.data(ty, msg)
	}
	copy(msg[at:], highestFirst(len(msg)-at-2, 2))
	return msg
}

func TestMixedWholeMessages(t *testing.T) {
	m := mixer(11)
	queries, updates := 0, 0
	for range 40000 {
		b := m.appendMsg()
		if checkMsg(t, b) && b[2]&8 != 0 {
			updates++
		} else if _, ok := readMsg(b); ok {
			queries++
		}
		if t.Failed() {
			return
		}
	}
	if queries < 1000 || updates < 1000 {
		t.Error("too few messages were found:", queries, updates)
	}
}

func TestReplyTo(t *testing.T) {
	for i, m := range goodMsgs() {
		for code := range 11 {
			if i > 200 && code != i%11 {
				continue
			}
			got := impl.ReplyTo(m, code)
			want := impl.Msg{Id: m.Id, Reply: true, Op: m.Op, Code: code, Qs: m.Qs}
			if toldMsg(got) != toldMsg(want) || !impl.MsgOk(got) {
				t.Fatalf("ReplyTo(%s, %d) = %s", toldMsg(m), code, toldMsg(got))
			}
		}
	}
	for _, m := range fewMsgs() {
		for _, code := range []int{-1, -2, 11, 12, 15, 16, 255, 65536, 1 << 32, math.MaxInt, math.MinInt} {
			if got := impl.ReplyTo(m, code); !isZeroMsg(got) {
				t.Errorf("ReplyTo(%s, %d) = %s", toldMsg(m), code, toldMsg(got))
			}
		}
	}
	for _, m := range badMsgs() {
		for _, code := range []int{0, 3, 10, 11, -1} {
			if got := impl.ReplyTo(m, code); !isZeroMsg(got) {
				t.Errorf("ReplyTo(%s, %d) = %s", toldMsg(m), code, toldMsg(got))
			}
		}
	}
}

func TestMsgText(t *testing.T) {
	few := fewMsgs()
	for want, m := range map[string]impl.Msg{
		"ask 0 .\n":                 few[0],
		"ask 0 pc.home.\n":          few[1],
		"ask 0 home.\n":             few[4],
		"reply 10 pc.home.\n":       {Reply: true, Auth: true, Code: 10, Qs: few[1].Qs},
		"ask 5 pc.home.\n":          {Code: 5, Qs: few[1].Qs},
		"reply 0 .\n":               {Reply: true, Op: 5, Qs: update(labels()).Qs, Ups: few[4].Ups},
		"ask 0 .\nmore a. 5 TXT \n": turned(query(labels(), 1), func(m *impl.Msg) { m.More = []impl.Rr{{Name: labels("a"), Type: 16, Ttl: 5}} }),
		"reply 3 pc.home.\nanswer pc.home. 60 A 10.0.0.3\nanswer pc.home. 60 NS ns.home.\nauth pc.home. 60 SOA home. 7 30\nmore pc.home. 60 TXT 4869\n": few[2],
	} {
		if got := impl.MsgText(m); string(got) != want {
			t.Errorf("MsgText(%s) = %q, want %q", toldMsg(m), got, want)
		}
	}
	for _, m := range badMsgs() {
		if got := impl.MsgText(m); len(got) != 0 {
			t.Errorf("MsgText(%s) = %q", toldMsg(m), got)
		}
	}
}

func linesOf(word string, l []impl.Rr) string {
	out := ""
	for _, r := range l {
		out += word + " " + string(impl.RrText(r)) + "\n"
	}
	return out
}

func TestTextsOfAllMessages(t *testing.T) {
	for _, m := range goodMsgs() {
		word := "ask"
		if m.Reply {
			word = "reply"
		}
		want := word + " " + strconv.Itoa(m.Code) + " " + wordsOfName(m.Qs[0].Name) + "\n" +
			linesOf("answer", m.Answers) + linesOf("auth", m.Auths) + linesOf("more", m.More)
		if got := impl.MsgText(m); string(got) != want {
			t.Fatalf("MsgText(%s) = %q, want %q", toldMsg(m), got, want)
		}
	}
}

// roomy has each thing of a list with spare room, and behind them some that are none of the list's.
func roomy[T any](l []T, one func(T) T, spare T) []T {
	var out []T
	for _, x := range l {
		out = append(out, one(x))
	}
	return append(out, spare, spare)[:len(l)]
}

func roomyMsg(m impl.Msg) impl.Msg {
	want := func(w impl.Want) impl.Want { return impl.Want{Rr: roomyRr(w.Rr), Class: w.Class, Bare: w.Bare} }
	question := func(q impl.Question) impl.Question { return impl.Question{Name: roomyName(q.Name), Type: q.Type} }
	spare := impl.Rr{Type: 1, Addr: 77}
	m.Qs = roomy(m.Qs, question, impl.Question{Type: 16})
	m.Answers, m.Auths, m.More = roomy(m.Answers, roomyRr, spare), roomy(m.Auths, roomyRr, spare), roomy(m.More, roomyRr, spare)
	m.Pres, m.Ups = roomy(m.Pres, want, impl.Want{Rr: spare, Class: 1}), roomy(m.Ups, want, impl.Want{Rr: spare, Class: 1})
	return m
}

// whole has the spare room of a list as part of it.
func whole[T any](l []T) []T {
	return l[:cap(l)]
}

// namesOf are all names that a message holds, in the spare room, too.
func namesOf(m impl.Msg) []impl.Name {
	var out []impl.Name
	for _, q := range whole(m.Qs) {
		out = append(out, q.Name)
	}
	for _, r := range allRecords(m) {
		out = append(out, r.Name, r.To)
	}
	return out
}

func allRecords(m impl.Msg) []impl.Rr {
	return slices.Concat(whole(m.Answers), whole(m.Auths), whole(m.More), recordsOf(whole(m.Pres)), recordsOf(whole(m.Ups)))
}

// wholeMsg tells all that a message holds, the spare room, too.
func wholeMsg(m impl.Msg) string {
	w := m
	w.Qs, w.Answers, w.Auths, w.More, w.Pres, w.Ups = whole(m.Qs), whole(m.Answers), whole(m.Auths), whole(m.More), whole(m.Pres), whole(m.Ups)
	return toldMsg(w) + toldAll(namesOf(m), wholeName) + toldAll(allRecords(m), wholeRr)
}

func scribbleList[T any](l []T, turned T) {
	l = whole(l)
	for i := range l {
		l[i] = turned
	}
}

func scribbleMsg(m impl.Msg) {
	for _, n := range namesOf(m) {
		scribbleName(n)
	}
	for _, r := range allRecords(m) {
		scribble(r.Text)
		scribbleList(r.Nums, 99)
	}
	scribbleOuter(m)
}

func scribbleOuter(m impl.Msg) {
	for _, turn := range outerLists(m) {
		turn()
	}
}

// outerLists turn one of the six lists of a message each.
func outerLists(m impl.Msg) []func() {
	other := impl.Rr{Name: labels("turned"), Type: 1, Ttl: 99}
	return []func(){
		func() { scribbleList(m.Qs, impl.Question{Name: labels("turned"), Type: 99}) },
		func() { scribbleList(m.Answers, other) },
		func() { scribbleList(m.Auths, other) },
		func() { scribbleList(m.More, other) },
		func() { scribbleList(m.Pres, impl.Want{Rr: other}) },
		func() { scribbleList(m.Ups, impl.Want{Rr: other}) },
	}
}

func toldLists(m impl.Msg) []string {
	return []string{toldAll(m.Qs, toldQuestion), toldAll(m.Answers, toldRr), toldAll(m.Auths, toldRr), toldAll(m.More, toldRr), toldAll(m.Pres, toldWant), toldAll(m.Ups, toldWant)}
}

// checkMsgApart turns one list of a message after the other and looks at those that were not turned.
func checkMsgApart(t *testing.T, call string, m impl.Msg) {
	t.Helper()
	names := namesOf(m)
	var texts [][]byte
	for _, n := range names {
		texts = append(texts, slices.Clone(n.L)...)
	}
	var nums [][]int
	for _, r := range allRecords(m) {
		texts, nums = append(texts, r.Text), append(nums, r.Nums)
	}
	for i, turn := range outerLists(m) {
		before := toldLists(m)
		turn()
		for k, l := range toldLists(m) {
			if k != i && l != before[k] {
				t.Fatalf("%s: two lists share memory", call)
			}
		}
	}
	for i, n := range names {
		rest := toldAll(names[i+1:], told)
		scribbleList(n.L, []byte("turned"))
		if toldAll(names[i+1:], told) != rest {
			t.Fatalf("%s: two names share memory", call)
		}
	}
	for i, l := range nums {
		rest := fmt.Sprint(nums[i+1:])
		scribbleList(l, 99)
		if fmt.Sprint(nums[i+1:]) != rest {
			t.Fatalf("%s: two lists of numbers share memory", call)
		}
	}
	checkLabelsApart(t, call, impl.Name{L: texts})
}

// msgCalls are calls of every function of the chapter; each gives the message and the bytes that it answers.
func msgCalls() map[string]func(m impl.Msg, b []byte) (impl.Msg, []byte) {
	type answer = func(m impl.Msg, b []byte) (impl.Msg, []byte)
	return map[string]answer{
		"WantOk": func(m impl.Msg, b []byte) (impl.Msg, []byte) {
			for _, w := range slices.Concat(m.Pres, m.Ups) {
				impl.WantOk(w)
			}
			return impl.Msg{}, nil
		},
		"MsgOk":           func(m impl.Msg, b []byte) (impl.Msg, []byte) { impl.MsgOk(m); return impl.Msg{}, nil },
		"MsgBytes":        func(m impl.Msg, b []byte) (impl.Msg, []byte) { l, _ := impl.MsgBytes(m); return impl.Msg{}, l },
		"MsgText":         func(m impl.Msg, b []byte) (impl.Msg, []byte) { return impl.Msg{}, impl.MsgText(m) },
		"MsgRead":         func(m impl.Msg, b []byte) (impl.Msg, []byte) { x, _ := impl.MsgRead(b); return x, nil },
		"ReplyTo":         func(m impl.Msg, b []byte) (impl.Msg, []byte) { return impl.ReplyTo(m, 3), nil },
		"ReplyTo refuses": func(m impl.Msg, b []byte) (impl.Msg, []byte) { return impl.ReplyTo(m, 11), nil },
	}
}

func TestMessageAnswersAreNewMemory(t *testing.T) {
	plain := slices.Concat(fewMsgs(), greatMsgs(), goodQueries()[:10])
	for _, m := range badMsgs() {
		if len(m.Qs) == 1 && len(m.Answers)+len(m.Auths)+len(m.More) < 20 && len(plain) < 400 {
			plain = append(plain, m)
		}
	}
	for call, run := range msgCalls() {
		for _, m := range plain {
			for _, w := range []writer{{}, {packing: true, great: true}} {
				b := w.msg(fewMsgs()[2])
				if impl.MsgOk(m) {
					w = writer{packing: w.packing}
					b = w.msg(m)
				}
				checkMsgMemory(t, call, run, m, string(b))
			}
		}
	}
}

func checkMsgMemory(t *testing.T, call string, run func(impl.Msg, []byte) (impl.Msg, []byte), plain impl.Msg, text string) {
	t.Helper()
	m := roomyMsg(plain)
	room := append([]byte(text), "SPAREROOM"...)
	b := room[:len(text)]
	before := wholeMsg(m) + string(room)
	first, firstBytes := run(m, b)
	second, secondBytes := run(m, b)
	if wholeMsg(m)+string(room) != before {
		t.Fatalf("%s of %s and %q wrote into an argument", call, toldMsg(plain), text)
	}
	want := toldMsg(second) + string(secondBytes)
	scribbleMsg(first)
	scribble(firstBytes)
	if wholeMsg(m)+string(room) != before || toldMsg(second)+string(secondBytes) != want {
		t.Fatalf("%s of %s and %q shares memory", call, toldMsg(plain), text)
	}
	scribbleMsg(m)
	scribble(room)
	if toldMsg(second)+string(secondBytes) != want {
		t.Fatalf("%s of %s and %q keeps its argument", call, toldMsg(plain), text)
	}
	checkMsgApart(t, call, second)
}

func TestSpareRoomOfMessagesIsNotRead(t *testing.T) {
	for _, plain := range append(fewMsgs(), greatMsgs()...) {
		m := roomyMsg(plain)
		b, ok := impl.MsgBytes(m)
		if !ok || !impl.MsgOk(m) || !bytes.Equal(b, bytesOfMsg(plain)) {
			t.Errorf("%s is not %s", toldMsg(m), toldMsg(plain))
		}
		if !bytes.Equal(impl.MsgText(m), impl.MsgText(plain)) || toldMsg(impl.ReplyTo(m, 3)) != toldMsg(impl.ReplyTo(plain, 3)) {
			t.Errorf("%s is not %s", toldMsg(m), toldMsg(plain))
		}
		room := append(bytes.Clone(b), b...)
		expectMsg(t, room[:len(b)], plain)
	}
}
