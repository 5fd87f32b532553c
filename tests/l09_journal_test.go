package tests

import (
	"bytes"
	"fmt"
	"math"
	"reflect"
	"slices"
	"strings"
	"testing"

	"loop.example/g00422/impl"
)

func txUpdate(m impl.Msg) impl.Txn {
	return impl.Txn{Kind: 0, Msg: m}
}

// txUps is an update of home. by these changes.
func txUps(texts ...string) impl.Txn {
	return txUpdate(upsOf(texts...))
}

// txPres is an update that asks for something, and would do something else.
func txPres(texts ...string) impl.Txn {
	out := txUps("+ no.home. 9 A 3")
	out.Msg.Pres = wishes(texts...)
	return out
}

// txBind makes one of the words that a lease has.
func txBind(text string) impl.Txn {
	l := lease(text)
	return impl.Txn{Kind: 1, Ip: l.Ip, Client: l.Client, Host: l.Host, When: l.Until}
}

func txRelease(last int, client string) impl.Txn {
	return impl.Txn{Kind: 2, Ip: subnet + last, Client: []byte(client)}
}

func txTick(when int) impl.Txn {
	return impl.Txn{Kind: 3, When: when}
}

func toldTxn(x impl.Txn) string {
	return fmt.Sprintf("{kind %d msg %s ip %d client %q host %q when %d}", x.Kind, toldMsg(x.Msg), x.Ip, x.Client, x.Host, x.When)
}

func isZeroTxn(x impl.Txn) bool {
	return toldTxn(x) == toldTxn(impl.Txn{})
}

func toldJournal(j impl.Journal) string {
	return fmt.Sprintf("{base %s txns %s safe %d}", toldHouse(j.Base), toldAll(j.Txns, toldTxn), j.Safe)
}

func isZeroJournal(j impl.Journal) bool {
	return toldJournal(j) == toldJournal(impl.Journal{})
}

// wrote is a journal over a house, with so many of its transactions safe.
func wrote(h impl.House, safe int, l ...impl.Txn) impl.Journal {
	return impl.Journal{Base: h, Txns: l, Safe: safe}
}

// txnMay says again what TxnOk does, but for what MsgOk asks.
func txnMay(x impl.Txn) bool {
	last, client := x.Ip-subnet, len(x.Client)
	address := last >= 1 && last <= 254 && client >= 1 && client <= 16 && isZeroMsg(x.Msg)
	switch x.Kind {
	case 0:
		return impl.MsgOk(x.Msg) && x.Msg.Op == 5 && !x.Msg.Reply && x.Ip == 0 && client+len(x.Host) == 0 && x.When == 0
	case 1:
		return address && len(x.Host) <= 15 && labelForm.Match(x.Host) && x.When >= 0 && x.When <= 2000000
	case 2:
		return address && len(x.Host) == 0 && x.When == 0
	case 3:
		return isZeroMsg(x.Msg) && x.Ip == 0 && client+len(x.Host) == 0 && x.When >= 0 && x.When <= 1000000
	}
	return false
}

// bytesOfTxn says again how a transaction stands in bytes.
func bytesOfTxn(x impl.Txn) []byte {
	w := writer{}
	text := func(b []byte) {
		w.number(len(b), 1)
		w.out = append(w.out, b...)
	}
	w.number(x.Kind, 1)
	switch x.Kind {
	case 0:
		return append(w.out, bytesOfMsg(x.Msg)...)
	case 1:
		w.number(x.Ip, 4)
		text(x.Client)
		text(x.Host)
		w.number(x.When, 4)
	case 2:
		w.number(x.Ip, 4)
		text(x.Client)
	case 3:
		w.number(x.When, 4)
	}
	return w.out
}

// readTxn says again what TxnRead does.
func readTxn(b []byte) (impl.Txn, bool) {
	if len(b) == 0 {
		return impl.Txn{}, false
	}
	x, rest, ok := impl.Txn{Kind: int(b[0])}, b[1:], true
	take := func(n int) []byte {
		if n > len(rest) {
			ok, n = false, len(rest)
		}
		out := rest[:n]
		rest = rest[n:]
		return out
	}
	number := func(n int) int { return readNumber(take(n)) }
	switch x.Kind {
	case 0:
		x.Msg, ok = readMsg(rest)
		ok = ok && bytes.Equal(bytesOfMsg(x.Msg), rest)
		rest = nil
	case 1:
		x.Ip = number(4)
		x.Client = take(number(1))
		x.Host = take(number(1))
		x.When = number(4)
	case 2:
		x.Ip = number(4)
		x.Client = take(number(1))
	case 3:
		x.When = number(4)
	}
	if !ok || len(rest) > 0 || !txnMay(x) {
		return impl.Txn{}, false
	}
	return x, true
}

// expectTxn holds all that is said of one transaction to whether it may be.
func expectTxn(t *testing.T, why string, x impl.Txn, may bool) {
	t.Helper()
	b, wrote := impl.TxnBytes(x)
	if impl.TxnOk(x) != may || txnMay(x) != may || wrote != may {
		t.Fatalf("%s: TxnOk of %s = %v, %v, TxnBytes %v", why, toldTxn(x), impl.TxnOk(x), txnMay(x), wrote)
	}
	if !may {
		if len(b) != 0 {
			t.Fatalf("%s: TxnBytes of %s = %q", why, toldTxn(x), b)
		}
		return
	}
	if !bytes.Equal(b, bytesOfTxn(x)) {
		t.Fatalf("%s: TxnBytes of %s = %q, want %q", why, toldTxn(x), b, bytesOfTxn(x))
	}
	expectRead(t, b, x)
}

func expectRead(t *testing.T, b []byte, want impl.Txn) {
	t.Helper()
	if x, ok := impl.TxnRead(b); !ok || toldTxn(x) != toldTxn(want) || !impl.TxnOk(x) {
		t.Fatalf("TxnRead(%q) = %s, %v, want %s", b, toldTxn(x), ok, toldTxn(want))
	}
}

func expectNotRead(t *testing.T, b []byte) {
	t.Helper()
	if x, ok := impl.TxnRead(b); ok || !isZeroTxn(x) {
		t.Fatalf("TxnRead(%q) = %s, %v", b, toldTxn(x), ok)
	}
}

// checkRead holds TxnRead to the other reader; what it read is written as it stood.
func checkRead(t *testing.T, b []byte) bool {
	t.Helper()
	want, ok := readTxn(b)
	if !ok {
		expectNotRead(t, b)
		return false
	}
	expectRead(t, b, want)
	x, _ := impl.TxnRead(b)
	if again, wrote := impl.TxnBytes(x); !wrote || !bytes.Equal(again, b) {
		t.Fatalf("what TxnRead(%q) read is written as %q, %v", b, again, wrote)
	}
	return true
}

func TestJournalLimits(t *testing.T) {
	kinds := []int{impl.TxUpdate, impl.TxBind, impl.TxRelease, impl.TxTick}
	if impl.MaxTxns != 60 || !slices.Equal(kinds, []int{0, 1, 2, 3}) {
		t.Error(impl.MaxTxns, kinds)
	}
}

// fewTxns has a transaction of each kind.
func fewTxns() []impl.Txn {
	return []impl.Txn{txUpdate(fewMsgs()[4]), txUps("+ no.home. 9 A 3", "any old.home. ANY"), txBind("3 m1 pc 20"), txRelease(3, "m1"), txTick(5)}
}

func goodUpdateTxns() []impl.Txn {
	var out []impl.Txn
	for _, m := range slices.Concat(goodUpdates(), greatMsgs()) {
		if m.Op == 5 && !m.Reply {
			out = append(out, txUpdate(m))
		}
	}
	for _, turn := range []func(m *impl.Msg){
		func(m *impl.Msg) { m.Id = 0 }, func(m *impl.Msg) { m.Id = 65535 }, func(m *impl.Msg) { m.Auth = true }, func(m *impl.Msg) { m.Code = 10 },
		func(m *impl.Msg) { m.Answers, m.Auths, m.More = []impl.Rr{}, []impl.Rr{}, []impl.Rr{} },
	} {
		out = append(out, txUpdate(turned(upsOf("+ no.home. 9 A 3"), turn)))
	}
	empty := txUpdate(update(named("home.")))
	empty.Client, empty.Host = []byte{}, []byte{}
	return append(out, empty)
}

func goodTxns() []impl.Txn {
	out := goodUpdateTxns()
	for _, last := range []int{1, 2, 127, 128, 253, 254} {
		for _, client := range []string{"m", "\x00", "\xff\x03", "0123456789abcdef", strings.Repeat("\x00", 16), strings.Repeat("\xff", 15)} {
			out = append(out, txRelease(last, client))
			for _, host := range []string{"a", "-", "0", "pc", "abcdefghijklmno", "---------------"} {
				for _, when := range []int{0, 1, 255, 256, 65535, 65536, 999999, 1000000, 1000001, 1999999, 2000000} {
					out = append(out, impl.Txn{Kind: 1, Ip: subnet + last, Client: []byte(client), Host: []byte(host), When: when})
				}
			}
		}
	}
	for _, when := range []int{0, 1, 255, 256, 65535, 65536, 999999, 1000000} {
		out = append(out, txTick(when))
	}
	empty := txTick(7)
	empty.Client, empty.Host, empty.Msg.Qs, empty.Msg.Ups = []byte{}, []byte{}, []impl.Question{}, []impl.Want{}
	release := txRelease(3, "m1")
	release.Host = []byte{}
	return append(out, empty, release)
}

func TestTransactionsThatMayBe(t *testing.T) {
	for _, x := range goodTxns() {
		expectTxn(t, "good", x, true)
	}
}

// strayFields turn one field each, and say which kinds must have it zero.
func strayFields() map[string]struct {
	kinds []int
	turn  func(x *impl.Txn)
} {
	type stray = struct {
		kinds []int
		turn  func(x *impl.Txn)
	}
	out := map[string]stray{
		"Client": {[]int{0, 3}, func(x *impl.Txn) { x.Client = []byte("m1") }},
		"a 0":    {[]int{0, 3}, func(x *impl.Txn) { x.Client = []byte{0} }},
		"Host":   {[]int{0, 2, 3}, func(x *impl.Txn) { x.Host = []byte("pc") }},
		"H":      {[]int{0, 2, 3}, func(x *impl.Txn) { x.Host = []byte{0} }},
	}
	for _, ip := range []int{1, -1, subnet, subnet + 3, 1 << 32, math.MaxInt, math.MinInt} {
		out[fmt.Sprint("Ip ", ip)] = stray{[]int{0, 3}, func(x *impl.Txn) { x.Ip = ip }}
	}
	for _, when := range []int{1, -1, 20, 1000000, 1 << 32, math.MaxInt, math.MinInt} {
		out[fmt.Sprint("When ", when)] = stray{[]int{0, 2}, func(x *impl.Txn) { x.When = when }}
	}
	for why, turn := range map[string]func(m *impl.Msg){
		"Id": func(m *impl.Msg) { m.Id = 1 }, "Reply": func(m *impl.Msg) { m.Reply = true }, "Op": func(m *impl.Msg) { m.Op = 5 }, "Auth": func(m *impl.Msg) { m.Auth = true }, "Code": func(m *impl.Msg) { m.Code = 1 },
		"-Id": func(m *impl.Msg) { m.Id = -1 }, "-Op": func(m *impl.Msg) { m.Op = -1 }, "-Code": func(m *impl.Msg) { m.Code = -1 },
		"Qs": func(m *impl.Msg) { m.Qs = make([]impl.Question, 1) }, "Answers": func(m *impl.Msg) { m.Answers = make([]impl.Rr, 1) }, "Auths": func(m *impl.Msg) { m.Auths = make([]impl.Rr, 1) },
		"More": func(m *impl.Msg) { m.More = make([]impl.Rr, 1) }, "Pres": func(m *impl.Msg) { m.Pres = make([]impl.Want, 1) }, "Ups": func(m *impl.Msg) { m.Ups = make([]impl.Want, 1) },
		"all": func(m *impl.Msg) { *m = upsOf("+ no.home. 9 A 3") }, "a query": func(m *impl.Msg) { *m = query(named("home."), 6) },
	} {
		out["Msg: "+why] = stray{[]int{1, 2, 3}, func(x *impl.Txn) { turn(&x.Msg) }}
	}
	return out
}

// wrongFields are outside the limits of their kind.
func wrongFields() map[string]impl.Txn {
	out := map[string]impl.Txn{}
	add := func(why string, x impl.Txn, turn func(x *impl.Txn)) {
		turn(&x)
		out[fmt.Sprintf("kind %d: %s", x.Kind, why)] = x
	}
	bind, release := txBind("3 m1 pc 20"), txRelease(3, "m1")
	for _, ip := range []int{subnet, subnet - 1, subnet + 255, subnet + 256, subnet + 65536 + 3, 0, 3, -1, -subnet - 3, 1<<32 + subnet + 3, math.MaxInt, math.MinInt} {
		for _, x := range []impl.Txn{bind, release} {
			add(fmt.Sprint("Ip ", ip), x, func(x *impl.Txn) { x.Ip = ip })
		}
	}
	for _, size := range []int{0, 17, 18, 256, 257, 272, 4096} {
		for _, x := range []impl.Txn{bind, release} {
			add(fmt.Sprint("Client of ", size), x, func(x *impl.Txn) { x.Client = make([]byte, size) })
		}
		if size != 0 {
			add(fmt.Sprint("Host of ", size), bind, func(x *impl.Txn) { x.Host = bytes.Repeat([]byte{'a'}, size) })
		}
	}
	for _, host := range []string{"", "abcdefghijklmnop", "Pc", "p.c", "pc.", ".", "p c", "p_c", "pc\x00", "\u00e4", strings.Repeat("a", 258)} {
		add(fmt.Sprintf("Host %q", host), bind, func(x *impl.Txn) { x.Host = []byte(host) })
	}
	for _, when := range []int{-1, -20, 2000001, 3000000, 1 << 32, 1<<32 + 20, math.MaxInt, math.MinInt} {
		add(fmt.Sprint("When ", when), bind, func(x *impl.Txn) { x.When = when })
		add(fmt.Sprint("When ", when), txTick(0), func(x *impl.Txn) { x.When = when })
	}
	for _, when := range []int{1000001, 2000000} {
		add(fmt.Sprint("When ", when), txTick(0), func(x *impl.Txn) { x.When = when })
	}
	good := upsOf("+ no.home. 9 A 3")
	for why, m := range map[string]impl.Msg{
		"no message": {}, "a reply": turned(good, func(m *impl.Msg) { m.Reply = true }), "a query": query(named("home."), 6), "no question": turned(good, func(m *impl.Msg) { m.Qs = nil }),
		"answers": turned(good, func(m *impl.Msg) { m.Answers = recs("no.home. 9 A 3") }), "Id": turned(good, func(m *impl.Msg) { m.Id = 65536 }), "Code": turned(good, func(m *impl.Msg) { m.Code = 11 }),
		"too many": turned(good, func(m *impl.Msg) { m.Ups = slices.Repeat(m.Ups, 13) }), "too long": sections()[4].with(filling(513 - headSize)),
	} {
		out[why] = txUpdate(m)
	}
	return out
}

func badTxns() map[string]impl.Txn {
	out := wrongFields()
	good := []impl.Txn{txUps("+ no.home. 9 A 3"), txBind("3 m1 pc 20"), txRelease(3, "m1"), txTick(5)}
	for why, s := range strayFields() {
		for _, kind := range s.kinds {
			x := good[kind]
			s.turn(&x)
			out[fmt.Sprintf("kind %d with %s", kind, why)] = x
		}
	}
	for i, x := range append(good, impl.Txn{}) {
		for _, kind := range []int{-1, -3, 4, 5, 49, 255, 256, 257, 258, 259, 1 << 32, 1<<32 + 1, 1<<32 + 3, math.MaxInt, math.MinInt} {
			x.Kind = kind
			out[fmt.Sprintf("%d as kind %d", i, kind)] = x
		}
		for kind := range 4 {
			if x.Kind = kind; kind != i && (i < 4 || kind < 3) {
				out[fmt.Sprintf("%d as kind %d", i, kind)] = x
			}
		}
	}
	return out
}

func TestTransactionsThatMayNotBe(t *testing.T) {
	for why, x := range badTxns() {
		expectTxn(t, why, x, false)
	}
	for _, m := range noUpdates() {
		expectTxn(t, "no update", txUpdate(m), false)
	}
}

// Each moment that the limits name, for each kind.
func TestMomentsOfTransactions(t *testing.T) {
	for kind, most := range []int{0, 2000000, 0, 1000000} {
		for _, when := range []int{math.MinInt, -1, 0, 1, 1000000, 1000001, 2000000, 2000001, math.MaxInt} {
			x := []impl.Txn{txUps("+ no.home. 9 A 3"), txBind("3 m1 pc 20"), txRelease(3, "m1"), txTick(5)}[kind]
			x.When = when
			expectTxn(t, "When", x, when >= 0 && when <= most)
		}
	}
}

func TestLimitsOfTransactions(t *testing.T) {
	for last := -2; last < 258; last++ {
		for _, x := range []impl.Txn{txBind("3 m1 pc 20"), txRelease(3, "m1")} {
			x.Ip = subnet + last
			expectTxn(t, "Ip", x, last >= 1 && last <= 254)
		}
	}
	for size := range 20 {
		for _, x := range []impl.Txn{txBind("3 m1 pc 20"), txRelease(3, "m1")} {
			x.Client = mixedText(size)
			expectTxn(t, "Client", x, size >= 1 && size <= 16)
		}
		x := txBind("3 m1 pc 20")
		x.Host = bytes.Repeat([]byte{'z'}, size)
		expectTxn(t, "Host", x, size >= 1 && size <= 15)
	}
	for c := range 256 {
		x := txBind("3 m1 pc 20")
		x.Host = []byte{'a', byte(c)}
		expectTxn(t, "Host", x, c >= 'a' && c <= 'z' || c >= '0' && c <= '9' || c == '-')
		x = txBind("3 m1 pc 20")
		x.Client = []byte{byte(c)}
		expectTxn(t, "Client", x, true)
	}
}

func TestTransactionsStandInBytes(t *testing.T) {
	long := impl.Txn{Kind: 1, Ip: subnet + 254, Client: []byte("0123456789abcdef"), Host: []byte("abcdefghijklmno"), When: 2000000}
	for b, x := range map[string]impl.Txn{
		"\x01\x0a\x00\x00\x03\x02m1\x02pc\x00\x00\x00\x14":                                 txBind("3 m1 pc 20"),
		"\x01\x0a\x00\x00\xfe\x100123456789abcdef\x0fabcdefghijklmno\x00\x1e\x84\x80":      long,
		"\x02\x0a\x00\x00\x03\x02m1":                                                       txRelease(3, "m1"),
		"\x03\x00\x00\x00\x00":                                                             txTick(0),
		"\x03\x00\x0f\x42\x40":                                                             txTick(1000000),
		"\x00\x00\x05\x28\x00\x00\x01\x00\x00\x00\x00\x00\x00\x04home\x00\x00\x06\x00\x01": txUps(),
	} {
		got, ok := impl.TxnBytes(x)
		if string(got) != b || !ok {
			t.Errorf("TxnBytes(%s) = %q, %v, want %q", toldTxn(x), got, ok, b)
		}
		expectRead(t, []byte(b), x)
	}
}

// Two transactions that are not alike have bytes that are not alike.
func TestTransactionsAreToldApartByTheirBytes(t *testing.T) {
	seen := map[string]string{}
	for _, x := range goodTxns() {
		b, _ := impl.TxnBytes(x)
		if other, had := seen[string(b)]; had && other != toldTxn(x) {
			t.Fatalf("%s and %s have the bytes %q", other, toldTxn(x), b)
		}
		seen[string(b)] = toldTxn(x)
	}
}

func TestTransactionCutOff(t *testing.T) {
	l := append(fewTxns(), goodUpdateTxns()[:40]...)
	l = append(l, txBind("254 0123456789abcdef abcdefghijklmno 2000000"), txBind("1 m a 0"), txRelease(254, "0123456789abcdef"), txTick(0))
	for _, x := range l {
		b := bytesOfTxn(x)
		for size := range len(b) {
			expectNotRead(t, b[:size:size])
			expectNotRead(t, b[:size])
		}
		expectRead(t, b, x)
		for c := range 256 {
			expectNotRead(t, append(bytes.Clone(b), byte(c)))
		}
		expectNotRead(t, append(bytes.Clone(b), b...))
		expectNotRead(t, append(bytes.Clone(b), make([]byte, 100000)...))
		expectNotRead(t, append([]byte{b[0]}, b...))
		expectNotRead(t, b[1:])
	}
	expectNotRead(t, nil)
	expectNotRead(t, []byte{})
	for c := range 256 {
		expectNotRead(t, []byte{byte(c)})
	}
}

func TestLengthsThatDoNotFit(t *testing.T) {
	ip, when := "\x0a\x00\x00\x03", "\x00\x00\x00\x14"
	for _, b := range []string{
		"\x01" + ip + "\x00\x02pc" + when, "\x01" + ip + "\x02m1\x00" + when, "\x01" + ip + "\x00\x00" + when,
		"\x01" + ip + "\x01m1\x02pc" + when, "\x01" + ip + "\x03m1\x02pc" + when, "\x01" + ip + "\x02m1\x01pc" + when, "\x01" + ip + "\x02m1\x03pc" + when, "\x01" + ip + "\x02m1\x06pc" + when,
		"\x01" + ip + "\x02m1\xffpc" + when, "\x01" + ip + "\xffm1\x02pc" + when, "\x01" + ip + "\x09m1\x02pc" + when, "\x01" + ip + "\x05m1\x02pc" + when,
		"\x01" + ip + "\x110123456789abcdefg\x02pc" + when, "\x01" + ip + "\x02m1\x10abcdefghijklmnop" + when, "\x01" + ip + "\x02m1\x02Pc" + when, "\x01" + ip + "\x02m1\x02p." + when,
		"\x01" + ip + "\x02m1\x02pc\x00\x1e\x84\x81", "\x01" + ip + "\x02m1\x02pc\xff\xff\xff\xff", "\x01\x0a\x00\x00\x00\x02m1\x02pc" + when, "\x01\x0a\x00\x00\xff\x02m1\x02pc" + when,
		"\x01\x0a\x00\x01\x03\x02m1\x02pc" + when, "\x01\x0b\x00\x00\x03\x02m1\x02pc" + when, "\x01\x00\x00\x00\x03\x02m1\x02pc" + when, "\x01\x03\x00\x00\x0a\x02m1\x02pc" + when,
		"\x02" + ip + "\x00", "\x02" + ip + "\x01m1", "\x02" + ip + "\x03m1", "\x02" + ip + "\xffm1", "\x02" + ip + "\x110123456789abcdefg", "\x02\x0a\x00\x00\x00\x02m1", "\x02\x0a\x00\x00\xff\x02m1",
		"\x02" + ip + "\x02m1\x00", "\x02" + ip + "\x02m1\x02pc" + when, "\x01" + ip + "\x02m1", "\x02" + ip + "m1",
		"\x03\x00\x0f\x42\x41", "\x03\xff\xff\xff\xff", "\x03\x80\x00\x00\x05", "\x03\x05\x00\x00\x00", "\x03\x00\x00\x05", "\x03\x00\x00\x00\x00\x05",
	} {
		if checkRead(t, []byte(b)) {
			t.Errorf("%q was read", b)
		}
	}
}

// A message with pointers or great letters is read as such, but is not what a transaction is written as.
func TestTransactionsWithOtherBytesOfTheirMessage(t *testing.T) {
	several := txUps("+ pc.home. 9 CNAME tv.home.", "any pc.home. ANY", "- tv.home. 0 PTR pc.home.", "+ home. 9 SOA pc.home. 7 7")
	shared := 0
	for _, x := range append([]impl.Txn{several}, goodUpdateTxns()...) {
		for _, w := range []writer{{packing: true}, {great: true}, {packing: true, great: true}} {
			b := w.msg(x.Msg)
			if m, ok := impl.MsgRead(b); !ok || toldMsg(m) != toldMsg(x.Msg) {
				t.Fatalf("MsgRead(%q) = %s, %v", b, toldMsg(m), ok)
			}
			if bytes.Equal(b, bytesOfMsg(x.Msg)) {
				shared++
				continue
			}
			expectNotRead(t, append([]byte{0}, b...))
		}
		expectRead(t, append([]byte{0}, bytesOfMsg(x.Msg)...), x)
	}
	if all := 3 * (len(goodUpdateTxns()) + 1); shared > all/2 {
		t.Error("too few messages have other bytes:", shared, "of", all)
	}
	one := "\x00\x00\x05\x28\x00\x00\x01\x00\x00\x00\x01\x00\x00\x04home\x00\x00\x06\x00\x01"
	expectRead(t, []byte(one+"\x04home\x00\x00\x01\x00\xff\x00\x00\x00\x00\x00\x00"), txUps("any home. A"))
	expectNotRead(t, []byte(one+"\xc0\x0c\x00\x01\x00\xff\x00\x00\x00\x00\x00\x00"))
	expectNotRead(t, []byte(one+"\xc0\x11\x00\x01\x00\xff\x00\x00\x00\x00\x00\x00"))
}

func TestMessagesThatAreNoTransactions(t *testing.T) {
	for _, m := range slices.Concat(goodQueries()[:60], []impl.Msg{turned(upsOf("+ no.home. 9 A 3"), func(m *impl.Msg) { m.Reply = true }), turned(update(named("home.")), func(m *impl.Msg) { m.Reply = true })}) {
		if !impl.MsgOk(m) {
			t.Fatal(toldMsg(m))
		}
		for kind := range 6 {
			expectNotRead(t, append([]byte{byte(kind)}, bytesOfMsg(m)...))
		}
	}
	for _, x := range goodUpdateTxns() {
		for _, kind := range []byte{1, 2, 3, 4, 5, 128, 255} {
			expectNotRead(t, append([]byte{kind}, bytesOfMsg(x.Msg)...))
		}
	}
}

func TestTransactionsOneByteAway(t *testing.T) {
	found := map[int]int{}
	for _, x := range append(fewTxns(), txBind("254 m abcdefghijklmno 2000000"), txRelease(1, "0123456789abcdef"), txTick(1000000)) {
		for _, b := range changedTexts(bytesOfTxn(x)) {
			if checkRead(t, b) {
				found[int(b[0])]++
			}
		}
	}
	for kind, least := range []int{1000, 1000, 1000, 100} {
		if found[kind] < least {
			t.Error("too few of kind", kind, ":", found)
		}
	}
}

// appendTxn makes a transaction that is wrong now and then.
func (m *mixer) appendTxn() []byte {
	out := []byte{byte(m.of(0, 0, 1, 1, 1, 2, 2, 3, 4))}
	text := func(sizes ...int) {
		size := m.of(sizes...)
		out = append(out, byte(size+m.of(0, 0, 0, 0, 0, 0, 0, 0, 1, -1)))
		for range size {
			out = append(out, "abz09-abz09-abz09-A."[m.below(20)])
		}
	}
	ip := func() { out = append(out, 10, 0, 0, byte(m.of(1, 2, 3, 254, 254, 0, 255))) }
	when := func() {
		out = append(out, highestFirst(m.of(0, 1, 5, 999999, 1000000, 1000001, 2000000, 2000001), 4)...)
	}
	switch out[0] {
	case 0:
		msg := m.appendMsg()
		if x, ok := readMsg(msg); ok && m.below(4) > 0 {
			msg = bytesOfMsg(x)
		}
		return append(out, msg...)
	case 1:
		ip()
		text(1, 1, 2, 2, 15, 16, 17, 0)
		text(1, 1, 2, 2, 5, 5, 15, 16, 0)
		when()
	case 2:
		ip()
		text(1, 1, 2, 2, 15, 16, 17, 0)
	default:
		when()
	}
	if m.below(20) == 0 {
		out = append(out, 0)
	}
	return out
}

func TestMixedBytesOfTransactions(t *testing.T) {
	m := mixer(9)
	found, refused := map[int]int{}, map[int]int{}
	for range 40000 {
		b := m.appendTxn()
		if checkRead(t, b) {
			found[int(b[0])]++
		} else {
			refused[int(b[0])]++
		}
	}
	for kind := range 4 {
		if found[kind] < 200 || refused[kind] < 500 {
			t.Error("too few of kind", kind, ":", found, refused)
		}
	}
}

// doneIn says again what DoTxn does, of a house and a transaction that may be.
func doneIn(h impl.House, x impl.Txn) (impl.House, int) {
	switch x.Kind {
	case 0:
		return houseUpdatedIn(h, x.Msg)
	case 1:
		return boundIn(h, impl.Lease{Ip: x.Ip, Client: x.Client, Host: x.Host, Until: x.When})
	case 2:
		return releasedIn(h, x.Ip, x.Client)
	}
	if x.When < h.Now {
		return h, 1
	}
	out, _ := tickedIn(h, x.When)
	return out, 0
}

func headIn(j impl.Journal) impl.House {
	h := j.Base
	for _, x := range j.Txns {
		h, _ = doneIn(h, x)
	}
	return h
}

// expectDo holds a house and its code to what they must be, and both to the second one.
func expectDo(t *testing.T, h impl.House, x impl.Txn, want impl.House, code int) {
	t.Helper()
	if !impl.HouseOk(h) || !houseMay(want) || !txnMay(x) {
		t.Fatalf("no house, or no transaction: %s, %s, %s", toldHouse(h), toldHouse(want), toldTxn(x))
	}
	got, c := impl.DoTxn(h, x)
	expectHouse(t, "DoTxn "+toldTxn(x), got, c, want, code)
	again, c := doneIn(h, x)
	expectHouse(t, "the second one of "+toldTxn(x), again, c, want, code)
	if !impl.HouseOk(got) {
		t.Fatalf("DoTxn %s leaves %s", toldTxn(x), toldHouse(got))
	}
}

// five are leases of every kind: two of one client with one name, one that lost it, one for itself, one of no name.
func five() texts {
	return texts{"3 m1 pc 20 won", "4 m2 pc 30 lost", "5 m1 pc 40 won", "9 m3 tv 50 won", "12 m1 pc 60 lost"}
}

func hearth(serial, back int, leases texts, others ...string) impl.House {
	return home(10, serial, back, leases, append(others, "old.home. 9 A 3")...)
}

func TestDoUpdate(t *testing.T) {
	h, pair := hearth(5, 7, five()), upsOf("+ no.home. 9 A 3", "- old.home. 0 A 3")
	expectDo(t, h, txUpdate(pair), home(10, 6, 7, five(), "no.home. 9 A 3"), impl.RcOk)
	expectDo(t, h, txUps("+ no.home. 9 A 3"), hearth(6, 7, five(), "no.home. 9 A 3"), impl.RcOk)
	expectDo(t, h, txUps("any old.home. ANY"), home(10, 6, 7, five()), impl.RcOk)
	expectDo(t, h, txUps("+ home. 60 SOA home. 99 60"), hearth(99, 7, five()), impl.RcOk)
	expectDo(t, h, txUps(), h, impl.RcOk)
	expectDo(t, h, txUps("+ old.home. 9 A 3"), h, impl.RcOk)
	expectDo(t, h, txPres("any pc.home. DHCID", "none no.home. ANY"), hearth(6, 7, five(), "no.home. 9 A 3"), impl.RcOk)
	for code, l := range refusedUpdates() {
		for _, x := range l {
			expectDo(t, h, x, h, code)
		}
	}
	crowd := full(60, 1, "3 m1 pc 20 won")
	expectDo(t, crowd, txUps("+ no.home. 9 A 3"), crowd, impl.RcFail)
}

// refusedUpdates are those that a hearth with five leases refuses, by their codes, but RcFail.
func refusedUpdates() map[int][]impl.Txn {
	elsewhere, both := txUps("+ no.home. 9 A 3"), txUps("+ pc.home. 9 A 3")
	elsewhere.Msg.Qs, both.Msg.Qs = update(named("com.")).Qs, update(named("com.")).Qs
	back := txUps()
	back.Msg.Qs = update(named(backOrigin)).Qs
	return map[int][]impl.Txn{
		impl.RcForm:    {txPres("+ old.home. 9 A 3"), txUps("none no.home. A"), txPres("- old.home. 0 A 3")},
		impl.RcName:    {txPres("any no.home. ANY")},
		impl.RcRefused: {txUps("+ pc.home. 9 A 3"), txUps("+ no.home. 9 A 3", "any tv.home. ANY"), txUps("any tv.home. TXT", "+ com. 9 A 3"), both},
		impl.RcYxName:  {txPres("none old.home. ANY")},
		impl.RcYxSet:   {txPres("none pc.home. DHCID")},
		impl.RcNxSet:   {txPres("any old.home. TXT"), txPres("+ old.home. 0 A 4")},
		impl.RcNotAuth: {elsewhere, back},
		impl.RcNotZone: {txUps("+ com. 9 A 3"), txPres("any com. A"), txUps("any 3.0.0.10.in-addr.arpa. ANY")},
	}
}

func TestDoBind(t *testing.T) {
	l := five()
	h := hearth(5, 7, l)
	expectDo(t, h, txBind("77 m7 new 50"), hearth(6, 8, append(five(), "77 m7 new 50 won")), impl.LsWell)
	expectDo(t, h, txBind("1 m1 pc 2000000"), hearth(6, 8, append(texts{"1 m1 pc 2000000 won"}, l...)), impl.LsWell)
	expectDo(t, h, txBind("9 m3 box 11"), hearth(7, 9, texts{l[0], l[1], l[2], "9 m3 box 11 won", l[4]}), impl.LsWell)
	expectDo(t, h, txBind("77 m7 pc 50"), hearth(5, 7, append(five(), "77 m7 pc 50 lost")), impl.LsName)
	expectDo(t, h, txBind("77 m7 old 50"), hearth(5, 7, append(five(), "77 m7 old 50 lost")), impl.LsName)
	expectDo(t, h, txBind("9 m3 pc 99"), hearth(6, 8, texts{l[0], l[1], l[2], "9 m3 pc 99 lost", l[4]}), impl.LsName)
	for text, code := range refusedBinds() {
		expectDo(t, h, txBind(text), h, code)
	}
	for _, crowd := range []impl.House{eight(), full(60, 1), full(1, 60)} {
		expectDo(t, crowd, txBind("77 m7 new 50"), crowd, impl.LsFull)
	}
	late := home(1000000, 5, 5, nil)
	expectDo(t, late, txBind("3 m1 pc 1000000"), late, impl.LsForm)
	expectDo(t, late, txBind("3 m1 pc 1000001"), home(1000000, 6, 6, texts{"3 m1 pc 1000001 won"}), impl.LsWell)
}

// refusedBinds are those that a hearth with five leases refuses; they are over, or taken.
func refusedBinds() map[string]int {
	return map[string]int{
		"77 m7 new 10": impl.LsForm, "77 m7 new 9": impl.LsForm, "77 m7 new 0": impl.LsForm, "3 m1 pc 10": impl.LsForm, "3 m2 pc 5": impl.LsForm,
		"3 m2 pc 20": impl.LsTaken, "9 m1 new 50": impl.LsTaken, "4 m1 pc 11": impl.LsTaken,
	}
}

func TestDoRelease(t *testing.T) {
	l := five()
	h := hearth(5, 7, l)
	expectDo(t, h, txRelease(9, "m3"), hearth(6, 8, texts{l[0], l[1], l[2], l[4]}), impl.LsWell)
	expectDo(t, h, txRelease(3, "m1"), hearth(6, 8, l[1:]), impl.LsWell)
	expectDo(t, h, txRelease(4, "m2"), hearth(5, 7, texts{l[0], l[2], l[3], l[4]}), impl.LsWell)
	for _, x := range []impl.Txn{txRelease(3, "m2"), txRelease(4, "m1"), txRelease(77, "m1"), txRelease(254, "m3"), txRelease(9, "m33")} {
		expectDo(t, h, x, h, impl.LsNone)
	}
}

func TestDoTick(t *testing.T) {
	l := five()
	at := func(now int, bumps int, l texts) impl.House { return home(now, 5+bumps, 7+bumps, l, "old.home. 9 A 3") }
	h := at(10, 0, l)
	expectDo(t, h, txTick(10), h, impl.LsWell)
	expectDo(t, h, txTick(19), at(19, 0, l), impl.LsWell)
	expectDo(t, h, txTick(20), at(20, 1, l[1:]), impl.LsWell)
	expectDo(t, h, txTick(30), at(30, 1, l[2:]), impl.LsWell)
	expectDo(t, h, txTick(50), at(50, 3, l[4:]), impl.LsWell)
	expectDo(t, h, txTick(1000000), at(1000000, 3, nil), impl.LsWell)
	for _, when := range []int{9, 1, 0} {
		expectDo(t, h, txTick(when), h, impl.LsForm)
	}
	late := home(1000000, 5, 5, texts{"3 m1 pc 1000001 won"})
	expectDo(t, late, txTick(999999), late, impl.LsForm)
	expectDo(t, late, txTick(1000000), late, impl.LsWell)
	expectDo(t, home(0, 5, 5, nil), txTick(0), home(0, 5, 5, nil), impl.LsWell)
}

// Whatever is refused by itself is refused by DoTxn with the same words, and what is done is the same house.
func TestDoIsWhatTheHouseDoes(t *testing.T) {
	for _, h := range []impl.House{base(), eight(), home(0, 5, 5, nil), full(60, 60, "3 m1 pc 20 won")} {
		for _, x := range slices.Concat(fewTxns(), []impl.Txn{txBind("77 m7 new 50"), txBind("77 m7 pc 50"), txBind("3 m2 pc 50"), txRelease(9, "m3"), txTick(50), txTick(0), txUps("+ pc.home. 9 A 3")}) {
			var want impl.House
			code := 0
			switch x.Kind {
			case 0:
				var reply impl.Msg
				want, reply = impl.HouseUpdate(h, x.Msg)
				code = reply.Code
			case 1:
				want, code = impl.Bind(h, x.Ip, x.Client, x.Host, x.When)
			case 2:
				want, code = impl.Release(h, x.Ip, x.Client)
			default:
				if want, _ = impl.Tick(h, x.When); x.When < h.Now {
					want, code = h, 1
				}
			}
			expectDo(t, h, x, want, code)
		}
	}
}

func TestDoOfWhatMayNotBe(t *testing.T) {
	for _, h := range []impl.House{base(), home(0, 5, 5, nil)} {
		for why, x := range badTxns() {
			got, code := impl.DoTxn(h, x)
			expectHouse(t, why, got, code, impl.House{}, -1)
		}
	}
	few := append(fewTxns(), txTick(0), txTick(1000000), badTxns()["a reply"], impl.Txn{Kind: 4}, impl.Txn{})
	for why, h := range badHouses() {
		for _, x := range few {
			got, code := impl.DoTxn(h, x)
			expectHouse(t, why, got, code, impl.House{}, -1)
		}
	}
}

// ticks are so many transactions that go on moment by moment.
func ticks(n int) []impl.Txn {
	var out []impl.Txn
	for i := range n {
		out = append(out, txTick(i))
	}
	return out
}

func goodJournals() map[string]impl.Journal {
	out := map[string]impl.Journal{
		"new": wrote(home(0, 5, 5, nil), 0), "of a house": wrote(base(), 0), "empty": {Base: base(), Txns: []impl.Txn{}},
		"what is refused": wrote(base(), 1, txTick(0), txRelease(77, "m"), txBind("3 m9 pc 0"), txUps("+ pc.home. 9 A 3")),
		"at the end":      wrote(home(1000000, 5, 5, nil), 1, txTick(1000000), txTick(0)),
	}
	for _, n := range []int{1, 2, 59, 60} {
		for _, safe := range []int{0, 1, n - 1, n} {
			out[fmt.Sprintf("%d of %d", safe, n)] = wrote(home(0, 5, 5, nil), safe, ticks(n)...)
		}
	}
	for i, x := range fewTxns() {
		out[fmt.Sprint("one ", i)] = wrote(hearth(5, 7, five()), 1, x)
	}
	return out
}

func badJournals() map[string]impl.Journal {
	out := map[string]impl.Journal{"nothing": {}, "no house": wrote(impl.House{}, 1, fewTxns()...)}
	for why, h := range badHouses() {
		out["Base: "+why] = wrote(h, 0)
	}
	for why, x := range badTxns() {
		out["alone: "+why] = wrote(base(), 1, x)
		out["ahead: "+why] = wrote(base(), 1, append([]impl.Txn{x}, fewTxns()...)...)
		out["behind: "+why] = wrote(base(), 1, append(fewTxns(), x)...)
	}
	out["the last of many"] = wrote(base(), 0, append(ticks(59), impl.Txn{})...)
	for _, n := range []int{61, 62, 120, 5000} {
		for _, safe := range []int{0, 60, n} {
			out[fmt.Sprint(n, " with ", safe)] = wrote(home(0, 5, 5, nil), safe, slices.Repeat(ticks(1), n)...)
		}
	}
	for _, n := range []int{0, 1, 5, 60} {
		for _, safe := range []int{-1, -n - 1, n + 1, n + 2, n + 61, 1 << 32, 1<<32 + n, math.MaxInt, math.MinInt} {
			out[fmt.Sprint("Safe ", safe, " of ", n)] = wrote(home(0, 5, 5, nil), safe, ticks(n)...)
		}
	}
	out["Safe in the spare room"] = wrote(home(0, 5, 5, nil), 3, ticks(5)[:2]...)
	out["all at once"] = wrote(impl.House{}, 99, make([]impl.Txn, 61)...)
	return out
}

func TestJournalOk(t *testing.T) {
	for why, j := range goodJournals() {
		if !impl.JournalOk(j) {
			t.Errorf("%s: JournalOk(%s) = false", why, toldJournal(j))
		}
	}
	for why, j := range badJournals() {
		if impl.JournalOk(j) {
			t.Errorf("%s: JournalOk(%s) = true", why, toldJournal(j))
		}
	}
}

func TestWrongJournalsAreNotTaken(t *testing.T) {
	few := []impl.Txn{txTick(70), txTick(0), txBind("77 m7 new 99"), txUps("+ pc.home. 9 A 3"), txRelease(77, "m1"), {}}
	for why, j := range badJournals() {
		if h, ok := impl.Head(j); ok || !isZeroHouse(h) {
			t.Fatalf("%s: Head = %s, %v", why, toldHouse(h), ok)
		}
		for _, x := range few {
			if got, code := impl.Commit(j, x); code != -1 || !isZeroJournal(got) {
				t.Fatalf("%s: Commit %s = %s, %d", why, toldTxn(x), toldJournal(got), code)
			}
		}
		for _, keep := range []int{math.MinInt, -1, 0, 1, 60, math.MaxInt} {
			if got, ok := impl.Crash(j, keep); ok || !isZeroJournal(got) {
				t.Fatalf("%s: Crash %d = %s, %v", why, keep, toldJournal(got), ok)
			}
		}
		if got, ok := impl.Checkpoint(j); ok || !isZeroJournal(got) {
			t.Fatalf("%s: Checkpoint = %s, %v", why, toldJournal(got), ok)
		}
	}
}

func expectHead(t *testing.T, j impl.Journal, want impl.House) {
	t.Helper()
	got, ok := impl.Head(j)
	if !ok || toldHouse(got) != toldHouse(want) || !impl.HouseOk(got) {
		t.Fatalf("Head of %s = %s, %v, want %s", toldJournal(j), toldHouse(got), ok, toldHouse(want))
	}
}

// long is a journal in which each kind is done twice and refused twice.
func long() (impl.Journal, impl.House) {
	l := []impl.Txn{
		txBind("3 m1 pc 20"), txUps("+ no.home. 9 A 3"), txTick(5), txBind("4 m2 pc 30"), txRelease(3, "m2"), txUps("any pc.home. ANY"), txTick(4), txBind("3 m2 tv 30"), txBind("9 m3 tv 5"), txBind("9 m3 tv 40"),
		txRelease(3, "m1"), txTick(30), txRelease(4, "m2"), txUps("any no.home. A", "+ yes.home. 9 A 3"), txPres("any no.home. ANY"), txTick(29), txBind("5 m5 box 60"), txRelease(9, "m3"),
	}
	return wrote(home(0, 5, 5, nil), 7, l...), home(30, 12, 10, texts{"5 m5 box 60 won"}, "yes.home. 9 A 3")
}

func TestHead(t *testing.T) {
	for _, h := range []impl.House{base(), eight(), home(0, 5, 5, nil), full(60, 60, "3 m1 pc 20 won")} {
		expectHead(t, wrote(h, 0), h)
	}
	h := hearth(5, 7, five())
	for i, want := range []impl.House{
		hearth(6, 7, five(), "no.home. 9 A 3"), hearth(6, 8, append(five(), "77 m7 new 50 won")), hearth(5, 7, append(five(), "77 m7 pc 50 lost")), hearth(6, 8, five()[1:]), home(20, 6, 8, five()[1:], "old.home. 9 A 3"), h, h, h, h,
	} {
		x := []impl.Txn{txUps("+ no.home. 9 A 3"), txBind("77 m7 new 50"), txBind("77 m7 pc 50"), txRelease(3, "m1"), txTick(20), txUps("+ pc.home. 9 A 3"), txBind("3 m2 pc 50"), txRelease(77, "m1"), txTick(9)}[i]
		expectHead(t, wrote(h, 0, x), want)
		expectHead(t, wrote(h, 1, x), want)
	}
	j, want := long()
	for safe := range len(j.Txns) + 1 {
		j.Safe = safe
		expectHead(t, j, want)
	}
	for n := range len(j.Txns) + 1 {
		part := wrote(j.Base, 0, j.Txns[:n]...)
		expectHead(t, part, headIn(part))
	}
	expectHead(t, wrote(home(0, 5, 5, nil), 0, ticks(60)...), home(59, 5, 5, nil))
	expectHead(t, wrote(home(0, 5, 5, nil), 60, slices.Repeat([]impl.Txn{txBind("3 m1 pc 20"), txRelease(3, "m1")}, 30)...), home(0, 65, 65, nil))
}

func expectJournal(t *testing.T, call string, got impl.Journal, beside any, want impl.Journal, wantBeside any) {
	t.Helper()
	if toldJournal(got) != toldJournal(want) || beside != wantBeside {
		t.Fatalf("%s = %s, %v, want %s, %v", call, toldJournal(got), beside, toldJournal(want), wantBeside)
	}
}

// expectCommit holds a transaction that is done to the journal and the head that it must leave.
func expectCommit(t *testing.T, j impl.Journal, x impl.Txn, head impl.House, code int) impl.Journal {
	t.Helper()
	got, c := impl.Commit(j, x)
	n := len(j.Txns) + 1
	expectJournal(t, "Commit "+toldTxn(x), got, c, wrote(j.Base, n, append(slices.Clone(j.Txns), x)...), code)
	if !impl.JournalOk(got) {
		t.Fatalf("Commit %s leaves %s", toldTxn(x), toldJournal(got))
	}
	expectHead(t, got, head)
	return got
}

func expectRefused(t *testing.T, j impl.Journal, x impl.Txn, code int) {
	t.Helper()
	got, c := impl.Commit(j, x)
	expectJournal(t, "Commit "+toldTxn(x), got, c, j, code)
}

// journalsOver are journals whose head is a hearth with five leases; not all of their transactions are safe or were done.
func journalsOver() []impl.Journal {
	l, h := five(), hearth(5, 7, five())
	early := home(7, 4, 6, texts{l[0], l[1], l[2], l[4]}, "old.home. 9 A 3")
	return []impl.Journal{
		wrote(h, 0), wrote(h, 0, txTick(10)), wrote(h, 1, txTick(10), txRelease(77, "m1"), txUps()), wrote(h, 2, txTick(9), txUps("+ pc.home. 9 A 3")),
		wrote(early, 0, txBind("9 m3 tv 50"), txTick(10)), wrote(early, 1, txTick(8), txRelease(9, "m3"), txBind("9 m3 tv 50"), txTick(10), txTick(9)),
	}
}

func TestCommitOfWhatIsDone(t *testing.T) {
	l := five()
	for _, j := range journalsOver() {
		expectHead(t, j, hearth(5, 7, l))
		expectCommit(t, j, txUps("+ no.home. 9 A 3"), hearth(6, 7, l, "no.home. 9 A 3"), impl.RcOk)
		expectCommit(t, j, txUps(), hearth(5, 7, l), impl.RcOk)
		expectCommit(t, j, txBind("77 m7 new 50"), hearth(6, 8, append(five(), "77 m7 new 50 won")), impl.LsWell)
		expectCommit(t, j, txRelease(3, "m1"), hearth(6, 8, l[1:]), impl.LsWell)
		expectCommit(t, j, txTick(10), hearth(5, 7, l), impl.LsWell)
		expectCommit(t, j, txTick(20), home(20, 6, 8, l[1:], "old.home. 9 A 3"), impl.LsWell)
	}
}

// A lease without its name is written down, though its code is not 0; the same number refuses an update.
func TestCommitOfALeaseWithoutItsName(t *testing.T) {
	l := five()
	for _, j := range journalsOver() {
		expectCommit(t, j, txBind("77 m7 pc 50"), hearth(5, 7, append(five(), "77 m7 pc 50 lost")), impl.LsName)
		expectCommit(t, j, txBind("9 m3 old 50"), hearth(6, 8, texts{l[0], l[1], l[2], "9 m3 old 50 lost", l[4]}), impl.LsName)
		for _, x := range refusedUpdates()[impl.LsName] {
			expectRefused(t, j, x, impl.RcRefused)
		}
	}
}

func TestCommitOfWhatIsRefused(t *testing.T) {
	for _, j := range journalsOver() {
		for code, l := range refusedUpdates() {
			for _, x := range l {
				expectRefused(t, j, x, code)
			}
		}
		for text, code := range refusedBinds() {
			expectRefused(t, j, txBind(text), code)
		}
		for _, x := range []impl.Txn{txRelease(3, "m2"), txRelease(77, "m1"), txRelease(254, "m3")} {
			expectRefused(t, j, x, impl.LsNone)
		}
		for _, when := range []int{9, 1, 0} {
			expectRefused(t, j, txTick(when), impl.LsForm)
		}
	}
	for _, h := range []impl.House{eight(), full(60, 1), full(1, 60)} {
		expectRefused(t, wrote(h, 0, txTick(h.Now)), txBind("77 m7 new 50"), impl.LsFull)
	}
	expectRefused(t, wrote(full(60, 1), 0), txUps("+ no.home. 9 A 3"), impl.RcFail)
}

// What is done hangs on the head, not on the base, and on what is not safe, too.
func TestCommitLooksAtTheHead(t *testing.T) {
	j := wrote(home(0, 5, 5, nil), 0, txBind("3 m1 pc 20"), txTick(8), txUps("+ old.home. 9 A 3"))
	expectRefused(t, j, txTick(7), impl.LsForm)
	expectRefused(t, j, txBind("3 m2 tv 20"), impl.LsTaken)
	expectRefused(t, j, txBind("4 m2 tv 8"), impl.LsForm)
	expectRefused(t, j, txUps("any pc.home. ANY"), impl.RcRefused)
	expectRefused(t, j, txPres("none old.home. ANY"), impl.RcYxName)
	expectCommit(t, j, txBind("4 m2 pc 20"), home(8, 7, 6, texts{"3 m1 pc 20 won", "4 m2 pc 20 lost"}, "old.home. 9 A 3"), impl.LsName)
	expectCommit(t, j, txRelease(3, "m1"), home(8, 8, 7, nil, "old.home. 9 A 3"), impl.LsWell)
	expectCommit(t, j, txTick(20), home(20, 8, 7, nil, "old.home. 9 A 3"), impl.LsWell)
}

func TestCommitOverCommit(t *testing.T) {
	j := wrote(home(0, 5, 5, nil), 0)
	j = expectCommit(t, j, txBind("3 m1 pc 20"), home(0, 6, 6, texts{"3 m1 pc 20 won"}), impl.LsWell)
	j = expectCommit(t, j, txBind("4 m2 pc 30"), home(0, 6, 6, texts{"3 m1 pc 20 won", "4 m2 pc 30 lost"}), impl.LsName)
	expectRefused(t, j, txUps("+ pc.home. 9 A 3"), impl.RcRefused)
	j = expectCommit(t, j, txUps("+ no.home. 9 A 3"), home(0, 7, 6, texts{"3 m1 pc 20 won", "4 m2 pc 30 lost"}, "no.home. 9 A 3"), impl.RcOk)
	expectRefused(t, j, txRelease(3, "m2"), impl.LsNone)
	j = expectCommit(t, j, txTick(20), home(20, 8, 7, texts{"4 m2 pc 30 lost"}, "no.home. 9 A 3"), impl.LsWell)
	expectRefused(t, j, txTick(19), impl.LsForm)
	j = expectCommit(t, j, txBind("4 m2 pc 40"), home(20, 9, 8, texts{"4 m2 pc 40 won"}, "no.home. 9 A 3"), impl.LsWell)
	j = expectCommit(t, j, txRelease(4, "m2"), home(20, 10, 9, nil, "no.home. 9 A 3"), impl.LsWell)
	if len(j.Txns) != 6 || j.Safe != 6 {
		t.Error(toldJournal(j))
	}
}

func TestCommitToAFullJournal(t *testing.T) {
	h := hearth(5, 7, five())
	for _, safe := range []int{0, 30, 59} {
		almost := wrote(h, safe, slices.Repeat([]impl.Txn{txTick(10)}, 59)...)
		j := expectCommit(t, almost, txTick(10), h, impl.LsWell)
		for _, j.Safe = range []int{0, 1, 59, 60} {
			for _, x := range []impl.Txn{txTick(10), txTick(20), txUps("+ no.home. 9 A 3"), txUps(), txBind("77 m7 new 50"), txBind("77 m7 pc 50"), txRelease(3, "m1")} {
				expectRefused(t, j, x, impl.RcFail)
			}
		}
		expectCommit(t, almost, txBind("77 m7 pc 50"), hearth(5, 7, append(five(), "77 m7 pc 50 lost")), impl.LsName)
	}
}

// Of several reasons the one that is named first counts: what is refused by itself tells so in a full journal, too.
func TestTheFirstReasonOfCommitCounts(t *testing.T) {
	j := wrote(hearth(5, 7, five()), 9, slices.Repeat([]impl.Txn{txTick(10)}, 60)...)
	for code, l := range refusedUpdates() {
		expectRefused(t, j, l[0], code)
	}
	for text, code := range refusedBinds() {
		expectRefused(t, j, txBind(text), code)
	}
	expectRefused(t, j, txRelease(77, "m1"), impl.LsNone)
	expectRefused(t, j, txTick(9), impl.LsForm)
	for _, x := range []impl.Txn{{}, {Kind: 4}, txTick(-1), txTick(1000001), txRelease(255, "m1"), txUpdate(query(named("home."), 6))} {
		got, code := impl.Commit(j, x)
		expectJournal(t, "Commit "+toldTxn(x), got, code, impl.Journal{}, -1)
	}
}

func TestCommitOfWhatMayNotBe(t *testing.T) {
	for why, x := range badTxns() {
		for _, j := range []impl.Journal{wrote(home(0, 5, 5, nil), 0), wrote(hearth(5, 7, five()), 0, txTick(10))} {
			got, code := impl.Commit(j, x)
			expectJournal(t, why, got, code, impl.Journal{}, -1)
		}
	}
}

func TestCrash(t *testing.T) {
	l := []impl.Txn{txBind("3 m1 pc 20"), txUps("+ no.home. 9 A 3"), txTick(9), txTick(3), txBind("4 m2 pc 30"), txRelease(3, "m1"), txTick(30)}
	h := home(0, 5, 5, nil)
	for safe := range len(l) + 1 {
		for keep, kept := range map[int]int{math.MinInt: 0, math.MinInt + 1: 0, -60: 0, -1: 0, 0: 0, 1: 1, 2: 2, 3: 3, 6: 6, 7: 7, 8: 8, 60: 60, 61: 61, math.MaxInt - 7: 99, math.MaxInt - 1: 99, math.MaxInt: 99} {
			got, ok := impl.Crash(wrote(h, safe, l...), keep)
			n := min(safe+kept, len(l))
			want := wrote(h, n, l[:n]...)
			expectJournal(t, fmt.Sprintf("Crash of %d safe ones, keeping %d", safe, keep), got, ok, want, true)
			if !impl.JournalOk(got) {
				t.Fatal(toldJournal(got))
			}
			expectHead(t, got, headIn(want))
		}
	}
}

func TestCrashOfTheLeastAndTheGreatest(t *testing.T) {
	for _, keep := range []int{math.MinInt, -1, 0, 1, math.MaxInt} {
		got, ok := impl.Crash(wrote(base(), 0), keep)
		expectJournal(t, "Crash of none", got, ok, wrote(base(), 0), true)
	}
	all := wrote(home(0, 5, 5, nil), 60, ticks(60)...)
	for keep := range 3 {
		got, ok := impl.Crash(all, keep)
		expectJournal(t, "Crash of what is safe", got, ok, all, true)
	}
	none := wrote(home(0, 5, 5, nil), 0, ticks(60)...)
	for _, keep := range []int{59, 60, 61} {
		got, ok := impl.Crash(none, keep)
		n := min(keep, 60)
		expectJournal(t, "Crash of what is not safe", got, ok, wrote(none.Base, n, none.Txns[:n]...), true)
	}
}

// What Commit told to be done is there behind a crash that keeps nothing.
func TestWhatWasCommittedIsThereBehindACrash(t *testing.T) {
	for _, j := range journalsOver() {
		j, _ = impl.Commit(j, txBind("77 m7 pc 50"))
		got, ok := impl.Crash(j, 0)
		expectJournal(t, "Crash", got, ok, j, true)
		expectHead(t, got, hearth(5, 7, append(five(), "77 m7 pc 50 lost")))
	}
}

func TestCheckpoint(t *testing.T) {
	for why, j := range goodJournals() {
		got, ok := impl.Checkpoint(j)
		expectJournal(t, why, got, ok, wrote(headIn(j), 0), true)
		if !impl.JournalOk(got) {
			t.Fatal(why, toldJournal(got))
		}
		expectHead(t, got, headIn(j))
		again, ok := impl.Checkpoint(got)
		expectJournal(t, why, again, ok, got, true)
	}
	j, head := long()
	for _, j.Safe = range []int{0, 7, len(j.Txns)} {
		got, ok := impl.Checkpoint(j)
		expectJournal(t, "Checkpoint", got, ok, wrote(head, 0), true)
	}
	full := wrote(hearth(5, 7, five()), 0, slices.Repeat([]impl.Txn{txTick(10)}, 60)...)
	room, _ := impl.Checkpoint(full)
	expectCommit(t, room, txTick(20), home(20, 6, 8, five()[1:], "old.home. 9 A 3"), impl.LsWell)
}

// journalRun is a journal that things happen to, with what the second head of it is.
type journalRun struct {
	run
	j impl.Journal
}

func (r *journalRun) txn() impl.Txn {
	l := r.lease()
	switch r.m.below(9) {
	case 0, 1, 2, 3:
		return impl.Txn{Kind: 1, Ip: l.Ip, Client: l.Client, Host: l.Host, When: l.Until}
	case 4:
		return impl.Txn{Kind: 2, Ip: l.Ip, Client: l.Client}
	case 5, 6:
		return txTick(min(r.h.Now+r.m.of(0, 1, 1, 2, 5, -1), 1000000))
	}
	return txUpdate(r.updates())
}

// checkDone holds what DoTxn did to a house to what is promised of leases and updates.
func checkDone(t *testing.T, h, after impl.House, x impl.Txn, code int) {
	t.Helper()
	call := fmt.Sprintf("DoTxn %s of %s", toldTxn(x), toldHouse(h))
	if x.Kind != 0 {
		checkStays(t, call, h, after, func(ip int) bool {
			at := placeIn(h, ip)
			over := x.Kind == 3 && at >= 0 && h.Leases[at].Until <= x.When
			return code == 0 && over || ip == x.Ip && (code == 0 || code == 5)
		})
		return
	}
	if !impl.HouseOk(after) || after.Now != h.Now || toldAll(after.Leases, toldLease) != toldAll(h.Leases, toldLease) || toldZone(after.Rev) != toldZone(h.Rev) {
		t.Fatalf("%s leaves %s", call, toldHouse(after))
	}
	for _, l := range h.Leases {
		named := func(w impl.Want) bool { return wordsOfName(w.Rr.Name) == string(l.Host)+".home." }
		if l.Won && slices.ContainsFunc(x.Msg.Ups, named) && code != 5 {
			t.Fatalf("%s turns the name of %s", call, toldLease(l))
		}
	}
}

// commit holds Commit to the promise: what is done is behind all, safe, and in the head; what is refused changes nothing.
func (r *journalRun) commit() {
	x := r.txn()
	got, code := impl.Commit(r.j, x)
	call := "Commit " + toldTxn(x)
	r.codes[fmt.Sprint(x.Kind, " ", code)]++
	if !txnMay(x) {
		expectJournal(r.t, call, got, code, impl.Journal{}, -1)
		return
	}
	head, want := doneIn(r.h, x)
	done, doing := impl.DoTxn(r.h, x)
	expectHouse(r.t, call, done, doing, head, want)
	checkDone(r.t, r.h, done, x, doing)
	if want != 0 && (want != 5 || x.Kind != 1) {
		expectJournal(r.t, call, got, code, r.j, want)
		return
	}
	if len(r.j.Txns) == 60 {
		r.codes["full"]++
		expectJournal(r.t, call, got, code, r.j, 2)
		return
	}
	expectJournal(r.t, call, got, code, wrote(r.j.Base, len(r.j.Txns)+1, append(slices.Clone(r.j.Txns), x)...), want)
	expectHead(r.t, got, head)
	r.j, r.h = got, head
}

// put writes something down that is not safe and perhaps not done, as somebody might who was cut off.
func (r *journalRun) put() {
	x := r.txn()
	if len(r.j.Txns) == 60 || !txnMay(x) {
		return
	}
	r.j.Txns = append(slices.Clone(r.j.Txns), x)
	r.h, _ = doneIn(r.h, x)
	expectHead(r.t, r.j, r.h)
}

func (r *journalRun) forget() {
	r.j.Safe = r.m.below(r.j.Safe + 1)
}

func (r *journalRun) crash() {
	keep := r.m.of(-1, 0, 0, 1, 2, 3, 60)
	got, ok := impl.Crash(r.j, keep)
	n := len(r.j.Txns)
	if len(got.Txns) < n {
		r.codes["lost"]++
	}
	for n > r.j.Safe+max(keep, 0) {
		n--
	}
	expectJournal(r.t, "Crash", got, ok, wrote(r.j.Base, n, r.j.Txns[:n]...), true)
	r.j, r.h = got, headIn(got)
	expectHead(r.t, r.j, r.h)
}

func (r *journalRun) checkpoint() {
	got, ok := impl.Checkpoint(r.j)
	r.codes["checkpoint"]++
	expectJournal(r.t, "Checkpoint", got, ok, wrote(r.h, 0), true)
	expectHead(r.t, got, r.h)
	r.j = got
}

func TestMixedRunsOfAJournal(t *testing.T) {
	m := mixer(10)
	codes := map[string]int{}
	for i := range 60 {
		h := starts(i)
		r := &journalRun{run: run{t: t, m: &m, h: h, codes: codes}, j: wrote(h, 0)}
		for range 50 {
			steps := []func(){r.commit, r.commit, r.commit, r.commit, r.commit, r.commit, r.put, r.put, r.forget, r.crash, r.crash, r.checkpoint}
			steps[m.below(len(steps))]()
		}
	}
	h := home(0, 5, 7, nil)
	r := &journalRun{run: run{t: t, m: &m, h: h, codes: codes}, j: wrote(h, 0)}
	for range 140 {
		[]func(){r.commit, r.commit, r.commit, r.put, r.forget}[m.below(5)]()
	}
	r.crash()
	r.checkpoint()
	for told, least := range map[string]int{
		"0 0": 50, "0 2": 5, "0 5": 10, "1 0": 100, "1 1": 10, "1 2": 10, "1 5": 50, "1 3": 10, "1 -1": 30, "2 0": 10, "2 4": 20, "3 0": 50, "3 1": 10, "full": 5, "lost": 20, "checkpoint": 100,
	} {
		if codes[told] < least {
			t.Error("too few of", told, codes)
		}
	}
}

// span is where a list lies in memory, with its spare room.
type span struct{ from, to uintptr }

// spansOf are those of all lists that hang on a value.
func spansOf(v reflect.Value) []span {
	var out []span
	switch v.Kind() {
	case reflect.Struct:
		for i := range v.NumField() {
			out = append(out, spansOf(v.Field(i))...)
		}
	case reflect.Slice:
		if size := uintptr(v.Cap()) * v.Type().Elem().Size(); size > 0 {
			out = append(out, span{v.Pointer(), v.Pointer() + size})
		}
		for i := range v.Len() {
			out = append(out, spansOf(v.Index(i))...)
		}
	case reflect.Interface:
		return spansOf(v.Elem())
	}
	return out
}

// wholeOf tells all that hangs on a value, the spare room, too.
func wholeOf(v reflect.Value) string {
	var out []string
	switch v.Kind() {
	case reflect.Struct:
		for i := range v.NumField() {
			out = append(out, wholeOf(v.Field(i)))
		}
	case reflect.Slice:
		all := v.Slice(0, v.Cap())
		if all.Type().Elem().Kind() == reflect.Uint8 {
			return fmt.Sprintf("%q", all.Bytes())
		}
		for i := range all.Len() {
			out = append(out, wholeOf(all.Index(i)))
		}
	default:
		return fmt.Sprint(v)
	}
	return "{" + strings.Join(out, " ") + "}"
}

// checkSpans holds an answer to what all answers are: its lists lie apart from each other and from the arguments.
func checkSpans(t *testing.T, call string, answer any, args any) {
	t.Helper()
	own, given := spansOf(reflect.ValueOf(answer)), spansOf(reflect.ValueOf(args))
	slices.SortFunc(own, func(a, b span) int { return int(a.from) - int(b.from) })
	for i, s := range own {
		if i > 0 && own[i-1].to > s.from {
			t.Fatalf("%s: two lists of the answer share memory", call)
		}
	}
	for _, a := range given {
		if slices.ContainsFunc(own, func(s span) bool { return s.from < a.to && a.from < s.to }) {
			t.Fatalf("%s: the answer shares memory with an argument", call)
		}
	}
}

// journalArgs are all arguments that a function of the chapter may take.
type journalArgs struct {
	J    impl.Journal
	X    impl.Txn
	Keep int
	B    []byte
}

func roomyTxn(x impl.Txn) impl.Txn {
	x.Msg, x.Client, x.Host = roomyMsg(x.Msg), roomyBytes(x.Client), roomyBytes(x.Host)
	return x
}

func (a journalArgs) roomy() journalArgs {
	base := houseArgs{h: a.J.Base}.roomy().h
	j := impl.Journal{Base: base, Txns: roomy(a.J.Txns, roomyTxn, txTick(1)), Safe: a.J.Safe}
	return journalArgs{j, roomyTxn(a.X), a.Keep, roomyBytes(a.B)}
}

func (a journalArgs) told() string {
	return fmt.Sprint(toldJournal(a.J), toldTxn(a.X), a.Keep, a.B)
}

// journalCalls are calls of every function of the chapter; each gives what it answers, and a text that tells it.
func journalCalls() map[string]func(a journalArgs) (any, string) {
	journal := func(j impl.Journal, beside any) (any, string) { return j, fmt.Sprint(toldJournal(j), beside) }
	house := func(h impl.House, beside any) (any, string) { return h, fmt.Sprint(toldHouse(h), beside) }
	return map[string]func(a journalArgs) (any, string){
		"TxnOk":     func(a journalArgs) (any, string) { return 0, fmt.Sprint(impl.TxnOk(a.X)) },
		"TxnBytes":  func(a journalArgs) (any, string) { b, ok := impl.TxnBytes(a.X); return b, fmt.Sprint(b, ok) },
		"TxnRead":   func(a journalArgs) (any, string) { x, ok := impl.TxnRead(a.B); return x, fmt.Sprint(toldTxn(x), ok) },
		"DoTxn":     func(a journalArgs) (any, string) { h, code := impl.DoTxn(a.J.Base, a.X); return house(h, code) },
		"JournalOk": func(a journalArgs) (any, string) { return 0, fmt.Sprint(impl.JournalOk(a.J)) },
		"Head":      func(a journalArgs) (any, string) { h, ok := impl.Head(a.J); return house(h, ok) },
		"Commit":    func(a journalArgs) (any, string) { j, code := impl.Commit(a.J, a.X); return journal(j, code) },
		"Crash":     func(a journalArgs) (any, string) { j, ok := impl.Crash(a.J, a.Keep); return journal(j, ok) },
		"Checkpoint": func(a journalArgs) (any, string) {
			j, ok := impl.Checkpoint(a.J)
			return journal(j, ok)
		},
	}
}

func manyJournalArgs() []journalArgs {
	j, _ := long()
	bad := badTxns()
	same := slices.Repeat([]impl.Txn{txBind("3 m1 pc 20")}, 4)
	journals := []impl.Journal{
		j, wrote(base(), 0), wrote(base(), 1, txUps("+ home. 9 SOA a.home. 9 9", "+ no.home. 9 TXT abc"), txUps("any old.home. ANY"), txBind("77 m7 pc 50")), wrote(home(0, 5, 5, nil), 2, same...),
		wrote(home(0, 5, 5, nil), 7, ticks(60)...), wrote(base(), 9, fewTxns()...), wrote(lostRecords()["no sign"], 0), wrote(base(), 0, bad["a reply"]), {},
	}
	l := append(fewTxns(), txBind("77 m7 new 50"), txBind("77 m7 pc 50"), txBind("3 m2 pc 50"), txRelease(9, "m3"), txTick(50), txTick(0), txUps("+ pc.home. 9 A 3"), txUps("+ com. 9 A 3"), bad["a reply"], bad["kind 3 with Host"], impl.Txn{})
	var out []journalArgs
	for _, j := range journals {
		for i, x := range l {
			b := bytesOfTxn(x)
			if i%4 == 3 {
				b = b[:len(b)-1]
			}
			out = append(out, journalArgs{j, x, i%5 - 1, b})
		}
	}
	return out
}

// checkCall holds a call to what all are: its answer is new memory and the same each time, whatever room is spare; nothing is written into an argument.
func checkCall[A interface{ told() string }](t *testing.T, call string, run func(a A) (any, string), plain, a A) {
	t.Helper()
	before := wholeOf(reflect.ValueOf(a))
	answer, told := run(a)
	checkSpans(t, call, answer, a)
	if wholeOf(reflect.ValueOf(a)) != before {
		t.Fatalf("%s of %s wrote into an argument", call, plain.told())
	}
	if _, again := run(a); again != told {
		t.Fatalf("%s of %s answers otherwise the second time", call, plain.told())
	}
	if _, bare := run(plain); bare != told {
		t.Fatalf("%s of %s hangs on spare room", call, plain.told())
	}
}

func TestJournalAnswersAreNewMemory(t *testing.T) {
	for call, run := range journalCalls() {
		for _, plain := range manyJournalArgs() {
			checkCall(t, call, run, plain, plain.roomy())
		}
	}
}

// Arguments may share memory with each other; what is answered may not.
func TestJournalsBySharedMemory(t *testing.T) {
	name, origin := named("m1.home."), named("home.")
	text := name.L[0]
	bind := impl.Txn{Kind: 1, Ip: subnet + 3, Client: text, Host: text, When: 20}
	m := update(origin)
	m.Ups = inClass([]impl.Rr{{Name: origin, Type: 2, Ttl: 9, To: name}, {Name: origin, Type: 16, Ttl: 9, Text: text}})
	m.Pres = m.Ups[:0]
	up := txUpdate(m)
	h, _ := impl.HouseNew(5)
	h.Zone.Origin, h.Zone.Rrs[0].Name, h.Zone.Rrs[0].To = origin, origin, origin
	for _, j := range []impl.Journal{wrote(h, 0), wrote(h, 1, bind, bind, bind), wrote(h, 2, up, up, bind, up), wrote(h, 0, slices.Repeat([]impl.Txn{up}, 60)...)} {
		for _, x := range []impl.Txn{bind, up, {Kind: 2, Ip: subnet + 3, Client: text}} {
			for call, run := range journalCalls() {
				a := journalArgs{J: j, X: x, Keep: 1, B: bytesOfTxn(x)}
				checkCall(t, call, run, a, a)
			}
		}
	}
}
