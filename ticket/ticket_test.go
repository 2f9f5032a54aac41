package ticket

import (
	"bytes"
	"encoding/binary"
	"encoding/hex"
	"math"
	"math/rand"
	"slices"
	"strings"
	"sync"
	"testing"

	"toll/api"
	"toll/name"
	"toll/seal"
	"toll/wire"
)

// of returns the name with a realm and parts.
func of(realm string, parts ...string) api.Name { return api.Name{Realm: realm, Parts: parts} }

// letters returns n bytes a.
func letters(n int) string { return strings.Repeat("a", n) }

// someBytes returns n bytes of all values that look random, but are the same for the same n.
func someBytes(n int) []byte {
	b := make([]byte, n)
	rand.New(rand.NewSource(int64(n))).Read(b)
	return b
}

// keyAndNonce are those of most sealed tickets: all of their bytes differ.
func keyAndNonce() (key [16]byte, nonce [8]byte) {
	b := someBytes(24)
	return [16]byte(b[:16]), [8]byte(b[16:])
}

// usual is the ticket of most tests: all of its words, times and bytes differ.
func usual() api.Ticket {
	return api.Ticket{Client: of("R", "host", "a/b"), Start: 258, End: 1 << 33, Key: [16]byte(someBytes(16))}
}

// someNames are names with few and many parts, and with short and long words.
func someNames() []api.Name {
	long := letters(100)
	return []api.Name{
		of("R", "alice"), of("!", "~"), of("~", "!"), of("R", "host", "a/b"), of("R@S", `a\`, "@"), of("R", "a", "b", "c", "d", "e", "f", "g", "h"), of(long, long), of(long, long, long, long, long, long, long, long, long),
	}
}

// noNames are no names, with a description of each; all of them have bytes in the form of a name.
func noNames() map[string]api.Name {
	return map[string]api.Name{
		"nothing":    {},
		"no parts":   of("R"),
		"no realm":   of("", "a"),
		"empty part": of("R", "a", ""),
		"nine parts": of("R", "a", "b", "c", "d", "e", "f", "g", "h", "i"),
		"long realm": of(letters(101), "a"),
		"long part":  of("R", letters(101)),
		"space":      of("R", "a b"),
		"delete":     of("R\x7f", "a"),
		"rune":       of("R", "ä"),
	}
}

// someTimes are times around the limits of tickets, of 32 and of 64 bits.
func someTimes() []int64 {
	return []int64{math.MinInt64, math.MinInt64 + 1, -1 << 40, -1 << 32, -256, -1, 0, 1, 2, 255, 256, 258, 1<<31 - 1, 1 << 31, 1<<32 - 1, 1 << 32, 1<<32 + 1, 1<<40 - 1, 1 << 40, 1<<40 + 1, 1 << 41, 1<<40 | 1<<48, 1 << 56, 1 << 62, math.MaxInt64 - 1, math.MaxInt64}
}

// areTimes reports whether a ticket can have a start and an end.
func areTimes(start, end int64) bool { return start >= 0 && end >= start && end <= 1099511627776 }

// someTickets are tickets of all names and times, with keys of zeros, of ones and of others.
func someTickets() []api.Ticket {
	l := []api.Ticket{usual()}
	for i, n := range someNames() {
		for k, start := range someTimes() {
			for _, end := range someTimes() {
				if areTimes(start, end) && (i == 0 || (i+k)%4 == 0) {
					key := [][16]byte{{}, [16]byte(someBytes(16 + len(l))), [16]byte(bytes.Repeat([]byte{255}, 16))}[len(l)%3]
					l = append(l, api.Ticket{Client: n, Start: start, End: end, Key: key})
				}
			}
		}
	}
	return l
}

// noTickets are no tickets, with a description of each.
func noTickets() map[string]api.Ticket {
	l := map[string]api.Ticket{"nothing": {}, "only a key": {Key: [16]byte{1}}, "only times": {Start: 1, End: 2}}
	for what, n := range noNames() {
		t := usual()
		t.Client = n
		l[what] = t
	}
	for what, times := range map[string][2]int64{
		"late start": {5, 4}, "later than 0": {1, 0}, "negative": {-1, 4}, "both negative": {-2, -1}, "least": {math.MinInt64, math.MaxInt64}, "negative end": {0, -1}, "late end": {0, 1<<40 + 1}, "both late": {1<<40 + 1, 1<<40 + 1}, "latest": {0, math.MaxInt64}, "one too late": {1 << 40, 1<<40 - 1}, "swapped": {1 << 40, 0}, "bit 32": {1<<32 + 1, 1}, "bit 63": {math.MinInt64 + 5, 5},
	} {
		t := usual()
		t.Start, t.End = times[0], times[1]
		l[what] = t
	}
	return l
}

// nameBytes returns the bytes of a name by the definition, also of what is none.
func nameBytes(n api.Name) []byte {
	b := append([]byte{byte(len(n.Realm))}, n.Realm...)
	b = append(b, byte(len(n.Parts)))
	for _, p := range n.Parts {
		b = append(append(b, byte(len(p))), p...)
	}
	return b
}

// definedBytes returns the bytes of a ticket by the definition, also of what is none.
func definedBytes(t api.Ticket) []byte {
	b := append([]byte{1}, nameBytes(t.Client)...)
	b = binary.BigEndian.AppendUint64(b, uint64(t.Start))
	b = binary.BigEndian.AppendUint64(b, uint64(t.End))
	return append(b, t.Key[:]...)
}

// definedTicket returns the ticket with these bytes, from the last field to the first.
func definedTicket(b []byte) (api.Ticket, bool) {
	end := len(b)
	if end < 1+32 || b[0] != 1 {
		return api.Ticket{}, false
	}
	r := wire.New(b[1 : end-32])
	n, ok := name.Read(r)
	t := api.Ticket{Client: n, Start: int64(binary.BigEndian.Uint64(b[end-32:])), End: int64(binary.BigEndian.Uint64(b[end-24:])), Key: [16]byte(b[end-16:])}
	if !ok || !r.Done() || !areTimes(t.Start, t.End) {
		return api.Ticket{}, false
	}
	return t, true
}

// equal reports whether two tickets are equal, without Same.
func equal(a, b api.Ticket) bool {
	return a.Client.Realm == b.Client.Realm && slices.Equal(a.Client.Parts, b.Client.Parts) && a.Start == b.Start && a.End == b.End && bytes.Equal(a.Key[:], b.Key[:])
}

// acceptBytes checks that b are the bytes of a ticket.
func acceptBytes(t testing.TB, b []byte, want api.Ticket) {
	t.Helper()
	if x, ok := Parse(b); !ok || !equal(x, want) {
		t.Errorf("%x: %v %v, not %v", b, x, ok, want)
	}
}

// refuseBytes checks that b are no bytes of a ticket.
func refuseBytes(t testing.TB, b []byte, what ...any) {
	t.Helper()
	if x, ok := Parse(b); ok || !equal(x, api.Ticket{}) {
		t.Errorf("%v: %.99x are bytes of a ticket: %v %v", what, b, x, ok)
	}
}

// acceptSealed checks that s is a sealed ticket.
func acceptSealed(t testing.TB, key [16]byte, s []byte, want api.Ticket) {
	t.Helper()
	if x, code := Open(key, s); code != 0 || !equal(x, want) {
		t.Errorf("%x: %v %d, not %v", s, x, code, want)
	}
}

// refuseSealed checks that s is no sealed ticket, and why.
func refuseSealed(t testing.TB, key [16]byte, s []byte, want api.Code, what ...any) {
	t.Helper()
	if x, code := Open(key, s); code != want || !equal(x, api.Ticket{}) {
		t.Errorf("%v: %.99x: %v %d, not %d", what, s, x, code, want)
	}
}

// P12.1: tickets, and what is none.
func TestValid(t *testing.T) {
	for _, x := range someTickets() {
		if !Valid(x) {
			t.Errorf("%v", x)
		}
	}
	for what, x := range noTickets() {
		if Valid(x) {
			t.Errorf("%s: %v", what, x)
		}
	}
}

// P12.1 and the chapter's example: each start with each end.
func TestValidTimes(t *testing.T) {
	for _, start := range someTimes() {
		for _, end := range someTimes() {
			x := usual()
			x.Start, x.End = start, end
			if Valid(x) != areTimes(start, end) {
				t.Errorf("from %d to %d: %v", start, end, Valid(x))
			}
		}
	}
	x := usual()
	for x.Start = range int64(30) {
		for x.End = range int64(30) {
			if Valid(x) != (x.Start <= x.End) {
				t.Errorf("from %d to %d: %v", x.Start, x.End, Valid(x))
			}
		}
	}
}

// P12.1: the client of a ticket is a name, whatever the other fields are.
func TestValidClients(t *testing.T) {
	for size := range 300 {
		word := letters(size)
		for k, n := range []api.Name{of(word, "a"), of("R", word), of("R", "a", word)} {
			x := usual()
			x.Client = n
			if Valid(x) != (1 <= size && size <= 100) {
				t.Errorf("%d bytes: name %d: %v", size, k, Valid(x))
			}
		}
		x := usual()
		x.Client = of("R", slices.Repeat([]string{"a"}, size)...)
		if Valid(x) != (1 <= size && size <= 8) {
			t.Errorf("%d parts: %v", size, Valid(x))
		}
	}
	for c := range 256 {
		for k, n := range []api.Name{of(string([]byte{'a', byte(c)}), "a"), of("R", "a", string([]byte{byte(c)}))} {
			x := usual()
			x.Client = n
			if Valid(x) != (33 <= c && c <= 126) {
				t.Errorf("byte %d: name %d: %v", c, k, Valid(x))
			}
		}
	}
}

// others returns tickets that differ from x in one field, by each bit of the key and of the times.
func others(x api.Ticket) []api.Ticket {
	var l []api.Ticket
	for i := range 8 * len(x.Key) {
		y := x
		y.Key[i/8] ^= 1 << (i % 8)
		l = append(l, y)
	}
	for i := range 64 {
		y, z := x, x
		y.Start ^= 1 << i
		z.End ^= 1 << i
		l = append(l, y, z)
	}
	for _, n := range append(someNames(), of(x.Client.Realm), of("", x.Client.Parts...), of(x.Client.Realm+"S", x.Client.Parts...), of(x.Client.Realm, append([]string{"a"}, x.Client.Parts...)...)) {
		y := x
		y.Client = n
		if n.Realm != x.Client.Realm || !slices.Equal(n.Parts, x.Client.Parts) {
			l = append(l, y)
		}
	}
	return l
}

// P12.1: tickets are the same only if all fields are.
func TestSame(t *testing.T) {
	for _, x := range someTickets()[:50] {
		same := x
		same.Client.Parts = slices.Clone(x.Client.Parts)
		if !Same(x, x) || !Same(x, same) || !Same(same, x) {
			t.Errorf("%v: not its copy", x)
		}
		for _, y := range others(x) {
			if Same(x, y) || Same(y, x) {
				t.Errorf("%v: as %v", x, y)
			}
		}
	}
	swapped := usual()
	swapped.Start, swapped.End = swapped.End, swapped.Start
	if Same(usual(), swapped) {
		t.Error("start and end swapped")
	}
}

// P12.1: all pairs of tickets, and of what is none.
func TestSameOfAll(t *testing.T) {
	l := someTickets()
	for _, x := range noTickets() {
		l = append(l, x)
	}
	for i, a := range l {
		for k, b := range l {
			if Same(a, b) != equal(a, b) || i == k && !Same(a, b) {
				t.Fatalf("%v %v: %v", a, b, Same(a, b))
			}
		}
	}
	none, empty := api.Ticket{}, api.Ticket{Client: api.Name{Parts: []string{}}}
	if !Same(none, empty) || !Same(empty, none) {
		t.Error("nil and empty parts")
	}
}

// P12.2: bytes of tickets, written out.
func TestBytes(t *testing.T) {
	for i, x := range []struct {
		t    api.Ticket
		want string
	}{
		{api.Ticket{Client: of("R", "alice"), Start: 258, End: 1 << 40, Key: [16]byte{1, 2, 15: 16}}, "\x01\x01R\x01\x05alice\x00\x00\x00\x00\x00\x00\x01\x02\x00\x00\x01\x00\x00\x00\x00\x00\x01\x02\x00\x00\x00\x00\x00\x00\x00\x00\x00\x00\x00\x00\x00\x10"},
		{api.Ticket{Client: of("AB", "host", "a/b")}, "\x01\x02AB\x02\x04host\x03a/b" + strings.Repeat("\x00", 32)},
		{api.Ticket{Client: of("~", "!"), Start: 0x0102030405, End: 0xfffefdfcfb, Key: [16]byte([]byte("an encrypted key"))}, "\x01\x01~\x01\x01!\x00\x00\x00\x01\x02\x03\x04\x05\x00\x00\x00\xff\xfe\xfd\xfc\xfban encrypted key"},
	} {
		if got, ok := Bytes(x.t); !ok || string(got) != x.want {
			t.Errorf("%d: %q %v", i, got, ok)
		}
		acceptBytes(t, []byte(x.want), x.t)
	}
}

// P12.2: bytes of all sizes, by the definition.
func TestBytesOfAll(t *testing.T) {
	for _, x := range someTickets() {
		if got, ok := Bytes(x); !ok || !bytes.Equal(got, definedBytes(x)) {
			t.Errorf("%v: %x %v", x, got, ok)
		}
		acceptBytes(t, definedBytes(x), x)
	}
}

// P12.2: what is no ticket has no bytes, and is not parsed.
func TestBytesOfNoTickets(t *testing.T) {
	for what, x := range noTickets() {
		if got, ok := Bytes(x); ok || len(got) != 0 {
			t.Errorf("%s: %x %v", what, got, ok)
		}
		refuseBytes(t, definedBytes(x), what)
	}
}

// P12.2: each start with each end, in bytes.
func TestParseOfTimes(t *testing.T) {
	for _, start := range someTimes() {
		for _, end := range someTimes() {
			x := usual()
			x.Start, x.End = start, end
			if areTimes(start, end) {
				acceptBytes(t, definedBytes(x), x)
			} else {
				refuseBytes(t, definedBytes(x), start, end)
			}
		}
	}
}

// P12.2: the first byte is 1.
func TestParseOfFirst(t *testing.T) {
	for c := range 256 {
		b := definedBytes(usual())
		b[0] = byte(c)
		if c == 1 {
			acceptBytes(t, b, usual())
		} else {
			refuseBytes(t, b, c)
		}
	}
}

// P12.2: no part of the bytes of a ticket is enough, and nothing follows them.
func TestParseOfOtherLengths(t *testing.T) {
	refuseBytes(t, nil)
	refuseBytes(t, []byte{})
	for _, n := range someNames() {
		x := usual()
		x.Client = n
		b := definedBytes(x)
		for i := range b {
			refuseBytes(t, b[:i], "shortened", i)
			refuseBytes(t, b[i+1:], "without front", i)
			refuseBytes(t, append(bytes.Clone(b), b[:i+1]...), "longer", i)
		}
		for _, more := range []string{"\x00", "\x01", "\xff", letters(8), letters(16), letters(1 << 20)} {
			refuseBytes(t, append(bytes.Clone(b), more...), "longer", len(more))
			refuseBytes(t, append([]byte(more), b...), "more in front", len(more))
		}
	}
}

// P12.2: the fields have their order and their sizes.
func TestParseOfOtherOrders(t *testing.T) {
	x := usual()
	x.Key = [16]byte([]byte("an encrypted key"))
	client, start, end, key := nameBytes(x.Client), binary.BigEndian.AppendUint64(nil, uint64(x.Start)), binary.BigEndian.AppendUint64(nil, uint64(x.End)), x.Key[:]
	one := []byte{1}
	acceptBytes(t, slices.Concat(one, client, start, end, key), x)
	for i, b := range [][]byte{
		slices.Concat(one, client, end, start, key), slices.Concat(one, start, end, client, key), slices.Concat(one, client, key, start, end), slices.Concat(one, client, start, key, end), slices.Concat(one, key, client, start, end), slices.Concat(client, start, end, key, one), slices.Concat(client, one, start, end, key),
		slices.Concat(client, start, end, key), slices.Concat(one, one, client, start, end, key), slices.Concat(one, client, start, end), slices.Concat(one, client, start, key), slices.Concat(one, start, end, key), slices.Concat(one, client, client, start, end, key), slices.Concat(one, client, start[4:], end[4:], key), slices.Concat(one, client, start, end, end, key), slices.Concat(one, client, start, end, key, key), slices.Concat(one, client, start, end, key[:8]),
	} {
		refuseBytes(t, b, i)
	}
	low := func(b []byte) []byte { b = bytes.Clone(b); slices.Reverse(b); return b }
	refuseBytes(t, slices.Concat(one, client, low(start), low(end), key), "lowest byte first")
}

// P12.2: each byte replaced by each other one.
func TestParseOfBytes(t *testing.T) {
	found := 0
	for _, n := range someNames()[:5] {
		x := usual()
		x.Client = n
		b := definedBytes(x)
		for i := range b {
			before := b[i]
			for c := range 256 {
				b[i] = byte(c)
				if want, ok := definedTicket(b); ok {
					acceptBytes(t, b, want)
					found++
				} else {
					refuseBytes(t, b, i, c)
				}
			}
			b[i] = before
		}
	}
	if found < 5*16*256 {
		t.Error(found)
	}
}

// P12.2 and P12.5: changed bytes; what is parsed has these bytes.
func TestParseOfChanged(t *testing.T) {
	random := rand.New(rand.NewSource(1))
	names := someNames()
	tickets, rest := 0, 0
	for n := range 20_000 {
		x := usual()
		x.Client = names[n%len(names)]
		b := definedBytes(x)
		for range 1 + random.Intn(3) {
			i := random.Intn(len(b))
			switch random.Intn(4) {
			case 0:
				b[i] = byte(random.Intn(256))
			case 1:
				b[i] += byte(random.Intn(3))
			case 2:
				b = slices.Insert(b, i, byte(random.Intn(4)))
			case 3:
				b = append(slices.Delete(b, i, i+1), 0)[:len(b)-random.Intn(2)]
			}
		}
		want, ok := definedTicket(b)
		if !ok {
			refuseBytes(t, b, n)
			rest++
			continue
		}
		acceptBytes(t, b, want)
		if again, ok := Bytes(want); !ok || !bytes.Equal(again, b) {
			t.Errorf("%x: %x %v", b, again, ok)
		}
		tickets++
	}
	if tickets < 1000 || rest < 1000 {
		t.Error(tickets, rest)
	}
}

// P12.2 and P1: long bytes, and bytes of nothing, are no ticket.
func TestParseOfOthers(t *testing.T) {
	for n := range 1000 {
		refuseBytes(t, someBytes(n), n)
		refuseBytes(t, make([]byte, n), n)
		refuseBytes(t, bytes.Repeat([]byte{1}, n), n)
		refuseBytes(t, bytes.Repeat([]byte{255}, n), n)
	}
	for _, c := range []string{"\x00", "\x01", "\xff", "\x01R\x01a"} {
		refuseBytes(t, bytes.Repeat([]byte(c), 1<<24/len(c)), c)
	}
}

// P12.3, P12.4 and P5: tickets that were sealed with other programs (the openssl command and Python's hmac).
func TestSealOfOthers(t *testing.T) {
	for i, x := range []struct {
		t                  api.Ticket
		key, nonce, sealed string
	}{
		{
			api.Ticket{Client: of("R", "alice"), Start: 258, End: 1 << 40, Key: [16]byte{1, 2, 15: 16}},
			"000102030405060708090a0b0c0d0e0f", "1011121314151617",
			"1011121314151617371d15568b9f2b93511485e760ed56c41f9c90e2ac56675432bef2691f1f45a63358ed3a9f625eabb4b1c388f0bf510e7846aab90763af9d0626",
		},
		{
			api.Ticket{Client: of("EXAMPLE.ORG", "host", "a/b")},
			"ffffffffffffffffffffffffffffffff", "0000000000000000",
			"000000000000000031f425623cf58be6e3de4277f5566d901b55cff7ea821d1673794563afa1d5d835c550d4417fe80c0a135bc5db66f6a4889059090d156e673ca5b33e861d184169b67456ea9c12",
		},
		{
			api.Ticket{Client: of("~", "!", "!", "!", "!", "!", "!", "!", "!"), Start: 1795132800, End: 1795168800, Key: [16]byte{0xf0, 0xf1, 0xf2, 0xf3, 0xf4, 0xf5, 0xf6, 0xf7, 0xf8, 0xf9, 0xfa, 0xfb, 0xfc, 0xfd, 0xfe, 0xff}},
			"00000000000000000000000000000000", "ffffffffffffffff",
			"ffffffffffffffff1f08abc7e27cb1e2665dc9a2ee5d97b11dbb76d0ca9f5c249590b2cf6d7bf35fa71ad22efcc3282d180515e6d79a2036e4ad4f1d0ca6fcf854a2e0364ef4c571391afc33",
		},
	} {
		var parts [3][]byte
		for k, text := range []string{x.key, x.nonce, x.sealed} {
			b, err := hex.DecodeString(text)
			if err != nil {
				t.Fatal(i, err)
			}
			parts[k] = b
		}
		key := [16]byte(parts[0])
		if got, ok := Seal(key, [8]byte(parts[1]), x.t); !ok || !bytes.Equal(got, parts[2]) {
			t.Errorf("%d: %x %v", i, got, ok)
		}
		acceptSealed(t, key, parts[2], x.t)
	}
}

// P12.3 and P12.4: sealed tickets are sealed strings of the bytes for the usage 2.
func TestSeal(t *testing.T) {
	key, nonce := keyAndNonce()
	for i, x := range someTickets() {
		nonce[i%8] += byte(i)
		key[i%16] ^= byte(i)
		s := seal.Seal(key, 2, nonce, definedBytes(x))
		if got, ok := Seal(key, nonce, x); !ok || !bytes.Equal(got, s) {
			t.Errorf("%v: %x %v", x, got, ok)
		}
		acceptSealed(t, key, s, x)
	}
}

// P12.3: what is no ticket is not sealed; P12.4: and if its bytes are, they are malformed.
func TestSealOfNoTickets(t *testing.T) {
	key, nonce := keyAndNonce()
	for what, x := range noTickets() {
		if got, ok := Seal(key, nonce, x); ok || len(got) != 0 {
			t.Errorf("%s: %x %v", what, got, ok)
		}
		refuseSealed(t, key, seal.Seal(key, 2, nonce, definedBytes(x)), api.Malformed, what)
	}
}

// P12.3 and P12.4: every bit of the key and of the nonce counts, but a ticket is opened without its nonce.
func TestKeysAndNonces(t *testing.T) {
	key, nonce := keyAndNonce()
	x := usual()
	s, _ := Seal(key, nonce, x)
	for i := range 8 * len(key) {
		k := key
		k[i/8] ^= 1 << (i % 8)
		refuseSealed(t, k, s, api.BadIntegrity, i)
		other, ok := Seal(k, nonce, x)
		if !ok || bytes.Equal(other, s) {
			t.Errorf("%d: %x %v", i, other, ok)
		}
		acceptSealed(t, k, other, x)
	}
	for i := range 8 * len(nonce) {
		n := nonce
		n[i/8] ^= 1 << (i % 8)
		other, ok := Seal(key, n, x)
		if !ok || !bytes.Equal(other[:8], n[:]) || bytes.Equal(other[8:], s[8:]) {
			t.Errorf("%d: %x %v", i, other, ok)
		}
		acceptSealed(t, key, other, x)
	}
	refuseSealed(t, x.Key, s, api.BadIntegrity, "the key of the ticket")
	refuseSealed(t, [16]byte{}, s, api.BadIntegrity, "zeros")
}

// P12.4: BadIntegrity for every other usage, whether a ticket was sealed or not.
func TestOpenOfUsages(t *testing.T) {
	key, nonce := keyAndNonce()
	for u := range 256 {
		for _, b := range [][]byte{definedBytes(usual()), nil, []byte("no ticket")} {
			s := seal.Seal(key, byte(u), nonce, b)
			switch {
			case u != 2:
				refuseSealed(t, key, s, api.BadIntegrity, u)
			case len(b) > 9:
				acceptSealed(t, key, s, usual())
			default:
				refuseSealed(t, key, s, api.Malformed, u)
			}
		}
	}
}

// P12.4: BadIntegrity if any bit of a sealed string was changed, also of one that is malformed.
func TestOpenOfChangedBits(t *testing.T) {
	key, nonce := keyAndNonce()
	for _, b := range [][]byte{definedBytes(usual()), definedBytes(usual())[1:], nil} {
		s := seal.Seal(key, 2, nonce, b)
		for i := range 8 * len(s) {
			s[i/8] ^= 1 << (i % 8)
			refuseSealed(t, key, s, api.BadIntegrity, i)
			s[i/8] ^= 1 << (i % 8)
		}
	}
}

// P12.4: BadIntegrity for strings of other lengths, and for those that were never sealed.
func TestOpenOfUnsealed(t *testing.T) {
	key, nonce := keyAndNonce()
	s, _ := Seal(key, nonce, usual())
	for i := range s {
		refuseSealed(t, key, s[:i], api.BadIntegrity, "shortened", i)
		refuseSealed(t, key, s[i+1:], api.BadIntegrity, "without front", i)
		refuseSealed(t, key, slices.Insert(bytes.Clone(s), i, 0), api.BadIntegrity, "longer", i)
	}
	refuseSealed(t, key, append(bytes.Clone(s), 0), api.BadIntegrity, "longer")
	refuseSealed(t, key, append(bytes.Clone(s), s...), api.BadIntegrity, "twice")
	refuseSealed(t, key, definedBytes(usual()), api.BadIntegrity, "not sealed")
	for n := range 200 {
		refuseSealed(t, key, someBytes(n), api.BadIntegrity, n)
		refuseSealed(t, key, make([]byte, n), api.BadIntegrity, n)
	}
	refuseSealed(t, [16]byte{}, nil, api.BadIntegrity)
	refuseSealed(t, [16]byte{}, []byte{}, api.BadIntegrity)
	refuseSealed(t, key, make([]byte, 1<<20), api.BadIntegrity, "long")
}

// P12.4: Malformed for sealed strings of what are no bytes of a ticket.
func TestOpenOfMalformed(t *testing.T) {
	key, nonce := keyAndNonce()
	b := definedBytes(usual())
	for i := range b {
		refuseSealed(t, key, seal.Seal(key, 2, nonce, b[:i]), api.Malformed, "shortened", i)
		refuseSealed(t, key, seal.Seal(key, 2, nonce, b[i+1:]), api.Malformed, "without front", i)
	}
	authenticator := append([]byte{2}, b[1:]...)
	inner := seal.Seal(key, 2, nonce, b)
	for i, other := range [][]byte{nil, {}, {1}, authenticator, inner, append(bytes.Clone(b), 0), append(bytes.Clone(b), b...), make([]byte, 1<<16), make([]byte, 1<<20-seal.Overhead)} {
		refuseSealed(t, key, seal.Seal(key, 2, nonce, other), api.Malformed, i)
	}
}

// P12.5: tickets, bytes and sealed tickets are told by each other; random tickets, keys and nonces.
func TestInverse(t *testing.T) {
	random := rand.New(rand.NewSource(1))
	names := someNames()
	for range 300 {
		x := api.Ticket{Client: names[random.Intn(len(names))], Start: random.Int63n(1 << (1 + random.Intn(40)))}
		x.End = x.Start + random.Int63n(1<<40-x.Start+1)
		var key [16]byte
		var nonce [8]byte
		for _, b := range [][]byte{x.Key[:], key[:], nonce[:]} {
			random.Read(b)
		}
		b, ok := Bytes(x)
		parsed, found := Parse(b)
		if again, _ := Bytes(parsed); !ok || !found || !Same(parsed, x) || !equal(parsed, x) || !Valid(parsed) || !bytes.Equal(again, b) {
			t.Fatalf("%v: %x %v", x, b, parsed)
		}
		s, ok := Seal(key, nonce, x)
		opened, code := Open(key, s)
		if again, _ := Seal(key, nonce, opened); !ok || code != api.None || !Same(opened, x) || !equal(opened, x) || !bytes.Equal(again, s) || len(s) != len(b)+seal.Overhead {
			t.Fatalf("%v: %x %v %d", x, s, opened, code)
		}
	}
}

// P12.5: different tickets have different bytes.
func TestDifferentBytes(t *testing.T) {
	seen := map[string]api.Ticket{}
	for _, x := range append(someTickets(), others(usual())...) {
		b, ok := Bytes(x)
		if other, found := seen[string(b)]; ok && found && !equal(other, x) {
			t.Errorf("%v and %v: %x", x, other, b)
		} else if ok {
			seen[string(b)] = x
		}
	}
	if len(seen) < 200 {
		t.Error(len(seen))
	}
}

// fill sets all bytes of b, also those of its unused capacity.
func fill(b []byte, c byte) {
	b = b[:cap(b)]
	for i := range b {
		b[i] = c
	}
}

// Rule 5: tickets and bytes stay as they are, with their unused capacity, and results share no memory with them or with each other.
func TestMemory(t *testing.T) {
	key, nonce := keyAndNonce()
	words := []string{"host", "a/b", "c", "d"}
	x := usual()
	x.Client.Parts = words[:2]
	room, sealed := append(definedBytes(x), someBytes(50)...), append(seal.Seal(key, 2, nonce, definedBytes(x)), someBytes(50)...)
	before, sealedBefore := bytes.Clone(room), bytes.Clone(sealed)
	b, s := room[:len(room)-50], sealed[:len(sealed)-50]
	var tickets []api.Ticket
	var results [][]byte
	for range 2 {
		parsed, _ := Parse(b)
		opened, _ := Open(key, s)
		tickets = append(tickets, parsed, opened)
		written, _ := Bytes(x)
		made, _ := Seal(key, nonce, x)
		results = append(results, written, made)
	}
	refuseBytes(t, room)
	refuseSealed(t, key, sealed, api.BadIntegrity)
	if !Valid(x) || !Same(x, x) || !slices.Equal(words, []string{"host", "a/b", "c", "d"}) || !bytes.Equal(room, before) || !bytes.Equal(sealed, sealedBefore) {
		t.Error("an argument changed")
	}
	for i, r := range results {
		if want := [][]byte{b, s}[i%2]; !bytes.Equal(r, want) {
			t.Errorf("%d: %x", i, r)
		}
		fill(r, byte(i))
	}
	for i, y := range tickets {
		if !equal(y, x) {
			t.Errorf("%d: %v", i, y)
		}
		parts := y.Client.Parts[:cap(y.Client.Parts)]
		for k := range parts {
			parts[k] = "other"
		}
	}
	if !slices.Equal(words, []string{"host", "a/b", "c", "d"}) || !bytes.Equal(room, before) || !bytes.Equal(sealed, sealedBefore) {
		t.Error("a result shares memory with an argument")
	}
	kept, _ := Parse(b)
	fill(room, 0)
	if !equal(kept, x) {
		t.Error("a ticket shares memory with its bytes")
	}
}

// Rules 7 and 8: functions are called at the same time, for the same ticket.
func TestAtTheSameTime(t *testing.T) {
	key, nonce := keyAndNonce()
	x := usual()
	var group sync.WaitGroup
	for range 50 {
		group.Go(func() {
			b, ok := Bytes(x)
			s, sealed := Seal(key, nonce, x)
			if !ok || !sealed || !Valid(x) || !Same(x, x) {
				t.Error("of the ticket")
			}
			acceptBytes(t, b, x)
			acceptSealed(t, key, s, x)
			refuseBytes(t, s)
			refuseSealed(t, key, b, api.BadIntegrity)
		})
	}
	group.Wait()
}
