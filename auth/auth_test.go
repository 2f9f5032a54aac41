package auth

import (
	"bytes"
	"crypto/sha256"
	"encoding/binary"
	"encoding/hex"
	"math"
	"math/rand"
	"slices"
	"strings"
	"sync"
	"testing"

	"toll/api"
	"toll/name"
	"toll/seal"
	"toll/wire"
)

// of returns the name with a realm and parts.
func of(realm string, parts ...string) api.Name { return api.Name{Realm: realm, Parts: parts} }

// letters returns n bytes a.
func letters(n int) string { return strings.Repeat("a", n) }

// someBytes returns n bytes of all values that look random, but are the same for the same n.
func someBytes(n int) []byte {
	b := make([]byte, n)
	rand.New(rand.NewSource(int64(n))).Read(b)
	return b
}

// keyAndNonce are those of most sealed authenticators: all of their bytes differ.
func keyAndNonce() (key [16]byte, nonce [8]byte) {
	b := someBytes(24)
	return [16]byte(b[:16]), [8]byte(b[16:])
}

// usual is the authenticator of most tests: all of its words and numbers differ.
func usual() api.Auth {
	return api.Auth{Client: of("R", "host", "a/b"), Time: 1 << 33, Micro: 0x0a0b0c, Seq: 0xf1f2f3f4}
}

// someNames are names with few and many parts, and with short and long words.
func someNames() []api.Name {
	long := letters(100)
	return []api.Name{
		of("R", "alice"), of("!", "~"), of("~", "!"), of("R", "host", "a/b"), of("R@S", `a\`, "@"), of("R", "a", "b", "c", "d", "e", "f", "g", "h"), of(long, long), of(long, long, long, long, long, long, long, long, long),
	}
}

// noNames are no names, with a description of each; all of them have bytes in the form of a name.
func noNames() map[string]api.Name {
	return map[string]api.Name{
		"nothing":    {},
		"no parts":   of("R"),
		"no realm":   of("", "a"),
		"empty part": of("R", "a", ""),
		"nine parts": of("R", "a", "b", "c", "d", "e", "f", "g", "h", "i"),
		"long realm": of(letters(101), "a"),
		"long part":  of("R", letters(101)),
		"space":      of("R", "a b"),
		"delete":     of("R\x7f", "a"),
		"rune":       of("R", "ä"),
	}
}

// someTimes are times around the limits of authenticators, of 32 and of 64 bits.
func someTimes() []int64 {
	return []int64{math.MinInt64, math.MinInt64 + 1, -1 << 40, -1 << 32, -256, -1, 0, 1, 2, 255, 256, 258, 1<<31 - 1, 1 << 31, 1<<32 - 1, 1 << 32, 1<<32 + 1, 1<<40 - 1, 1 << 40, 1<<40 + 1, 1 << 41, 1<<40 | 1<<48, 1 << 56, 1 << 62, math.MaxInt64 - 1, math.MaxInt64}
}

// someNumbers are numbers around the limits of Micro and of 8 to 32 bits, for Micro and Seq.
func someNumbers() []uint32 {
	return []uint32{0, 1, 2, 255, 256, 258, 1<<16 - 1, 1 << 16, 999_998, 999_999, 1_000_000, 1_000_001, 1<<20 - 1, 1 << 20, 1 << 24, 1<<31 - 1, 1 << 31, 1<<31 + 5, math.MaxUint32 - 1, math.MaxUint32}
}

// hasFields reports whether an authenticator can have a time and microseconds; it can have every Seq.
func hasFields(time int64, micro uint32) bool {
	return time >= 0 && time <= 1099511627776 && micro <= 999999
}

// someAuths are authenticators of all names and numbers.
func someAuths() []api.Auth {
	l := []api.Auth{usual()}
	for i, n := range someNames() {
		for k, time := range someTimes() {
			for m, micro := range someNumbers() {
				for s, seq := range someNumbers() {
					if hasFields(time, micro) && (i+k+m+s)%7 == 0 {
						l = append(l, api.Auth{Client: n, Time: time, Micro: micro, Seq: seq})
					}
				}
			}
		}
	}
	return l
}

// noAuths are no authenticators, with a description of each.
func noAuths() map[string]api.Auth {
	l := map[string]api.Auth{"nothing": {}, "only numbers": {Time: 1, Micro: 2, Seq: 3}, "only a sequence number": {Seq: 1}}
	for what, n := range noNames() {
		a := usual()
		a.Client = n
		l[what] = a
	}
	for what, time := range map[string]int64{
		"negative": -1, "negative in 32 bits": -1 << 32, "least": math.MinInt64, "late": 1<<40 + 1, "twice as late": 1 << 41, "latest": math.MaxInt64, "bit 63": math.MinInt64 + 5,
	} {
		a := usual()
		a.Time = time
		l[what] = a
	}
	for what, micro := range map[string]uint32{"a second": 1_000_000, "more than a second": 1_000_001, "bit 20": 1 << 20, "bit 31": 1<<31 + 5, "most": math.MaxUint32} {
		a := usual()
		a.Micro = micro
		l[what] = a
	}
	return l
}

// nameBytes returns the bytes of a name by the definition, also of what is none.
func nameBytes(n api.Name) []byte {
	b := append([]byte{byte(len(n.Realm))}, n.Realm...)
	b = append(b, byte(len(n.Parts)))
	for _, p := range n.Parts {
		b = append(append(b, byte(len(p))), p...)
	}
	return b
}

// definedBytes returns the bytes of an authenticator by the definition, also of what is none.
func definedBytes(a api.Auth) []byte {
	b := append([]byte{2}, nameBytes(a.Client)...)
	b = binary.BigEndian.AppendUint64(b, uint64(a.Time))
	b = binary.BigEndian.AppendUint32(b, a.Micro)
	return binary.BigEndian.AppendUint32(b, a.Seq)
}

// definedAuth returns the authenticator with these bytes, from the last field to the first.
func definedAuth(b []byte) (api.Auth, bool) {
	end := len(b)
	if end < 1+16 || b[0] != 2 {
		return api.Auth{}, false
	}
	r := wire.New(b[1 : end-16])
	n, ok := name.Read(r)
	a := api.Auth{Client: n, Time: int64(binary.BigEndian.Uint64(b[end-16:])), Micro: binary.BigEndian.Uint32(b[end-8:]), Seq: binary.BigEndian.Uint32(b[end-4:])}
	if !ok || !r.Done() || !hasFields(a.Time, a.Micro) {
		return api.Auth{}, false
	}
	return a, true
}

// equal reports whether two authenticators are equal, without Same.
func equal(a, b api.Auth) bool {
	return a.Client.Realm == b.Client.Realm && slices.Equal(a.Client.Parts, b.Client.Parts) && [3]uint64{uint64(a.Time), uint64(a.Micro), uint64(a.Seq)} == [3]uint64{uint64(b.Time), uint64(b.Micro), uint64(b.Seq)}
}

// acceptBytes checks that b are the bytes of an authenticator.
func acceptBytes(t testing.TB, b []byte, want api.Auth) {
	t.Helper()
	if a, ok := Parse(b); !ok || !equal(a, want) {
		t.Errorf("%x: %v %v, not %v", b, a, ok, want)
	}
}

// refuseBytes checks that b are no bytes of an authenticator.
func refuseBytes(t testing.TB, b []byte, what ...any) {
	t.Helper()
	if a, ok := Parse(b); ok || !equal(a, api.Auth{}) {
		t.Errorf("%v: %.99x are bytes of an authenticator: %v %v", what, b, a, ok)
	}
}

// acceptSealed checks that s is a sealed authenticator.
func acceptSealed(t testing.TB, key [16]byte, s []byte, want api.Auth) {
	t.Helper()
	if a, code := Open(key, s); code != 0 || !equal(a, want) {
		t.Errorf("%x: %v %d, not %v", s, a, code, want)
	}
}

// refuseSealed checks that s is no sealed authenticator, and why.
func refuseSealed(t testing.TB, key [16]byte, s []byte, want api.Code, what ...any) {
	t.Helper()
	if a, code := Open(key, s); code != want || !equal(a, api.Auth{}) {
		t.Errorf("%v: %.99x: %v %d, not %d", what, s, a, code, want)
	}
}

// P13.1: authenticators, and what is none.
func TestValid(t *testing.T) {
	for _, a := range someAuths() {
		if !Valid(a) {
			t.Errorf("%v", a)
		}
	}
	for what, a := range noAuths() {
		if Valid(a) {
			t.Errorf("%s: %v", what, a)
		}
	}
}

// P13.1 and the chapter's example: each time with each number of microseconds and each sequence number.
func TestValidNumbers(t *testing.T) {
	a := usual()
	for _, a.Time = range someTimes() {
		for _, a.Micro = range someNumbers() {
			for _, a.Seq = range someNumbers() {
				if Valid(a) != hasFields(a.Time, a.Micro) {
					t.Errorf("time %d, micro %d, seq %d: %v", a.Time, a.Micro, a.Seq, Valid(a))
				}
			}
		}
	}
	a = usual()
	for a.Micro = range uint32(1_100_000) {
		if Valid(a) != (a.Micro < 1_000_000) {
			t.Fatalf("micro %d: %v", a.Micro, Valid(a))
		}
	}
}

// P13.1: the client of an authenticator is a name, whatever the other fields are.
func TestValidClients(t *testing.T) {
	for size := range 300 {
		word := letters(size)
		for k, n := range []api.Name{of(word, "a"), of("R", word), of("R", "a", word)} {
			a := usual()
			a.Client = n
			if Valid(a) != (1 <= size && size <= 100) {
				t.Errorf("%d bytes: name %d: %v", size, k, Valid(a))
			}
		}
		a := usual()
		a.Client = of("R", slices.Repeat([]string{"a"}, size)...)
		if Valid(a) != (1 <= size && size <= 8) {
			t.Errorf("%d parts: %v", size, Valid(a))
		}
	}
	for c := range 256 {
		for k, n := range []api.Name{of(string([]byte{'a', byte(c)}), "a"), of("R", "a", string([]byte{byte(c)}))} {
			a := usual()
			a.Client = n
			if Valid(a) != (33 <= c && c <= 126) {
				t.Errorf("byte %d: name %d: %v", c, k, Valid(a))
			}
		}
	}
}

// others returns authenticators that differ from a in one field, by each bit of the numbers.
func others(a api.Auth) []api.Auth {
	var l []api.Auth
	for i := range 64 {
		b := a
		b.Time ^= 1 << i
		l = append(l, b)
	}
	for i := range 32 {
		b, c := a, a
		b.Micro ^= 1 << i
		c.Seq ^= 1 << i
		l = append(l, b, c)
	}
	for _, n := range append(someNames(), of(a.Client.Realm), of("", a.Client.Parts...), of(a.Client.Realm+"S", a.Client.Parts...), of(a.Client.Realm, append([]string{"a"}, a.Client.Parts...)...)) {
		b := a
		b.Client = n
		if n.Realm != a.Client.Realm || !slices.Equal(n.Parts, a.Client.Parts) {
			l = append(l, b)
		}
	}
	return l
}

// P13.1: authenticators are the same only if all fields are.
func TestSame(t *testing.T) {
	for _, a := range someAuths()[:100] {
		same := a
		same.Client.Parts = slices.Clone(a.Client.Parts)
		if !Same(a, a) || !Same(a, same) || !Same(same, a) {
			t.Errorf("%v: not its copy", a)
		}
		for _, b := range others(a) {
			if Same(a, b) || Same(b, a) {
				t.Errorf("%v: as %v", a, b)
			}
		}
	}
	swapped := usual()
	swapped.Micro, swapped.Seq = 5, 6
	a := swapped
	a.Micro, a.Seq = 6, 5
	if Same(a, swapped) {
		t.Error("micro and seq swapped")
	}
}

// P13.1: all pairs of some authenticators, and of what is none.
func TestSameOfAll(t *testing.T) {
	l := others(usual())
	for i, a := range someAuths() {
		if i%10 == 0 {
			l = append(l, a)
		}
	}
	for _, a := range noAuths() {
		l = append(l, a)
	}
	for i, a := range l {
		for k, b := range l {
			if Same(a, b) != equal(a, b) || i == k && !Same(a, b) {
				t.Fatalf("%v %v: %v", a, b, Same(a, b))
			}
		}
	}
	none, empty := api.Auth{}, api.Auth{Client: api.Name{Parts: []string{}}}
	if !Same(none, empty) || !Same(empty, none) {
		t.Error("nil and empty parts")
	}
}

// written are authenticators with their bytes, written out, and with their digests and sealed ones (from the openssl command, and Python's hashlib and hmac).
func written() []struct {
	auth                     api.Auth
	bytes, digest            string
	key, nonce, sealed, what string
} {
	return []struct {
		auth                     api.Auth
		bytes, digest            string
		key, nonce, sealed, what string
	}{
		{
			api.Auth{Client: of("R", "alice"), Time: 258},
			"\x02\x01R\x01\x05alice\x00\x00\x00\x00\x00\x00\x01\x02\x00\x00\x00\x00\x00\x00\x00\x00",
			"ca4f6d19577f6cc03feec0496e478b8db28fbc374a8b9f7b901697394ff06701",
			"00000000000000000000000000000000", "0000000000000000",
			"0000000000000000d4294236741fb77c62e26441f74441e4012a177627b71f47dc1fdd134f3d1f0cd126fb00cf581283dde9",
			"small numbers",
		},
		{
			api.Auth{Client: of("AB", "host", "a/b"), Time: 1 << 40, Micro: 999999, Seq: 1<<32 - 1},
			"\x02\x02AB\x02\x04host\x03a/b\x00\x00\x01\x00\x00\x00\x00\x00\x00\x0f\x42\x3f\xff\xff\xff\xff",
			"44c3fcbca259a370733e90fd92a17e276f95e8ab1cf8f7ffa04a0e86a750924d",
			"000102030405060708090a0b0c0d0e0f", "0102030405060708",
			"01020304050607088b8e418e99297f9b8c1bb45fa9dd6140ccedd8ca9c1cdc5e1420b718069ddcd1af3e7d0be687041b3142845471fd",
			"the greatest numbers",
		},
		{
			api.Auth{Client: of("~", "!"), Time: 0x0102030405, Micro: 0x000a0b0c, Seq: 0x0d0e0f10},
			"\x02\x01~\x01\x01!\x00\x00\x00\x01\x02\x03\x04\x05\x00\x0a\x0b\x0c\x0d\x0e\x0f\x10",
			"c054ec55177780141402dc1a7eefa65946e1fabe67d76e7d0bbe57935bb11b91",
			"616e20656e63727970746564206b6579", "61206e6f6e636521",
			"61206e6f6e636521a75773c47cb807f6f2f6f7982174480f35573f0aefa0bdab40f6c38ce39df7aeea424a5a9050",
			"different bytes",
		},
	}
}

// ofHex returns the bytes that a text tells in hexadecimal digits.
func ofHex(t *testing.T, s string) []byte {
	t.Helper()
	b, err := hex.DecodeString(s)
	if err != nil {
		t.Fatal(err)
	}
	return b
}

// P13.2, P13.3 and P5: bytes, digests and sealed authenticators, written out.
func TestWritten(t *testing.T) {
	for _, x := range written() {
		if b, ok := Bytes(x.auth); !ok || string(b) != x.bytes {
			t.Errorf("%s: %q %v", x.what, b, ok)
		}
		acceptBytes(t, []byte(x.bytes), x.auth)
		if d, ok := Digest(x.auth); !ok || !bytes.Equal(d[:], ofHex(t, x.digest)) {
			t.Errorf("%s: %x %v", x.what, d, ok)
		}
		key, nonce, sealed := [16]byte(ofHex(t, x.key)), [8]byte(ofHex(t, x.nonce)), ofHex(t, x.sealed)
		if s, ok := Seal(key, nonce, x.auth); !ok || !bytes.Equal(s, sealed) {
			t.Errorf("%s: %x %v", x.what, s, ok)
		}
		acceptSealed(t, key, sealed, x.auth)
	}
}

// P13.2: bytes and digests of all authenticators, by the definition.
func TestBytesAndDigests(t *testing.T) {
	for _, a := range someAuths() {
		want := definedBytes(a)
		if b, ok := Bytes(a); !ok || !bytes.Equal(b, want) {
			t.Errorf("%v: %x %v", a, b, ok)
		}
		if d, ok := Digest(a); !ok || d != sha256.Sum256(want) {
			t.Errorf("%v: %x %v", a, d, ok)
		}
		acceptBytes(t, want, a)
	}
}

// P13.2: what is no authenticator has no bytes and no digest, and is not parsed.
func TestBytesOfNoAuths(t *testing.T) {
	for what, a := range noAuths() {
		if b, ok := Bytes(a); ok || len(b) != 0 {
			t.Errorf("%s: %x %v", what, b, ok)
		}
		if d, ok := Digest(a); ok || d != (api.Digest{}) {
			t.Errorf("%s: %x %v", what, d, ok)
		}
		refuseBytes(t, definedBytes(a), what)
	}
}

// P13.2: each time with each number of microseconds and each sequence number, in bytes.
func TestParseOfNumbers(t *testing.T) {
	a := usual()
	for _, a.Time = range someTimes() {
		for _, a.Micro = range someNumbers() {
			for _, a.Seq = range someNumbers() {
				if hasFields(a.Time, a.Micro) {
					acceptBytes(t, definedBytes(a), a)
				} else {
					refuseBytes(t, definedBytes(a), a)
				}
			}
		}
	}
}

// P13.2: the first byte is 2.
func TestParseOfFirst(t *testing.T) {
	for c := range 256 {
		b := definedBytes(usual())
		b[0] = byte(c)
		if c == 2 {
			acceptBytes(t, b, usual())
		} else {
			refuseBytes(t, b, c)
		}
	}
}

// P13.2: no part of the bytes of an authenticator is enough, and nothing follows them.
func TestParseOfOtherLengths(t *testing.T) {
	refuseBytes(t, nil)
	refuseBytes(t, []byte{})
	for _, n := range someNames() {
		a := usual()
		a.Client = n
		b := definedBytes(a)
		for i := range b {
			refuseBytes(t, b[:i], "shortened", i)
			refuseBytes(t, b[i+1:], "without front", i)
			refuseBytes(t, append(bytes.Clone(b), b[:i+1]...), "longer", i)
		}
		for _, more := range []string{"\x00", "\x02", "\xff", letters(4), letters(8), letters(16), letters(1 << 20)} {
			refuseBytes(t, append(bytes.Clone(b), more...), "longer", len(more))
			refuseBytes(t, append([]byte(more), b...), "more in front", len(more))
		}
	}
}

// P13.2: the fields have their order and their sizes.
func TestParseOfOtherOrders(t *testing.T) {
	a := usual()
	client, time := nameBytes(a.Client), binary.BigEndian.AppendUint64(nil, uint64(a.Time))
	micro, seq := binary.BigEndian.AppendUint32(nil, a.Micro), binary.BigEndian.AppendUint32(nil, a.Seq)
	two, zeros := []byte{2}, make([]byte, 4)
	acceptBytes(t, slices.Concat(two, client, time, micro, seq), a)
	for i, b := range [][]byte{
		slices.Concat(two, client, time, seq, micro), slices.Concat(two, client, micro, seq, time), slices.Concat(two, client, micro, time, seq), slices.Concat(two, client, seq, time, micro), slices.Concat(two, time, client, micro, seq), slices.Concat(two, time, micro, seq, client), slices.Concat(client, time, micro, seq, two), slices.Concat(client, two, time, micro, seq),
		slices.Concat(client, time, micro, seq), slices.Concat(two, two, client, time, micro, seq), slices.Concat(two, client, time, micro), slices.Concat(two, client, time, seq), slices.Concat(two, client, micro, seq), slices.Concat(two, time, micro, seq), slices.Concat(two, client, client, time, micro, seq), slices.Concat(two, client, time, time, micro, seq), slices.Concat(two, client, time, micro, micro, seq), slices.Concat(two, client, time, micro, seq, seq),
		slices.Concat(two, client, time[4:], micro, seq), slices.Concat(two, client, time, micro[1:], seq), slices.Concat(two, client, time, micro, seq[2:]), slices.Concat(two, client, time, zeros, micro, seq), slices.Concat(two, client, time, micro, zeros, seq), slices.Concat(two, client, time, zeros, micro, zeros, seq), slices.Concat(two, client, zeros, time, micro, seq),
	} {
		refuseBytes(t, b, i)
	}
	low := func(b []byte) []byte { b = bytes.Clone(b); slices.Reverse(b); return b }
	refuseBytes(t, slices.Concat(two, client, low(time), low(micro), low(seq)), "lowest byte first")
}

// P13.2: each byte replaced by each other one.
func TestParseOfBytes(t *testing.T) {
	found := 0
	for _, n := range someNames()[:5] {
		a := usual()
		a.Client = n
		b := definedBytes(a)
		for i := range b {
			before := b[i]
			for c := range 256 {
				b[i] = byte(c)
				if want, ok := definedAuth(b); ok {
					acceptBytes(t, b, want)
					found++
				} else {
					refuseBytes(t, b, i, c)
				}
			}
			b[i] = before
		}
	}
	if found < 5*8*256 {
		t.Error(found)
	}
}

// P13.2 and P13.4: changed bytes; what is parsed has these bytes.
func TestParseOfChanged(t *testing.T) {
	random := rand.New(rand.NewSource(1))
	names := someNames()
	auths, rest := 0, 0
	for n := range 20_000 {
		a := usual()
		a.Client = names[n%len(names)]
		b := definedBytes(a)
		for range 1 + random.Intn(3) {
			i := random.Intn(len(b))
			switch random.Intn(4) {
			case 0:
				b[i] = byte(random.Intn(256))
			case 1:
				b[i] += byte(random.Intn(3))
			case 2:
				b = slices.Insert(b, i, byte(random.Intn(4)))
			case 3:
				b = append(slices.Delete(b, i, i+1), 0)[:len(b)-random.Intn(2)]
			}
		}
		want, ok := definedAuth(b)
		if !ok {
			refuseBytes(t, b, n)
			rest++
			continue
		}
		acceptBytes(t, b, want)
		if again, ok := Bytes(want); !ok || !bytes.Equal(again, b) {
			t.Errorf("%x: %x %v", b, again, ok)
		}
		auths++
	}
	if auths < 1000 || rest < 1000 {
		t.Error(auths, rest)
	}
}

// P13.2 and P1: long bytes, and bytes of nothing, are no authenticator.
func TestParseOfOthers(t *testing.T) {
	for n := range 1000 {
		refuseBytes(t, someBytes(n), n)
		refuseBytes(t, make([]byte, n), n)
		refuseBytes(t, bytes.Repeat([]byte{2}, n), n)
		refuseBytes(t, bytes.Repeat([]byte{255}, n), n)
	}
	for _, c := range []string{"\x00", "\x02", "\xff", "\x02R\x01a"} {
		refuseBytes(t, bytes.Repeat([]byte(c), 1<<24/len(c)), c)
	}
}

// P13.3: sealed authenticators are sealed strings of the bytes for the usage 11.
func TestSeal(t *testing.T) {
	key, nonce := keyAndNonce()
	for i, a := range someAuths() {
		if i%5 != 0 {
			continue
		}
		nonce[i%8] += byte(i)
		key[i%16] ^= byte(i)
		s := seal.Seal(key, 11, nonce, definedBytes(a))
		if got, ok := Seal(key, nonce, a); !ok || !bytes.Equal(got, s) {
			t.Errorf("%v: %x %v", a, got, ok)
		}
		acceptSealed(t, key, s, a)
	}
}

// P13.3: what is no authenticator is not sealed, and if its bytes are, they are malformed.
func TestSealOfNoAuths(t *testing.T) {
	key, nonce := keyAndNonce()
	for what, a := range noAuths() {
		if got, ok := Seal(key, nonce, a); ok || len(got) != 0 {
			t.Errorf("%s: %x %v", what, got, ok)
		}
		refuseSealed(t, key, seal.Seal(key, 11, nonce, definedBytes(a)), api.Malformed, what)
	}
}

// P13.3: every bit of the key and of the nonce counts, but an authenticator is opened without its nonce.
func TestKeysAndNonces(t *testing.T) {
	key, nonce := keyAndNonce()
	a := usual()
	s, _ := Seal(key, nonce, a)
	for i := range 8 * len(key) {
		k := key
		k[i/8] ^= 1 << (i % 8)
		refuseSealed(t, k, s, api.BadIntegrity, i)
		other, ok := Seal(k, nonce, a)
		if !ok || bytes.Equal(other, s) {
			t.Errorf("%d: %x %v", i, other, ok)
		}
		acceptSealed(t, k, other, a)
	}
	for i := range 8 * len(nonce) {
		n := nonce
		n[i/8] ^= 1 << (i % 8)
		other, ok := Seal(key, n, a)
		if !ok || !bytes.Equal(other[:8], n[:]) || bytes.Equal(other[8:], s[8:]) {
			t.Errorf("%d: %x %v", i, other, ok)
		}
		acceptSealed(t, key, other, a)
	}
	refuseSealed(t, [16]byte{}, s, api.BadIntegrity, "zeros")
}

// P13.3: BadIntegrity for every other usage, whether an authenticator was sealed or not.
func TestOpenOfUsages(t *testing.T) {
	key, nonce := keyAndNonce()
	for u := range 256 {
		for _, b := range [][]byte{definedBytes(usual()), nil, []byte("none")} {
			s := seal.Seal(key, byte(u), nonce, b)
			switch {
			case u != 11:
				refuseSealed(t, key, s, api.BadIntegrity, u)
			case len(b) > 4:
				acceptSealed(t, key, s, usual())
			default:
				refuseSealed(t, key, s, api.Malformed, u)
			}
		}
	}
}

// P13.3: BadIntegrity if any bit of a sealed string was changed, also of one that is malformed.
func TestOpenOfChangedBits(t *testing.T) {
	key, nonce := keyAndNonce()
	for _, b := range [][]byte{definedBytes(usual()), definedBytes(usual())[1:], nil} {
		s := seal.Seal(key, 11, nonce, b)
		for i := range 8 * len(s) {
			s[i/8] ^= 1 << (i % 8)
			refuseSealed(t, key, s, api.BadIntegrity, i)
			s[i/8] ^= 1 << (i % 8)
		}
	}
}

// P13.3: BadIntegrity for strings of other lengths, and for those that were never sealed.
func TestOpenOfUnsealed(t *testing.T) {
	key, nonce := keyAndNonce()
	s, _ := Seal(key, nonce, usual())
	for i := range s {
		refuseSealed(t, key, s[:i], api.BadIntegrity, "shortened", i)
		refuseSealed(t, key, s[i+1:], api.BadIntegrity, "without front", i)
		refuseSealed(t, key, slices.Insert(bytes.Clone(s), i, 0), api.BadIntegrity, "longer", i)
	}
	refuseSealed(t, key, append(bytes.Clone(s), 0), api.BadIntegrity, "longer")
	refuseSealed(t, key, append(bytes.Clone(s), s...), api.BadIntegrity, "twice")
	refuseSealed(t, key, definedBytes(usual()), api.BadIntegrity, "not sealed")
	for n := range 200 {
		refuseSealed(t, key, someBytes(n), api.BadIntegrity, n)
		refuseSealed(t, key, make([]byte, n), api.BadIntegrity, n)
	}
	refuseSealed(t, [16]byte{}, nil, api.BadIntegrity)
	refuseSealed(t, [16]byte{}, []byte{}, api.BadIntegrity)
	refuseSealed(t, key, make([]byte, 1<<20), api.BadIntegrity, "long")
}

// P13.3: Malformed for sealed strings of what are no bytes of an authenticator.
func TestOpenOfMalformed(t *testing.T) {
	key, nonce := keyAndNonce()
	b := definedBytes(usual())
	for i := range b {
		refuseSealed(t, key, seal.Seal(key, 11, nonce, b[:i]), api.Malformed, "shortened", i)
		refuseSealed(t, key, seal.Seal(key, 11, nonce, b[i+1:]), api.Malformed, "without front", i)
	}
	ticket := append([]byte{1}, b[1:]...)
	inner := seal.Seal(key, 11, nonce, b)
	for i, other := range [][]byte{nil, {}, {2}, ticket, inner, append(bytes.Clone(b), 0), append(bytes.Clone(b), b...), make([]byte, 1<<16), make([]byte, 1<<20-seal.Overhead)} {
		refuseSealed(t, key, seal.Seal(key, 11, nonce, other), api.Malformed, i)
	}
}

// P13.4: authenticators, bytes and sealed authenticators are told by each other; random ones, keys and nonces.
func TestInverse(t *testing.T) {
	random := rand.New(rand.NewSource(1))
	names := someNames()
	for range 300 {
		a := api.Auth{Client: names[random.Intn(len(names))], Time: random.Int63n(1 << (1 + random.Intn(40))), Micro: uint32(random.Intn(1_000_000)), Seq: random.Uint32()}
		var key [16]byte
		var nonce [8]byte
		random.Read(key[:])
		random.Read(nonce[:])
		b, ok := Bytes(a)
		parsed, found := Parse(b)
		if again, _ := Bytes(parsed); !ok || !found || !Same(parsed, a) || !equal(parsed, a) || !Valid(parsed) || !bytes.Equal(again, b) {
			t.Fatalf("%v: %x %v", a, b, parsed)
		}
		s, ok := Seal(key, nonce, a)
		opened, code := Open(key, s)
		if again, _ := Seal(key, nonce, opened); !ok || code != api.None || !Same(opened, a) || !equal(opened, a) || !bytes.Equal(again, s) || len(s) != len(b)+seal.Overhead {
			t.Fatalf("%v: %x %v %d", a, s, opened, code)
		}
	}
}

// P13.4: authenticators have the same bytes, and the same digest, only if they are the same.
func TestDifferentBytes(t *testing.T) {
	seen, digests := map[string]api.Auth{}, map[api.Digest]api.Auth{}
	for _, a := range append(someAuths(), others(usual())...) {
		b, ok := Bytes(a)
		if !ok {
			continue
		}
		if other, found := seen[string(b)]; found && (!equal(other, a) || !Same(other, a)) {
			t.Errorf("%v and %v: %x", a, other, b)
		}
		d, _ := Digest(a)
		if other, found := digests[d]; found && !equal(other, a) {
			t.Errorf("%v and %v: %x", a, other, d)
		}
		seen[string(b)], digests[d] = a, a
	}
	if len(seen) < 1000 || len(digests) != len(seen) {
		t.Error(len(seen), len(digests))
	}
}

// fill sets all bytes of b, also those of its unused capacity.
func fill(b []byte, c byte) {
	b = b[:cap(b)]
	for i := range b {
		b[i] = c
	}
}

// Rule 5: authenticators and bytes stay as they are, with their unused capacity, and results share no memory with them or with each other.
func TestMemory(t *testing.T) {
	key, nonce := keyAndNonce()
	words := []string{"host", "a/b", "c", "d"}
	a := usual()
	a.Client.Parts = words[:2]
	room, sealed := append(definedBytes(a), someBytes(50)...), append(seal.Seal(key, 11, nonce, definedBytes(a)), someBytes(50)...)
	before, sealedBefore := bytes.Clone(room), bytes.Clone(sealed)
	b, s := room[:len(room)-50], sealed[:len(sealed)-50]
	var auths []api.Auth
	var results [][]byte
	for range 2 {
		parsed, _ := Parse(b)
		opened, _ := Open(key, s)
		auths = append(auths, parsed, opened)
		bytesOf, _ := Bytes(a)
		made, _ := Seal(key, nonce, a)
		results = append(results, bytesOf, made)
	}
	refuseBytes(t, room)
	refuseSealed(t, key, sealed, api.BadIntegrity)
	if d, ok := Digest(a); !ok || d != sha256.Sum256(b) || !Valid(a) || !Same(a, a) || !slices.Equal(words, []string{"host", "a/b", "c", "d"}) || !bytes.Equal(room, before) || !bytes.Equal(sealed, sealedBefore) {
		t.Error("an argument changed")
	}
	for i, r := range results {
		if want := [][]byte{b, s}[i%2]; !bytes.Equal(r, want) {
			t.Errorf("%d: %x", i, r)
		}
		fill(r, byte(i))
	}
	for i, x := range auths {
		if !equal(x, a) {
			t.Errorf("%d: %v", i, x)
		}
		parts := x.Client.Parts[:cap(x.Client.Parts)]
		for k := range parts {
			parts[k] = "other"
		}
	}
	if !slices.Equal(words, []string{"host", "a/b", "c", "d"}) || !bytes.Equal(room, before) || !bytes.Equal(sealed, sealedBefore) {
		t.Error("a result shares memory with an argument")
	}
	kept, _ := Parse(b)
	fill(room, 0)
	if !equal(kept, a) {
		t.Error("an authenticator shares memory with its bytes")
	}
}

// Rules 7 and 8: functions are called at the same time, for the same authenticator.
func TestAtTheSameTime(t *testing.T) {
	key, nonce := keyAndNonce()
	a := usual()
	var group sync.WaitGroup
	for range 50 {
		group.Go(func() {
			b, ok := Bytes(a)
			s, sealed := Seal(key, nonce, a)
			d, made := Digest(a)
			if !ok || !sealed || !made || d != sha256.Sum256(b) || !Valid(a) || !Same(a, a) {
				t.Error("of the authenticator")
			}
			acceptBytes(t, b, a)
			acceptSealed(t, key, s, a)
			refuseBytes(t, s)
			refuseSealed(t, key, b, api.BadIntegrity)
		})
	}
	group.Wait()
}
