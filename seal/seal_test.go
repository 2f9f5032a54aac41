package seal

import (
	"bytes"
	"crypto/aes"
	"crypto/cipher"
	"crypto/hmac"
	"crypto/sha256"
	"encoding/hex"
	"math/rand"
	"sync"
	"testing"

	"toll/ctr"
	"toll/mac"
)

// someBytes returns n bytes of all values that look random, but are the same for the same n.
func someBytes(n int) []byte {
	b := make([]byte, n)
	rand.New(rand.NewSource(int64(n))).Read(b)
	return b
}

// keyAndNonce are those of most tests: all of their bytes differ.
func keyAndNonce() (key [16]byte, nonce [8]byte) {
	b := someBytes(24)
	return [16]byte(b[:16]), [8]byte(b[16:])
}

// unhex returns the bytes of a hexadecimal text.
func unhex(t testing.TB, text string) []byte {
	t.Helper()
	b, err := hex.DecodeString(text)
	if err != nil {
		t.Fatal(text, err)
	}
	return b
}

// codeOf returns the code of the parts under a key, made by the library.
func codeOf(key []byte, parts ...[]byte) []byte {
	h := hmac.New(sha256.New, key)
	for _, p := range parts {
		h.Write(p)
	}
	return h.Sum(nil)
}

// derived returns the first 32 bytes of the derived strings of a key and a label, made by the library.
func derived(key [16]byte, label string) []byte {
	return codeOf(key[:], []byte{1}, []byte(label))
}

// combined returns the exclusive or of b and the stream of a key and a nonce, made by the library.
func combined(t testing.TB, key []byte, nonce [8]byte, b []byte) []byte {
	t.Helper()
	c, err := aes.NewCipher(key)
	if err != nil {
		t.Fatal(err)
	}
	s := make([]byte, len(b))
	cipher.NewCTR(c, append(nonce[:], make([]byte, 8)...)).XORKeyStream(s, b)
	return s
}

// sealed returns the sealed string of b by the definition.
func sealed(t testing.TB, key [16]byte, usage byte, nonce [8]byte, b []byte) []byte {
	t.Helper()
	front := append(nonce[:], combined(t, derived(key, "encrypt")[:16], nonce, b)...)
	return append(front, codeOf(derived(key, "protect"), []byte{usage}, front)[:16]...)
}

// refuse checks that a string is not opened.
func refuse(t testing.TB, key [16]byte, usage byte, s []byte, what ...any) {
	t.Helper()
	if b, ok := Open(key, usage, s); ok || len(b) != 0 {
		t.Errorf("%v: %x %v", what, b, ok)
	}
}

// accept checks that a string is opened, and what it contains.
func accept(t testing.TB, key [16]byte, usage byte, s, want []byte, what ...any) {
	t.Helper()
	if b, ok := Open(key, usage, s); !ok || !bytes.Equal(b, want) {
		t.Errorf("%v: %d bytes %v", what, len(b), ok)
	}
}

// P9.1, P9.2 and P5: strings that were sealed with other programs (the openssl command and Python's hmac).
func TestSealOfOthers(t *testing.T) {
	for i, x := range []struct {
		key    string
		usage  byte
		nonce  string
		b      string
		e, m   string
		sealed string
	}{
		{
			"00000000000000000000000000000000", 0, "0000000000000000", "",
			"15db90261ef3f3313ad91b0714a5a767",
			"95b3453c37366ae68be8b286722c1b8d35c210bd4ae21d1ad94e62b77d9fa92f",
			"0000000000000000b3f1be33af3a3844741ede572fc5c4b0",
		},
		{
			"000102030405060708090a0b0c0d0e0f", 2, "1011121314151617", "abc",
			"e333ead8295683963bc13b153fbc4583",
			"e25c8fe326092af948367abf7a422791699d6fba92c905baeda1f21b08f9d6dd",
			"1011121314151617577e24cb8d4d1ee8987786828edba43d02f6f6",
		},
		{
			"ffffffffffffffffffffffffffffffff", 255, "ffffffffffffffff", "A sealed string of more than two blocks",
			"fee6473d7f9cd938f38266162bc891ed",
			"bea05edda3d8769cd38271adee39001b1c0d7dd9aafa11631222e0f204329735",
			"ffffffffffffffff08fd4f44f4679146e1250d73c8838e1b3fe698e035e1695f8a4e77eac2272d2475e7d1a62ff90a67339db3e61fa5f61aaa13d621cbc10f",
		},
		{
			"f0f1f2f3f4f5f6f7f8f9fafbfcfdfeff", 11, "0102030405060708", string(make([]byte, 16)),
			"e2230d3001abdf6ad44ad3e806784c51",
			"0c3b8d8316f715257cf25fd765ac92361a08de5f2bafe34f64967f804532d5c5",
			"0102030405060708e13829616352712feed11af1e30f58114754fa31e79a8eaca76725e93aca1988",
		},
	} {
		key, nonce, s := [16]byte(unhex(t, x.key)), [8]byte(unhex(t, x.nonce)), unhex(t, x.sealed)
		e, m := Keys(key)
		if !bytes.Equal(e[:], unhex(t, x.e)) || !bytes.Equal(m[:], unhex(t, x.m)) {
			t.Errorf("%d: %x %x", i, e, m)
		}
		if got := Seal(key, x.usage, nonce, []byte(x.b)); !bytes.Equal(got, s) {
			t.Errorf("%d: %x", i, got)
		}
		accept(t, key, x.usage, s, []byte(x.b), i)
		if n, ok := Nonce(s); n != nonce || !ok {
			t.Errorf("%d: %x %v", i, n, ok)
		}
	}
}

// P9.1: the keys are derived from every bit of the key, with labels of their own.
func TestKeys(t *testing.T) {
	key, _ := keyAndNonce()
	seen := map[[16]byte]bool{}
	for i := range 8*len(key) + 1 {
		k := key
		if i < 8*len(key) {
			k[i/8] ^= 1 << (i % 8)
		}
		e, m := Keys(k)
		if !bytes.Equal(e[:], derived(k, "encrypt")[:16]) || !bytes.Equal(m[:], derived(k, "protect")) {
			t.Errorf("%d: %x %x", i, e, m)
		}
		if e != mac.Key(k[:], "encrypt") || !bytes.Equal(m[:], mac.Derive(k[:], "protect", 32)) {
			t.Errorf("%d: not derived: %x %x", i, e, m)
		}
		for _, half := range [][16]byte{k, e, [16]byte(m[:16]), [16]byte(m[16:])} {
			if seen[half] {
				t.Errorf("%d: twice: %x", i, half)
			}
			seen[half] = true
		}
	}
}

// P9.1, P9.2 and P9.4: bytes of all lengths around the first blocks.
func TestLengths(t *testing.T) {
	key, nonce := keyAndNonce()
	for n := range 200 {
		b := someBytes(n)
		s := Seal(key, byte(n), nonce, b)
		if len(s) != n+Overhead || !bytes.Equal(s, sealed(t, key, byte(n), nonce, b)) {
			t.Fatalf("%d: %x", n, s)
		}
		accept(t, key, byte(n), s, b, n)
	}
	if Overhead != 24 {
		t.Error(Overhead)
	}
}

// P9.1, P9.2 and P9.4: the longest strings, both as bytes to seal and as sealed ones, and the greatest request of all.
func TestLongStrings(t *testing.T) {
	key, nonce := keyAndNonce()
	for _, n := range []int{1 << 16, 1<<20 - Overhead, 1<<20 - 1, 1 << 20} {
		b := someBytes(n)
		s := Seal(key, 7, nonce, b)
		if len(s) != n+Overhead || !bytes.Equal(s, sealed(t, key, 7, nonce, b)) {
			t.Fatalf("%d: %d bytes", n, len(s))
		}
		accept(t, key, 7, s, b, n)
		for _, i := range []int{0, 8, n / 2, n + 7, n + 8, n + 23} {
			s[i] ^= 128
			refuse(t, key, 7, s, n, i)
			s[i] ^= 128
		}
	}
}

// P9.1 and P9.2: each usage has codes of its own; a string is opened for its usage only.
func TestUsages(t *testing.T) {
	key, nonce := keyAndNonce()
	b := someBytes(20)
	seen := map[string]bool{}
	for u := range 256 {
		s := Seal(key, byte(u), nonce, b)
		if !bytes.Equal(s, sealed(t, key, byte(u), nonce, b)) || seen[string(s[28:])] {
			t.Errorf("%d: %x", u, s)
		}
		seen[string(s[28:])] = true
		for other := range 256 {
			if other != u && other%16 != u%16 && other/16 != u/16 {
				continue
			}
			if got, ok := Open(key, byte(other), s); ok != (other == u) || ok && !bytes.Equal(got, b) || !ok && len(got) != 0 {
				t.Errorf("%d for %d: %x %v", u, other, got, ok)
			}
		}
	}
}

// P9.1 and P9.2: every bit of the key counts.
func TestOtherKeys(t *testing.T) {
	key, nonce := keyAndNonce()
	b := someBytes(20)
	s := Seal(key, 3, nonce, b)
	for i := range 8 * len(key) {
		k := key
		k[i/8] ^= 1 << (i % 8)
		refuse(t, k, 3, s, i)
		other := Seal(k, 3, nonce, b)
		if !bytes.Equal(other, sealed(t, k, 3, nonce, b)) || bytes.Equal(other[8:28], s[8:28]) || bytes.Equal(other[28:], s[28:]) {
			t.Errorf("%d: %x", i, other)
		}
	}
	e, m := Keys(key)
	for i, k := range [][16]byte{{}, e, [16]byte(m[:16]), [16]byte(m[16:])} {
		refuse(t, k, 3, s, i)
	}
}

// P9.1, P9.2 and P9.3: strings are sealed with any nonce, and opened without it.
func TestNonces(t *testing.T) {
	key, first := keyAndNonce()
	b := someBytes(20)
	nonces := [][8]byte{{}, first, {0: 255}, {7: 1}, {1, 2, 3, 4, 5, 6, 7, 8}, {255, 255, 255, 255, 255, 255, 255, 255}}
	for i := range 64 {
		n := first
		n[i/8] ^= 1 << (i % 8)
		nonces = append(nonces, n)
	}
	seen := map[string]bool{}
	for _, nonce := range nonces {
		s := Seal(key, 3, nonce, b)
		if !bytes.Equal(s, sealed(t, key, 3, nonce, b)) || seen[string(s[8:28])] || seen[string(s[28:])] {
			t.Errorf("%x: %x", nonce, s)
		}
		seen[string(s[8:28])], seen[string(s[28:])] = true, true
		accept(t, key, 3, s, b, nonce)
		if got, ok := Nonce(s); got != nonce || !ok {
			t.Errorf("%x: %x %v", nonce, got, ok)
		}
	}
}

// P9.2 and the chapter's example: no bit of a sealed string may be changed, also of one of no bytes.
func TestChangedBits(t *testing.T) {
	key, nonce := keyAndNonce()
	for _, n := range []int{0, 1, 15, 16, 17, 40} {
		s := Seal(key, 9, nonce, someBytes(n))
		if n == 0 && len(s) != 24 {
			t.Error(len(s))
		}
		for i := range 8 * len(s) {
			s[i/8] ^= 1 << (i % 8)
			refuse(t, key, 9, s, n, i)
			s[i/8] ^= 1 << (i % 8)
		}
		accept(t, key, 9, s, someBytes(n), n)
	}
}

// P9.2: a string of no bytes, with every byte replaced by every other one.
func TestChangedBytes(t *testing.T) {
	key, nonce := keyAndNonce()
	s := Seal(key, 9, nonce, nil)
	for i := range s {
		for c := 1; c < 256; c++ {
			s[i] ^= byte(c)
			refuse(t, key, 9, s, i, c)
			s[i] ^= byte(c)
		}
	}
}

// P9.2: no part of a sealed string is one, nor are longer strings and parts in another order.
func TestOtherLengths(t *testing.T) {
	key, nonce := keyAndNonce()
	for _, n := range []int{0, 1, 16, 40} {
		s := Seal(key, 9, nonce, someBytes(n))
		for i := range len(s) + 1 {
			for k := i; k <= len(s); k++ {
				if k-i < len(s) {
					refuse(t, key, 9, s[i:k], n, i, k)
				}
			}
		}
		for i := range len(s) + 1 {
			for _, more := range [][]byte{{0}, {1}, s[:1], s} {
				refuse(t, key, 9, append(append(bytes.Clone(s[:i]), more...), s[i:]...), n, i, more)
			}
			if turned := append(bytes.Clone(s[i:]), s[:i]...); !bytes.Equal(turned, s) {
				refuse(t, key, 9, turned, n, i)
			}
		}
	}
}

// P9.2: strings that are nearly sealed: with a code of other bytes, under another key, or of another length.
func TestOtherCodes(t *testing.T) {
	key, nonce := keyAndNonce()
	b := someBytes(30)
	e, m := Keys(key)
	front := append(nonce[:], ctr.Crypt(e, nonce, b)...)
	use, text := []byte{9}, front[8:]
	code := func(key []byte, parts ...[]byte) []byte { return codeOf(key, parts...) }
	whole := code(m[:], use, front)
	accept(t, key, 9, append(bytes.Clone(front), whole[:16]...), b)
	for i, c := range [][]byte{
		nil, whole[:15], whole[:17], whole[:31], whole, whole[16:], whole[1:17], make([]byte, 16), bytes.Repeat([]byte{255}, 16),
		code(m[:], front)[:16], code(m[:], front, use)[:16], code(m[:], use, text)[:16], code(m[:], use, nonce[:])[:16], code(m[:], use)[:16], code(m[:])[:16],
		code(m[:], use, nonce[:], b)[:16], code(m[:], use, b)[:16], code(m[:], use, text, nonce[:])[:16],
		code(m[:16], use, front)[:16], code(e[:], use, front)[:16], code(key[:], use, front)[:16], code(nil, use, front)[:16],
	} {
		refuse(t, key, 9, append(bytes.Clone(front), c...), i)
	}
	refuse(t, key, 9, append(whole[:16:16], front...), "code in front")
	refuse(t, key, 9, append(append([]byte{9}, front...), whole[:16]...), "with the usage")
}

// P9.2: parts of different sealed strings are none together.
func TestMixedParts(t *testing.T) {
	key, nonce := keyAndNonce()
	other := nonce
	other[3] ^= 4
	a, b, c := Seal(key, 9, nonce, someBytes(20)), Seal(key, 9, nonce, someBytes(21)[:20]), Seal(key, 9, other, someBytes(20))
	all := [][]byte{a, b, c, Seal(key, 8, nonce, someBytes(20))}
	for i, x := range all {
		for k, y := range all {
			for at := range len(a) + 1 {
				s := append(bytes.Clone(x[:at]), y[at:]...)
				want := bytes.Equal(s, a) || bytes.Equal(s, b) || bytes.Equal(s, c)
				if got, ok := Open(key, 9, s); ok != want || !ok && len(got) != 0 {
					t.Errorf("%d %d %d: %x %v", i, k, at, got, ok)
				}
			}
		}
	}
}

// P9.2 and P1: random strings, and strings of the same bytes, are no sealed ones.
func TestOtherStrings(t *testing.T) {
	key, _ := keyAndNonce()
	for n := range 300 {
		for _, s := range [][]byte{someBytes(n), make([]byte, n), bytes.Repeat([]byte{255}, n), append(key[:], make([]byte, n)...)} {
			refuse(t, key, byte(n), s, n)
			refuse(t, [16]byte{}, 0, s, n)
		}
	}
	refuse(t, key, 0, make([]byte, 1<<20))
	refuse(t, [16]byte{}, 255, nil)
}

// P9.3: the nonce is that of every string of at least 24 bytes, whether it is sealed or not.
func TestNonce(t *testing.T) {
	for n := range 100 {
		s := someBytes(n)
		got, ok := Nonce(s)
		if ok != (n >= 24) || ok && !bytes.Equal(got[:], s[:8]) || !ok && got != [8]byte{} {
			t.Errorf("%d: %x %v", n, got, ok)
		}
	}
	long := someBytes(1 << 20)
	if got, ok := Nonce(long); !ok || !bytes.Equal(got[:], long[:8]) {
		t.Errorf("%x %v", got, ok)
	}
	for _, s := range [][]byte{nil, {}, bytes.Repeat([]byte{255}, 64)[:23]} {
		if got, ok := Nonce(s); ok || got != [8]byte{} {
			t.Errorf("%d: %x %v", len(s), got, ok)
		}
	}
	if got, ok := Nonce(bytes.Repeat([]byte{255}, 24)); !ok || got != [8]byte{255, 255, 255, 255, 255, 255, 255, 255} {
		t.Errorf("%x %v", got, ok)
	}
}

// P9.4: what is opened is sealed again as the same string, for its nonce; random keys, usages, nonces and bytes.
func TestInverse(t *testing.T) {
	random := rand.New(rand.NewSource(1))
	for range 300 {
		b, key, nonce, usage := make([]byte, random.Intn(300)), [16]byte{}, [8]byte{}, byte(random.Intn(256))
		for _, x := range [][]byte{b, key[:], nonce[:]} {
			random.Read(x)
		}
		s := sealed(t, key, usage, nonce, b)
		got, ok := Open(key, usage, s)
		n, found := Nonce(s)
		if !ok || !found || n != nonce || len(got)+Overhead != len(s) || !bytes.Equal(got, b) || !bytes.Equal(Seal(key, usage, n, got), s) {
			t.Fatalf("%x %d %x %x: %x %v", key, usage, nonce, b, got, ok)
		}
	}
}

// P9.4: a sealed string can be sealed once more, also with the same key and nonce.
func TestSealedTwice(t *testing.T) {
	key, nonce := keyAndNonce()
	once := Seal(key, 1, nonce, []byte("abc"))
	twice := Seal(key, 1, nonce, once)
	if len(twice) != 3+2*Overhead {
		t.Error(len(twice))
	}
	accept(t, key, 1, twice, once)
	accept(t, key, 1, once, []byte("abc"))
}

// Rule 4: nil and empty bytes are the same.
func TestNoBytes(t *testing.T) {
	key, nonce := keyAndNonce()
	s := Seal(key, 1, nonce, nil)
	if len(s) != Overhead || !bytes.Equal(s, Seal(key, 1, nonce, []byte{})) || !bytes.Equal(s, sealed(t, key, 1, nonce, nil)) {
		t.Errorf("%x", s)
	}
	accept(t, key, 1, s, nil)
	refuse(t, key, 1, nil)
	refuse(t, key, 1, []byte{})
}

// Rule 5: bytes and their unused capacity stay as they are, and results share no memory with them or with each other.
func TestMemory(t *testing.T) {
	key, nonce := keyAndNonce()
	room := someBytes(100)
	b := room[:40]
	s := append(Seal(key, 1, nonce, b), someBytes(50)...)
	before := bytes.Clone(s)
	s = s[:40+Overhead]
	first, _ := Open(key, 1, s)
	second, _ := Open(key, 1, s)
	results := [][]byte{Seal(key, 1, nonce, b), Seal(key, 1, nonce, b), first, second}
	Nonce(s)
	refuse(t, key, 2, s)
	if !bytes.Equal(room, someBytes(100)) || !bytes.Equal(s[:cap(s)][:len(before)], before) {
		t.Error("bytes of an argument changed")
	}
	for i, r := range results {
		for k := range r[:cap(r)] {
			r[:cap(r)][k] = byte(i)
		}
	}
	for i, r := range results {
		if len(r) == 0 || !bytes.Equal(r, bytes.Repeat([]byte{byte(i)}, len(r))) {
			t.Error(i, "shares memory with a later result")
		}
	}
	if !bytes.Equal(room, someBytes(100)) || !bytes.Equal(s[:cap(s)][:len(before)], before) {
		t.Error("a result shares memory with an argument")
	}
	accept(t, key, 1, s, b)
}

// Rules 7 and 8: calls at the same time have the results of calls one after the other.
func TestAtTheSameTime(t *testing.T) {
	key, nonce := keyAndNonce()
	b := someBytes(70)
	var want [20][]byte
	for i := range want {
		want[i] = sealed(t, key, byte(i), nonce, b)
	}
	var group sync.WaitGroup
	for i := range want {
		group.Go(func() {
			got := Seal(key, byte(i), nonce, b)
			opened, ok := Open(key, byte(i), want[i])
			if !bytes.Equal(got, want[i]) || !ok || !bytes.Equal(opened, b) {
				t.Error(i)
			}
			refuse(t, key, byte(i), want[(i+1)%len(want)], i)
		})
	}
	group.Wait()
}

// P1 and P9.4: whatever is opened is a sealed string of its nonce.
func FuzzOpen(f *testing.F) {
	key, nonce := keyAndNonce()
	f.Add(byte(0), []byte{})
	f.Add(byte(1), Seal(key, 1, nonce, []byte("abc")))
	f.Add(byte(1), Seal(key, 2, nonce, nil))
	f.Fuzz(func(t *testing.T, usage byte, s []byte) {
		b, ok := Open(key, usage, s)
		n, found := Nonce(s)
		if !ok && len(b) != 0 || found != (len(s) >= Overhead) || ok && !bytes.Equal(sealed(t, key, usage, n, b), s) {
			t.Errorf("%d %x: %x %v", usage, s, b, ok)
		}
		accept(t, key, usage, Seal(key, usage, n, s), s)
	})
}
