package ctr

import (
	"bytes"
	"crypto/aes"
	"crypto/cipher"
	"encoding/binary"
	"encoding/hex"
	"math"
	"math/rand"
	"strings"
	"sync"
	"testing"

	own "toll/aes"
)

// someBytes returns n bytes of all values that look random, but are the same for the same n.
func someBytes(n int) []byte {
	b := make([]byte, n)
	rand.New(rand.NewSource(int64(n))).Read(b)
	return b
}

// unhex returns the bytes of a hexadecimal text.
func unhex(t testing.TB, text string) []byte {
	t.Helper()
	b, err := hex.DecodeString(strings.Join(strings.Fields(text), ""))
	if err != nil {
		t.Fatal(text, err)
	}
	return b
}

// keyAndNonce are those of most tests: all of their bytes differ.
func keyAndNonce() (key [16]byte, nonce [8]byte) {
	b := someBytes(24)
	return [16]byte(b[:16]), [8]byte(b[16:])
}

// standard returns n bytes of the stream from the block i on, made by the library.
func standard(t testing.TB, key [16]byte, nonce [8]byte, i uint64, n int) []byte {
	t.Helper()
	c, err := aes.NewCipher(key[:])
	if err != nil {
		t.Fatal(err)
	}
	s := make([]byte, n)
	cipher.NewCTR(c, binary.BigEndian.AppendUint64(nonce[:], i)).XORKeyStream(s, s)
	return s
}

// combined returns the exclusive or of b and the beginning of the stream, made by the library.
func combined(t testing.TB, key [16]byte, nonce [8]byte, b []byte) []byte {
	t.Helper()
	s := standard(t, key, nonce, 0, len(b))
	for i, x := range b {
		s[i] ^= x
	}
	return s
}

// P8.1 and P5: the blocks that SP 800-38A (F.5.1) and RFC 3686 (6) give, and that of the chapter.
func TestBlockOfStandard(t *testing.T) {
	for _, x := range []struct {
		key, nonce string
		i          uint64
		want       string
	}{
		{"2b7e151628aed2a6abf7158809cf4f3c", "f0f1f2f3f4f5f6f7", 0xf8f9fafbfcfdfeff, "ec8cdf7398607cb0f2d21675ea9ea1e4"},
		{"2b7e151628aed2a6abf7158809cf4f3c", "f0f1f2f3f4f5f6f7", 0xf8f9fafbfcfdff00, "362b7c3c6773516318a077d7fc5073ae"},
		{"2b7e151628aed2a6abf7158809cf4f3c", "f0f1f2f3f4f5f6f7", 0xf8f9fafbfcfdff01, "6a2cc3787889374fbeb4c81b17ba6c44"},
		{"2b7e151628aed2a6abf7158809cf4f3c", "f0f1f2f3f4f5f6f7", 0xf8f9fafbfcfdff02, "e89c399ff0f198c6d40a31db156cabfe"},
		{"ae6852f8121067cc4bf7a5765577f39e", "0000003000000000", 1, "b7603328dbc2931b410e16c8067e62df"},
		{"7e24067817fae0d743d6ce1f32539163", "006cb6dbc0543b59", 0xda48d90b00000001, "5105a305128f74de71044be582d7dd87"},
		{"7e24067817fae0d743d6ce1f32539163", "006cb6dbc0543b59", 0xda48d90b00000002, "fb3f0cef52cf41dfe4ff2ac48d5ca037"},
		{"00000000000000000000000000000000", "0000000000000000", 0, "66e94bd4ef8a2c3b884cfa59ca342b2e"},
	} {
		key, nonce := [16]byte(unhex(t, x.key)), [8]byte(unhex(t, x.nonce))
		if got := Block(key, nonce, x.i); !bytes.Equal(got[:], unhex(t, x.want)) {
			t.Errorf("%s %s %#x: %x", x.key, x.nonce, x.i, got)
		}
	}
}

// P8.1: a block is the encryption of the nonce and its number, also of the least and of the greatest ones.
func TestBlock(t *testing.T) {
	key, nonce := keyAndNonce()
	numbers := []uint64{0, 1, 255, 256, 257, 0x0102030405060708, 1 << 36, math.MaxUint64 - 1, math.MaxUint64}
	for k := range 64 {
		numbers = append(numbers, 1<<k, 1<<k-1)
	}
	for _, i := range numbers {
		plain := binary.BigEndian.AppendUint64(nonce[:], i)
		got := Block(key, nonce, i)
		if got != own.Encrypt(key, [16]byte(plain)) || !bytes.Equal(got[:], standard(t, key, nonce, i, 16)) {
			t.Errorf("%#x: %x", i, got)
		}
	}
}

// P8.1: every byte of the key and of the nonce counts.
func TestKeyAndNonce(t *testing.T) {
	key, nonce := keyAndNonce()
	seen := map[[16]byte]bool{Block(key, nonce, 3): true}
	for i := range len(key) + len(nonce) {
		k, n := key, nonce
		if i < len(k) {
			k[i] ^= 1
		} else {
			n[i-len(k)] ^= 1
		}
		b := Block(k, n, 3)
		if seen[b] || !bytes.Equal(Stream(k, n, 48, 16), b[:]) || !bytes.Equal(b[:], standard(t, k, n, 3, 16)) {
			t.Error(i)
		}
		seen[b] = true
	}
}

// P8.1: all pieces of the first blocks, with those of no bytes.
func TestStream(t *testing.T) {
	key, nonce := keyAndNonce()
	want := standard(t, key, nonce, 0, 100)
	for at := range 50 {
		for n := range 50 {
			if got := Stream(key, nonce, at, n); !bytes.Equal(got, want[at:at+n]) {
				t.Fatalf("%d %d: %x", at, n, got)
			}
		}
	}
	if got := Stream([16]byte{}, [8]byte{}, 0, 3); string(got) != "\x66\xe9\x4b" {
		t.Errorf("%x", got)
	}
}

// P8.1: pieces from far bytes on, up to the last one at which they may begin, and behind it.
func TestStreamFromFar(t *testing.T) {
	key, nonce := keyAndNonce()
	for _, at := range []int{255, 256, 4095, 4096, 1<<20 - 1, 1 << 20, 1<<32 - 9, 1 << 32, 1<<36 + 5, 1<<40 - 17, 1<<40 - 1, 1 << 40} {
		for _, n := range []int{0, 1, 15, 16, 17, 40} {
			want := standard(t, key, nonce, uint64(at/16), at%16+n)[at%16:]
			if got := Stream(key, nonce, at, n); !bytes.Equal(got, want) {
				t.Errorf("%d %d: %x", at, n, got)
			}
		}
	}
}

// P8.1: the longest pieces, from the first and from the last byte on.
func TestLongStream(t *testing.T) {
	key, nonce := keyAndNonce()
	for _, at := range []int{0, 1 << 40} {
		if got := Stream(key, nonce, at, 1<<20); !bytes.Equal(got, standard(t, key, nonce, uint64(at/16), 1<<20)) {
			t.Errorf("%d: %d bytes", at, len(got))
		}
	}
	if got := Stream(key, nonce, 7, 1<<20-1); !bytes.Equal(got, standard(t, key, nonce, 0, 1<<20+6)[7:]) {
		t.Errorf("%d bytes", len(got))
	}
}

// P8.1 and P1: nothing for all other numbers.
func TestStreamOfInvalidNumbers(t *testing.T) {
	key, nonce := keyAndNonce()
	outside := []int{math.MinInt, math.MinInt + 1, -1 << 40, -1 << 20, -17, -16, -1, 1<<40 + 1, 1<<40 + 16, 1 << 62, math.MaxInt - 1, math.MaxInt}
	for _, at := range outside {
		for _, n := range []int{0, 1, 16, 1 << 20} {
			if got := Stream(key, nonce, at, n); len(got) != 0 {
				t.Errorf("at %d: %d bytes", at, len(got))
			}
		}
	}
	for _, n := range append(outside, 1<<20+1, 1<<20+16, 1<<21) {
		for _, at := range []int{0, 1, 1 << 40, math.MaxInt, math.MinInt} {
			if got := Stream(key, nonce, at, n); len(got) != 0 {
				t.Errorf("n %d: %d bytes", n, len(got))
			}
		}
	}
}

// P8.2 and P5: the messages that RFC 3686 (6) encrypts; the blocks of its streams have the numbers from 1 on.
func TestCryptOfStandard(t *testing.T) {
	key, nonce := [16]byte(unhex(t, "ae6852f8121067cc4bf7a5765577f39e")), [8]byte(unhex(t, "0000003000000000"))
	plain := append(make([]byte, 16), "Single block msg"...)
	want := unhex(t, "e4095d4fb7a7b3792d6175a3261311b8")
	if got := Crypt(key, nonce, plain); !bytes.Equal(got[16:], want) {
		t.Errorf("%x", got)
	}
	c := New(key, nonce)
	c.Next(plain[:16])
	if got := c.Next(plain[16:]); !bytes.Equal(got, want) {
		t.Errorf("%x", got)
	}
}

// P8.2 and P8.4: bytes of all lengths around the first blocks, and of the longest one; Crypt inverts itself.
func TestCrypt(t *testing.T) {
	key, nonce := keyAndNonce()
	check := func(n int) {
		t.Helper()
		b := someBytes(n)
		got := Crypt(key, nonce, b)
		if !bytes.Equal(got, combined(t, key, nonce, b)) {
			t.Fatalf("%d: %x", n, got)
		}
		if !bytes.Equal(Crypt(key, nonce, got), b) {
			t.Fatalf("%d: not inverted", n)
		}
	}
	for n := range 150 {
		check(n)
	}
	check(1<<20 - 1)
	check(1 << 20)
	if len(Crypt(key, nonce, nil)) != 0 {
		t.Error("nil")
	}
}

// P8.2: zero bytes become the stream itself.
func TestCryptOfZeros(t *testing.T) {
	key, nonce := keyAndNonce()
	if got := Crypt(key, nonce, make([]byte, 77)); !bytes.Equal(got, Stream(key, nonce, 0, 77)) {
		t.Errorf("%x", got)
	}
}

// P8.3 and P8.4: bytes divided in all ways in three, with the number of those that were used.
func TestNextInThree(t *testing.T) {
	key, nonce := keyAndNonce()
	b := someBytes(50)
	want := combined(t, key, nonce, b)
	for i := range len(b) + 1 {
		for k := i; k <= len(b); k++ {
			c, got := New(key, nonce), []byte(nil)
			for _, part := range [][]byte{b[:i], b[i:k], b[k:]} {
				got = append(got, c.Next(part)...)
				if c.Used() != len(got) {
					t.Fatalf("%d %d: %d bytes used of %d", i, k, c.Used(), len(got))
				}
			}
			if !bytes.Equal(got, want) {
				t.Fatalf("%d %d: %x", i, k, got)
			}
		}
	}
}

// P8.3 and P8.4: single bytes, with no bytes in between.
func TestNextOfSingles(t *testing.T) {
	key, nonce := keyAndNonce()
	b := someBytes(2_000)
	want := combined(t, key, nonce, b)
	c := New(key, nonce)
	if c.Used() != 0 {
		t.Error("used from the start:", c.Used())
	}
	for i := range b {
		if got := c.Next(b[i : i+1]); len(got) != 1 || got[0] != want[i] {
			t.Fatalf("%d: %x", i, got)
		}
		if got := c.Next(nil); len(got) != 0 || len(c.Next([]byte{})) != 0 {
			t.Fatalf("%d: %x", i, got)
		}
		if c.Used() != i+1 {
			t.Fatalf("%d: %d bytes used", i, c.Used())
		}
	}
}

// P8.3 and P8.4: many bytes, divided at random, are those of one call.
func TestNextAtRandom(t *testing.T) {
	key, nonce := keyAndNonce()
	random := rand.New(rand.NewSource(1))
	for range 100 {
		b := someBytes(random.Intn(3_000))
		c, got := New(key, nonce), []byte(nil)
		for len(got) < len(b) {
			k := len(got) + random.Intn(len(b)-len(got)+1)
			got = append(got, c.Next(b[len(got):min(k, len(got)+100)])...)
		}
		if !bytes.Equal(got, Crypt(key, nonce, b)) || !bytes.Equal(got, combined(t, key, nonce, b)) || c.Used() != len(b) {
			t.Fatalf("%d bytes: %d used", len(b), c.Used())
		}
	}
}

// P8.3: a cipher goes on behind 2^20 bytes, also in one call with more of them.
func TestNextOfMany(t *testing.T) {
	key, nonce := keyAndNonce()
	b := someBytes(1<<20 + 100)
	want := combined(t, key, nonce, append(bytes.Clone(b), b[:40]...))
	c := New(key, nonce)
	got := append(c.Next(b), c.Next(b[:40])...)
	if !bytes.Equal(got, want) || c.Used() != len(want) {
		t.Errorf("%d bytes: %d used", len(got), c.Used())
	}
}

// P8.3: ciphers do not use the bytes of each other, even with the same key and nonce.
func TestCiphersAlone(t *testing.T) {
	key, nonce := keyAndNonce()
	other := key
	other[15] ^= 1
	b := someBytes(60)
	ciphers := []*Cipher{New(key, nonce), New(key, nonce), New(other, nonce)}
	var got [3][]byte
	for at := 0; at < len(b); at += 5 {
		for i, c := range ciphers {
			got[i] = append(got[i], c.Next(b[at:at+5])...)
		}
		Crypt(key, nonce, b)
		Stream(other, nonce, 3, 9)
	}
	for i, k := range [][16]byte{key, key, other} {
		if !bytes.Equal(got[i], combined(t, k, nonce, b)) || ciphers[i].Used() != len(b) {
			t.Errorf("%d: %x", i, got[i])
		}
	}
}

// P8.3 and P1: a nil cipher returns nothing, and uses nothing.
func TestNilCipher(t *testing.T) {
	var c *Cipher
	for _, b := range [][]byte{nil, {}, {1}, someBytes(100)} {
		if got := c.Next(b); len(got) != 0 || c.Used() != 0 {
			t.Errorf("%d bytes: %x %d", len(b), got, c.Used())
		}
	}
}

// Rule 4: nil and empty bytes are the same.
func TestNoBytes(t *testing.T) {
	key, nonce := keyAndNonce()
	c := New(key, nonce)
	if len(Stream(key, nonce, 5, 0))+len(Crypt(key, nonce, nil))+len(Crypt(key, nonce, []byte{}))+len(c.Next(nil))+len(c.Next([]byte{})) != 0 || c.Used() != 0 {
		t.Error(c.Used())
	}
}

// Rule 5: bytes and their unused capacity stay as they are, and results share no memory with them, with each other and with ciphers.
func TestMemory(t *testing.T) {
	key, nonce := keyAndNonce()
	room := someBytes(64)
	b := room[:40]
	c := New(key, nonce)
	results := [][]byte{Crypt(key, nonce, b), Crypt(key, nonce, b), c.Next(b[:24]), c.Next(b[24:]), Stream(key, nonce, 0, 40), Stream(key, nonce, 0, 40)}
	if !bytes.Equal(room, someBytes(64)) {
		t.Error("bytes of an argument changed")
	}
	for i, r := range results {
		for k := range r[:cap(r)] {
			r[:cap(r)][k] = byte(i)
		}
	}
	for i, r := range results {
		if !bytes.Equal(r, bytes.Repeat([]byte{byte(i)}, len(r))) {
			t.Error(i, "shares memory with a later result")
		}
	}
	if !bytes.Equal(room, someBytes(64)) {
		t.Error("a result shares memory with an argument")
	}
	clear(room)
	if got := c.Next(make([]byte, 30)); !bytes.Equal(got, Stream(key, nonce, 40, 30)) {
		t.Errorf("%x", got)
	}
}

// Rule 5: a cipher keeps its key and its nonce, whatever becomes of those it was made of.
func TestCipherKeepsKeyAndNonce(t *testing.T) {
	key, nonce := keyAndNonce()
	c := New(key, nonce)
	want := Stream(key, nonce, 0, 20)
	clear(key[:])
	clear(nonce[:])
	if got := c.Next(make([]byte, 20)); !bytes.Equal(got, want) {
		t.Errorf("%x", got)
	}
}

// The iterator yields just the blocks of the bytes, and stops when it is left.
func TestBlocks(t *testing.T) {
	key, nonce := keyAndNonce()
	for at := range 40 {
		for n := range 40 {
			var got []byte
			for first, block := range blocks(key, nonce, at, n) {
				got = append(got, block[first:]...)
			}
			want := 0
			if n > 0 {
				want = (at+n+15)/16*16 - at
			}
			if !bytes.Equal(got, standard(t, key, nonce, 0, at+want)[at:]) {
				t.Fatalf("%d %d: %x", at, n, got)
			}
		}
	}
	count := 0
	for range blocks(key, nonce, 0, 160) {
		count++
		if count == 3 {
			break
		}
	}
	if count != 3 {
		t.Error(count)
	}
}

// Rules 7 and 8: calls at the same time have the results of calls one after the other.
func TestAtTheSameTime(t *testing.T) {
	key, nonce := keyAndNonce()
	b := someBytes(70)
	want := combined(t, key, nonce, b)
	var group sync.WaitGroup
	for i := range 20 {
		group.Go(func() {
			c := New(key, nonce)
			got := append(c.Next(b[:i]), c.Next(b[i:])...)
			if !bytes.Equal(got, want) || !bytes.Equal(Crypt(key, nonce, b), want) || !bytes.Equal(Crypt(key, nonce, want), b) || len(Stream(key, nonce, i, 9)) != 9 {
				t.Error(i)
			}
		})
	}
	group.Wait()
}
