package aes

import (
	"crypto/aes"
	"encoding/hex"
	"math/rand"
	"strings"
	"sync"
	"testing"

	"toll/field"
)

// block returns the block with the bytes of a hexadecimal text.
func block(t testing.TB, text string) (b [16]byte) {
	t.Helper()
	s, err := hex.DecodeString(text)
	if err != nil || len(s) != len(b) {
		t.Fatal(text, err)
	}
	return [16]byte(s)
}

// blocks returns the blocks of a text with one a line.
func blocks(t testing.TB, text string) (l [][16]byte) {
	t.Helper()
	for s := range strings.FieldsSeq(text) {
		l = append(l, block(t, s))
	}
	return l
}

// someBlocks returns n blocks: one of zeros, one of ones, and others that look random, but are the same for the same n.
func someBlocks(n int) [][16]byte {
	random := rand.New(rand.NewSource(int64(n)))
	l := make([][16]byte, n)
	for i := range l[1:] {
		random.Read(l[1+i][:])
	}
	for i := range l[1] {
		l[1][i] = 0xff
	}
	return l
}

// standard returns the encryption and the decryption of a block by the library.
func standard(t testing.TB, key, block [16]byte) (e, d [16]byte) {
	t.Helper()
	c, err := aes.NewCipher(key[:])
	if err != nil {
		t.Fatal(err)
	}
	c.Encrypt(e[:], block[:])
	c.Decrypt(d[:], block[:])
	return e, d
}

// definedKeys returns the round keys by the definition, with a list of 44 columns.
func definedKeys(key [16]byte) (keys [11][16]byte) {
	var columns [44][4]byte
	for i := range columns {
		if i < 4 {
			columns[i] = [4]byte(key[4*i : 4*i+4])
			continue
		}
		t := columns[i-1]
		if i%4 == 0 {
			t[0], t[1], t[2], t[3] = t[1], t[2], t[3], t[0]
			for k := range t {
				t[k] = field.Sub(t[k])
			}
			power := byte(1)
			for range i/4 - 1 {
				power = field.Mul(power, 2)
			}
			t[0] ^= power
		}
		for k := range t {
			columns[i][k] = columns[i-4][k] ^ t[k]
		}
	}
	for i, c := range columns {
		copy(keys[i/4][i%4*4:], c[:])
	}
	return keys
}

// definedRound returns the block after a round by the definition, with rows and columns.
func definedRound(block, key [16]byte, last bool) (b [16]byte) {
	var a, moved [4][4]byte // by rows
	for r := range 4 {
		for c := range 4 {
			a[r][c] = field.Sub(block[r+4*c])
		}
	}
	for r := range 4 {
		for c := range 4 {
			moved[r][c] = a[r][(c+r)%4]
		}
	}
	for r := range 4 {
		for c := range 4 {
			x := field.Mul(2, moved[r][c]) ^ field.Mul(3, moved[(r+1)%4][c]) ^ moved[(r+2)%4][c] ^ moved[(r+3)%4][c]
			if last {
				x = moved[r][c]
			}
			b[r+4*c] = x ^ key[r+4*c]
		}
	}
	return b
}

// The round keys that FIPS 197 gives in A.1.
const standardKeys = `
	2b7e151628aed2a6abf7158809cf4f3c a0fafe1788542cb123a339392a6c7605 f2c295f27a96b9435935807a7359f67f
	3d80477d4716fe3e1e237e446d7a883b ef44a541a8525b7fb671253bdb0bad00 d4d1c6f87c839d87caf2b8bc11f915bc
	6d88a37a110b3efddbf98641ca0093fd 4e54f70e5f5fc9f384a64fb24ea6dc4f ead27321b58dbad2312bf5607f8d292f
	ac7766f319fadc2128d12941575c006e d014f9a8c9ee2589e13f0cc8b6630ca6`

// The block of FIPS 197, C.1, before each round and after the last one.
const standardRounds = `
	00102030405060708090a0b0c0d0e0f0 89d810e8855ace682d1843d8cb128fe4 4915598f55e5d7a0daca94fa1f0a63f7
	fa636a2825b339c940668a3157244d17 247240236966b3fa6ed2753288425b6c c81677bc9b7ac93b25027992b0261996
	c62fe109f75eedc3cc79395d84f9cf5d d1876c0f79c4300ab45594add66ff41f fde3bad205e5d0d73547964ef1fe37f1
	bd6e7c3df2b5779e0b61216e8b10b689 69c4e0d86a7b0430d8cdb78070b4c55a`

// The key, the block and its encryption of the chapter's example and of FIPS 197, C.1.
const (
	exampleKey        = "000102030405060708090a0b0c0d0e0f"
	exampleBlock      = "00112233445566778899aabbccddeeff"
	exampleEncryption = "69c4e0d86a7b0430d8cdb78070b4c55a"
)

// P7.1 and P5: the round keys of the standard.
func TestKeysOfStandard(t *testing.T) {
	want := blocks(t, standardKeys)
	if got := Keys(want[0]); got != [11][16]byte(want) {
		t.Errorf("%x", got)
	}
	if got, want := Keys(block(t, exampleKey))[10], block(t, "13111d7fe3944a17f307a78b4d2b30c5"); got != want {
		t.Errorf("%x", got)
	}
	if got, want := Keys([16]byte{})[10], block(t, "b4ef5bcb3e92e21123e951cf6f8f188e"); got != want {
		t.Errorf("%x", got)
	}
}

// P7.1: the round keys of many keys; the first is the key itself.
func TestKeys(t *testing.T) {
	for _, key := range someBlocks(3_000) {
		got := Keys(key)
		if got != definedKeys(key) || got[0] != key {
			t.Fatalf("%x: %x", key, got)
		}
	}
}

// P7.1 and P5: the blocks that FIPS 197 and SP 800-38A encrypt.
func TestEncryptOfStandard(t *testing.T) {
	for _, x := range []struct{ key, block, want string }{
		{exampleKey, exampleBlock, exampleEncryption},
		{"2b7e151628aed2a6abf7158809cf4f3c", "3243f6a8885a308d313198a2e0370734", "3925841d02dc09fbdc118597196a0b32"},
		{"2b7e151628aed2a6abf7158809cf4f3c", "6bc1bee22e409f96e93d7e117393172a", "3ad77bb40d7a3660a89ecaf32466ef97"},
		{"2b7e151628aed2a6abf7158809cf4f3c", "ae2d8a571e03ac9c9eb76fac45af8e51", "f5d3d58503b9699de785895a96fdbaaf"},
		{"2b7e151628aed2a6abf7158809cf4f3c", "30c81c46a35ce411e5fbc1191a0a52ef", "43b1cd7f598ece23881b00e3ed030688"},
		{"2b7e151628aed2a6abf7158809cf4f3c", "f69f2445df4f9b17ad2b417be66c3710", "7b0c785e27e8ad3f8223207104725dd4"},
		{"00000000000000000000000000000000", "00000000000000000000000000000000", "66e94bd4ef8a2c3b884cfa59ca342b2e"},
	} {
		key, b, want := block(t, x.key), block(t, x.block), block(t, x.want)
		if got := Encrypt(key, b); got != want {
			t.Errorf("%x %x: %x", key, b, got)
		}
		if got := Decrypt(key, want); got != b {
			t.Errorf("%x %x: %x", key, want, got)
		}
	}
}

// P7.1, P7.3 and P5: blocks under keys are those of the library, and Encrypt and Decrypt invert each other.
func TestEncryptAndDecrypt(t *testing.T) {
	check := func(key, block [16]byte) {
		t.Helper()
		e, d := Encrypt(key, block), Decrypt(key, block)
		if wantE, wantD := standard(t, key, block); e != wantE || d != wantD {
			t.Fatalf("%x %x: %x %x", key, block, e, d)
		}
		if Decrypt(key, e) != block || Encrypt(key, d) != block {
			t.Fatalf("%x %x: not inverted", key, block)
		}
	}
	l := someBlocks(3_000)
	for i, key := range l {
		check(key, l[len(l)-1-i])
		check(key, key)
	}
	for i := range 128 {
		var one [16]byte
		one[i/8] = 1 << (i % 8)
		check(one, [16]byte{})
		check([16]byte{}, one)
		check(l[2], Xor(l[1], one))
		check(Xor(l[1], one), l[2])
	}
}

// P7.1 and P5: thousands of encryptions, each under the key that the one before made of the key.
func TestEncryptInChain(t *testing.T) {
	key, b := block(t, exampleKey), block(t, exampleBlock)
	wantKey, want := key, b
	for range 5_000 {
		b = Encrypt(key, b)
		key = Xor(key, b)
		want, _ = standard(t, wantKey, want)
		for i, x := range want {
			wantKey[i] ^= x
		}
		if b != want || key != wantKey {
			t.Fatalf("%x %x", key, b)
		}
	}
}

// P7.2 and P5: the rounds of the standard.
func TestRoundOfStandard(t *testing.T) {
	keys, l := Keys(block(t, exampleKey)), blocks(t, standardRounds)
	if got := Xor(block(t, exampleBlock), keys[0]); got != l[0] {
		t.Errorf("%x", got)
	}
	for n := 1; n <= 10; n++ {
		if got := Round(l[n-1], keys[n], n == 10); got != l[n] {
			t.Errorf("%d: %x", n, got)
		}
	}
}

// P7.2: the rounds of many blocks with many keys that are of no key's rounds, last ones and others.
func TestRound(t *testing.T) {
	l := someBlocks(3_000)
	for i, b := range l {
		for _, last := range []bool{false, true} {
			key := l[len(l)-1-i]
			if got := Round(b, key, last); got != definedRound(b, key, last) {
				t.Fatalf("%x %x %v: %x", b, key, last, got)
			}
			if got := unround(Round(b, key, last), key, last); got != b {
				t.Fatalf("%x %x %v: %x", b, key, last, got)
			}
		}
	}
}

// P7.2: a single byte comes to the place to which its row is moved, or into the column of it.
func TestRoundOfSingles(t *testing.T) {
	for r := range 4 {
		for c := range 4 {
			for b := range 256 {
				var one, key [16]byte
				for i := range one {
					one[i] = field.Unsub(0)
				}
				one[r+4*c] = byte(b)
				want, mixed := [16]byte{}, [16]byte{}
				to := (c - r + 4) % 4
				want[r+4*to] = field.Sub(byte(b))
				for k, by := range []byte{2, 1, 1, 3} {
					mixed[(r+k)%4+4*to] = field.Mul(by, field.Sub(byte(b)))
				}
				if got := Round(one, key, true); got != want {
					t.Errorf("%d %d %#x: %x", r, c, b, got)
				}
				if got := Round(one, key, false); got != mixed {
					t.Errorf("%d %d %#x: %x", r, c, b, got)
				}
			}
		}
	}
}

// P7.2: the bytes of the exclusive or, in both orders; that of a block and itself is 0, and 0 changes nothing.
func TestXor(t *testing.T) {
	l := someBlocks(1_000)
	for i, a := range l {
		b := l[len(l)-1-i]
		var want [16]byte
		for k := range want {
			want[k] = a[k] ^ b[k]
		}
		if Xor(a, b) != want || Xor(b, a) != want || Xor(want, b) != a {
			t.Fatalf("%x %x: %x", a, b, Xor(a, b))
		}
		if Xor(a, a) != [16]byte{} || Xor(a, [16]byte{}) != a {
			t.Fatalf("%x", a)
		}
	}
}

// Rule 5: arguments stay as they are, and so do results when others are made.
func TestArgumentsStay(t *testing.T) {
	key, b := block(t, exampleKey), block(t, exampleBlock)
	e, keys := Encrypt(key, b), Keys(key)
	Decrypt(key, b)
	Round(b, key, false)
	Round(b, key, true)
	Xor(b, key)
	Keys(b)
	Encrypt(b, key)
	if key != block(t, exampleKey) || b != block(t, exampleBlock) || e != block(t, exampleEncryption) || keys != Keys(key) {
		t.Errorf("%x %x %x", key, b, e)
	}
}

// Rules 7 and 8: calls at the same time have the results of calls one after the other.
func TestAtTheSameTime(t *testing.T) {
	key, b, e := block(t, exampleKey), block(t, exampleBlock), block(t, exampleEncryption)
	last := block(t, "13111d7fe3944a17f307a78b4d2b30c5")
	rounds := blocks(t, standardRounds)
	var group sync.WaitGroup
	for i := range 20 {
		group.Go(func() {
			if Encrypt(key, b) != e || Decrypt(key, e) != b || Keys(key)[10] != last || Round(rounds[9], last, true) != e {
				t.Error(i)
			}
		})
	}
	group.Wait()
}
