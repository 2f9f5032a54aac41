package mac

import (
	"bytes"
	"crypto/hmac"
	"crypto/sha256"
	"encoding/hex"
	"math"
	"math/rand"
	"strings"
	"sync"
	"testing"

	"toll/sha"
)

// someBytes returns n bytes of all values that look random, but are the same for the same n.
func someBytes(n int) []byte {
	b := make([]byte, n)
	rand.New(rand.NewSource(int64(n))).Read(b)
	return b
}

// standard returns the code of the library.
func standard(key, b []byte) []byte {
	h := hmac.New(sha256.New, key)
	h.Write(b)
	return h.Sum(nil)
}

// defined returns the code by the definition.
func defined(key, b []byte) []byte {
	if len(key) > 64 {
		d := sha256.Sum256(key)
		key = d[:]
	}
	inner, outer := bytes.Repeat([]byte{54}, 64), bytes.Repeat([]byte{92}, 64)
	for i, c := range key {
		inner[i], outer[i] = inner[i]^c, outer[i]^c
	}
	d := sha256.Sum256(append(inner, b...))
	d = sha256.Sum256(append(outer, d[:]...))
	return d[:]
}

// derived returns the longest derived string by the definition.
func derived(key []byte, label string) (all []byte) {
	for i := 1; i <= 255; i++ {
		all = append(all, standard(key, append([]byte{byte(i)}, label...))...)
	}
	return all
}

// P5.1 and P5: the codes that RFC 4231 and the chapter give; that of case 5 is cut to 16 bytes there.
func TestSumOfStandard(t *testing.T) {
	for i, x := range []struct {
		key, b []byte
		want   string
	}{
		{bytes.Repeat([]byte{0x0b}, 20), []byte("Hi There"), "b0344c61d8db38535ca8afceaf0bf12b881dc200c9833da726e9376c2e32cff7"},
		{[]byte("Jefe"), []byte("what do ya want for nothing?"), "5bdcc146bf60754e6a042426089575c75a003f089d2739839dec58b964ec3843"},
		{bytes.Repeat([]byte{0xaa}, 20), bytes.Repeat([]byte{0xdd}, 50), "773ea91e36800e46854db8ebd09181a72959098b3ef8c122d9635514ced565fe"},
		{[]byte("\x01\x02\x03\x04\x05\x06\x07\x08\x09\x0a\x0b\x0c\x0d\x0e\x0f\x10\x11\x12\x13\x14\x15\x16\x17\x18\x19"), bytes.Repeat([]byte{0xcd}, 50), "82558a389a443c0ea4cc819899f2083a85f0faa3e578f8077a2e3ff46729665b"},
		{bytes.Repeat([]byte{0x0c}, 20), []byte("Test With Truncation"), "a3b6167473100ee06e0c796c2955552b"},
		{bytes.Repeat([]byte{0xaa}, 131), []byte("Test Using Larger Than Block-Size Key - Hash Key First"), "60e431591ee0b67f0d8a26aacbf5b77f8e0bc6213728c5140546040f0ee37f54"},
		{bytes.Repeat([]byte{0xaa}, 131), []byte("This is a test using a larger than block-size key and a larger than block-size data. The key needs to be hashed before being used by the HMAC algorithm."), "9b09ffa71b942fcb27635fbcd5b0e944bfdc63644f0713938a7f51535c3a35e2"},
		{nil, nil, "b613679a0814d9ec772f95d778c35fc5ff1697c493715653c6c712144292c5ad"},
	} {
		got := Sum(x.key, x.b)
		if text := hex.EncodeToString(got[:]); !strings.HasPrefix(text, x.want) {
			t.Error(i, text)
		}
		want, _ := hex.DecodeString(x.want)
		if !Check(x.key, want, x.b) {
			t.Error(i, "not checked")
		}
	}
}

// P5.1 and P5: codes under keys of all lengths around 64, of bytes of all lengths around the first blocks, are those of the standard and of the definition.
func TestSumOfLengths(t *testing.T) {
	for n := range 200 {
		key := someBytes(n)
		for _, m := range []int{0, 1, 31, 32, 54, 55, 56, 63, 64, 65, 119, 120, 128, 1000 + n} {
			b := someBytes(m)
			got := Sum(key, b)
			if !bytes.Equal(got[:], standard(key, b)) || !bytes.Equal(got[:], defined(key, b)) {
				t.Errorf("%d %d %x", n, m, got)
			}
		}
	}
	for m := range 300 {
		if got := Sum(someBytes(m%70), someBytes(m)); !bytes.Equal(got[:], standard(someBytes(m%70), someBytes(m))) {
			t.Errorf("%d %x", m, got)
		}
	}
}

// P5.1: only a key with more than 64 bytes is replaced by its digest, and zero bytes up to 64 make no difference.
func TestKeys(t *testing.T) {
	b := []byte("bytes")
	for _, n := range []int{0, 1, 32, 63, 64, 65, 128, 1000} {
		key := someBytes(n)
		if n > 0 {
			key[n-1] = 1
		}
		d := sha.Sum(key)
		if same := Sum(key, b) == Sum(d[:], b); same != (n > 64) {
			t.Error(n, "digest", same)
		}
		longer := append(bytes.Clone(key), 0)
		if same := Sum(key, b) == Sum(longer, b); same != (n < 64) {
			t.Error(n, "zero byte", same)
		}
	}
	if Sum(nil, b) != Sum(make([]byte, 64), b) || Sum(nil, b) != Sum([]byte{}, b) || Sum(nil, b) == Sum(make([]byte, 65), b) {
		t.Error("zero bytes")
	}
}

// P5.1: no parts, and parts without bytes, are no bytes.
func TestSumOfNothing(t *testing.T) {
	want := [32]byte(standard([]byte("key"), nil))
	for i, parts := range [][][]byte{nil, {}, {nil}, {{}}, {nil, {}, nil}, make([][]byte, 10_000)} {
		if got := Sum([]byte("key"), parts...); got != want {
			t.Errorf("%d %x", i, got)
		}
		if !Check([]byte("key"), want[:], parts...) {
			t.Error(i, "not checked")
		}
	}
}

// P5.1: the key, the bytes and their order matter.
func TestSumOfOrder(t *testing.T) {
	a, b, c := []byte("ab"), []byte("c"), []byte("key")
	seen := map[[32]byte]bool{}
	for _, code := range [][32]byte{Sum(c, a, b), Sum(c, b, a), Sum(a, c, b), Sum(a, b, c), Sum(b, a, c), Sum(b, c, a)} {
		seen[code] = true
	}
	if len(seen) != 6 {
		t.Error(len(seen))
	}
}

// P5.1: strings of a few bytes, each with each.
func TestEqual(t *testing.T) {
	all := []string{""}
	for i := 0; len(all) < 300; i++ {
		for _, c := range []string{"\x00", "\x01", "\x80", "\xff"} {
			all = append(all, all[i]+c)
		}
	}
	for _, a := range all {
		for _, b := range all {
			if Equal([]byte(a), []byte(b)) != (a == b) {
				t.Errorf("%q %q", a, b)
			}
		}
	}
	if !Equal(nil, nil) || !Equal(nil, []byte{}) || !Equal([]byte{}, nil) || Equal(nil, []byte{0}) || Equal([]byte{0}, nil) {
		t.Error("nil")
	}
}

// P5.1: a single bit makes strings different, wherever it is; so does a byte that is missing.
func TestEqualOfBits(t *testing.T) {
	for _, n := range []int{1, 2, 15, 16, 17, 32, 100} {
		a := someBytes(n)
		b := bytes.Clone(a)
		if !Equal(a, b) || Equal(a, a[:n-1]) || Equal(a[:n-1], a) || Equal(append(b, 0), a) || Equal(a[1:], a) {
			t.Error(n)
		}
		for i := range 8 * n {
			b[i/8] ^= 1 << (i % 8)
			if Equal(a, b) || Equal(b, a) {
				t.Error(n, i)
			}
			b[i/8] ^= 1 << (i % 8)
		}
		if n > 1 { // two differences that cancel each other out
			b[0], b[n-1] = b[0]^5, b[n-1]^5
			if Equal(a, b) {
				t.Error(n, "two differences")
			}
			b[0], b[n-1] = a[0]+1, a[n-1]-1
			if Equal(a, b) {
				t.Error(n, "differences without a sum")
			}
		}
	}
}

// P5.2 and P5.4: derived strings of all lengths; a longer one begins with them.
func TestDerive(t *testing.T) {
	for _, x := range []struct {
		key   []byte
		label string
	}{
		{nil, ""},
		{[]byte("k"), "label"},
		{someBytes(16), "a \x00 and \xff"},
		{someBytes(64), strings.Repeat("x", 200)},
		{someBytes(65), "\x01"},
	} {
		want := derived(x.key, x.label)
		for n := 0; n <= 8160; n++ {
			if n > 200 && n < 8100 && n%97 > 0 {
				continue
			}
			if got := Derive(x.key, x.label, n); !bytes.Equal(got, want[:n]) {
				t.Fatalf("%q %d %x", x.label, n, got)
			}
		}
	}
}

// P5.2 and P1: no other n has a derived string.
func TestDeriveNothing(t *testing.T) {
	for _, n := range []int{math.MinInt, math.MinInt + 1, math.MinInt32, -8160, -32, -1, 0, 8161, 8191, 8192, 1 << 16, math.MaxInt32, 1 << 32, 1<<32 + 16, math.MaxInt - 1, math.MaxInt} {
		if got := Derive([]byte("k"), "label", n); len(got) != 0 {
			t.Error(n, len(got))
		}
	}
	if got := len(Derive([]byte("k"), "label", 8160)); got != 8160 {
		t.Error(got)
	}
}

// P5.2: labels are bytes, and each has strings of its own.
func TestLabels(t *testing.T) {
	seen := map[string]string{}
	for _, label := range []string{"", "\x00", "\x01", "\x02", "a", "A", "a ", "ab", "\u00e9", "e\u0301", "\xff", "\xc3\x28"} {
		got := string(Derive([]byte("k"), label, 100))
		if other, ok := seen[got]; ok {
			t.Errorf("%q %q", label, other)
		}
		seen[got] = label
		if got != string(derived([]byte("k"), label)[:100]) {
			t.Errorf("%q %x", label, got)
		}
	}
}

// P5.2: keys are the first 16 bytes of derived strings.
func TestKey(t *testing.T) {
	for n := range 100 {
		for _, label := range []string{"", "label", "other", strings.Repeat("long", 50)} {
			key := someBytes(n)
			want := standard(key, []byte("\x01"+label))[:16]
			got := Key(key, label)
			if !bytes.Equal(got[:], want) || !bytes.Equal(got[:], Derive(key, label, 100)[:16]) {
				t.Errorf("%d %q %x", n, label, got)
			}
		}
	}
}

// P5.3: the code and its beginnings of 16 to 32 bytes, and nothing shorter or longer.
func TestCheckOfLengths(t *testing.T) {
	for _, n := range []int{0, 1, 64, 65, 100} {
		key, b := someBytes(n), someBytes(n+50)
		code := append(standard(key, b), standard(key, b)...)
		for m := range len(code) + 1 {
			want := m >= 16 && m <= 32
			if Check(key, code[:m], b) != want || Check(key, code[:m], b[:20], nil, b[20:]) != want {
				t.Error(n, m)
			}
		}
		if Check(key, nil, b) || Check(key, append(code[:32:32], 0), b) || Check(key, append(code[:31:31], 0, 0), b) {
			t.Error(n, "wrong length")
		}
		for i := 1; i <= 16; i++ {
			if Check(key, code[i:i+16], b) {
				t.Error(n, i, "not at the beginning")
			}
		}
	}
}

// P5.3: a wrong bit of a code is found, wherever it is.
func TestCheckOfBits(t *testing.T) {
	key, b := []byte("key"), []byte("bytes")
	for m := 16; m <= 32; m++ {
		code := standard(key, b)[:m]
		for i := range 8 * m {
			code[i/8] ^= 1 << (i % 8)
			if Check(key, code, b) {
				t.Error(m, i)
			}
			code[i/8] ^= 1 << (i % 8)
		}
		if !Check(key, code, b) {
			t.Error(m)
		}
	}
}

// P5.3: the code of other bytes, or under another key, is not that of the parts.
func TestCheckOfOthers(t *testing.T) {
	key, b := []byte("key"), []byte("bytes")
	code := standard(key, b)
	if !Check(key, code, b) || Check(key, code) || Check(key, code, b[1:]) || Check(key, code, b, []byte{0}) || Check(key, code, []byte("byteS")) || Check(key, code, b[3:], b[:3]) {
		t.Error("bytes")
	}
	if Check(nil, code, b) || Check([]byte("Key"), code, b) || Check(key[1:], code, b) || Check(append([]byte{0}, key...), code, b) || Check(code, key, b) || Check(b, code, key) {
		t.Error("key")
	}
	if Check(key, make([]byte, 16), b) || Check(key, make([]byte, 32), b) || Check(key, bytes.Repeat([]byte{255}, 32), b) {
		t.Error("code")
	}
}

// P5.4: all divisions into three parts, with empty ones between them.
func TestDivisions(t *testing.T) {
	for _, n := range []int{1, 9, 55, 64, 100} {
		key, b := someBytes(20), someBytes(n)
		want := Sum(key, b)
		for i := range n + 1 {
			for j := i; j <= n; j++ {
				if got := Sum(key, b[:i], nil, b[i:j], []byte{}, b[j:]); got != want {
					t.Fatalf("%d %d %d %x", n, i, j, got)
				}
				if !Check(key, want[:16], b[:i], b[i:j], b[j:]) {
					t.Fatal(n, i, j)
				}
			}
		}
	}
}

// P1: long keys, many parts and long labels.
func TestLarge(t *testing.T) {
	b := someBytes(1 << 20)
	parts := make([][]byte, len(b))
	for i := range b {
		parts[i] = b[i : i+1]
	}
	want := standard(b, b)
	if got := Sum(b, parts...); !bytes.Equal(got[:], want) || !Check(b, want, parts...) {
		t.Errorf("%x", got)
	}
	if got := Derive(b, string(b[:1<<12]), 8160); !bytes.Equal(got, derived(b, string(b[:1<<12]))) {
		t.Error("wrong derived string")
	}
	if got := Derive(nil, string(b), 33); got[32] != standard(nil, append([]byte{2}, b...))[0] {
		t.Errorf("%x", got)
	}
}

// Rule 5: the arguments and their unused capacity stay as they are.
func TestArgumentsStay(t *testing.T) {
	room := someBytes(500)
	before := bytes.Clone(room)
	spare := [][]byte{room[200:220], room[210:260], room[300:300], []byte("spare")}
	parts := spare[:3]
	for _, key := range [][]byte{room[:10], room[:64], room[:100]} {
		Sum(key, parts...)
		Check(key, room[400:416], parts...)
		Equal(key, room[100:110])
		Derive(key, "label", 100)
		Key(key, "label")
	}
	if !bytes.Equal(room, before) {
		t.Error("bytes were changed")
	}
	if len(parts[0]) != 20 || &parts[1][0] != &room[210] || string(spare[3]) != "spare" {
		t.Error("parts were changed")
	}
}

// Rule 5: every derived string has memory of its own.
func TestDeriveIsNew(t *testing.T) {
	key := someBytes(64)
	s := Derive(key, "label", 64)
	clear(s)
	_ = append(s, 1)
	if !bytes.Equal(Derive(key, "label", 64), derived(key, "label")[:64]) || !bytes.Equal(key, someBytes(64)) {
		t.Error("shared memory")
	}
}

// Rules 7 and 8: codes that are made at the same time don't disturb each other.
func TestAtTheSameTime(t *testing.T) {
	var group sync.WaitGroup
	for n := range 64 {
		group.Go(func() {
			key, b := someBytes(n+30), someBytes(n+100)
			want, longer := standard(key, b), derived(key, "label")
			for range 20 {
				if got := Sum(key, b[:n], b[n:]); !bytes.Equal(got[:], want) || !Check(key, want[:20], b) {
					t.Error(n)
				}
				if !bytes.Equal(Derive(key, "label", 100), longer[:100]) {
					t.Error(n, "derived")
				}
			}
		})
	}
	group.Wait()
}
