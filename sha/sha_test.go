package sha

import (
	"bytes"
	"crypto/sha256"
	"fmt"
	"math"
	"math/big"
	"math/rand"
	"strings"
	"sync"
	"testing"
)

// someBytes returns n bytes of all values that look random, but are the same for the same n.
func someBytes(n int) []byte {
	b := make([]byte, n)
	rand.New(rand.NewSource(int64(n))).Read(b)
	return b
}

// prime returns the prime number i.
func prime(i int) int64 {
	for p := int64(2); ; p++ {
		if big.NewInt(p).ProbablyPrime(0) {
			if i == 0 {
				return p
			}
			i--
		}
	}
}

// rootBits returns the first 32 bits after the point of the root of x of that degree.
func rootBits(x int64, degree int) uint32 {
	n := new(big.Int).Lsh(big.NewInt(x), uint(32*degree))
	root := new(big.Int)
	for i := 48; i >= 0; i-- {
		root.SetBit(root, i, 1)
		if new(big.Int).Exp(root, big.NewInt(int64(degree)), nil).Cmp(n) > 0 {
			root.SetBit(root, i, 0)
		}
	}
	return uint32(root.Uint64())
}

// wantBlock is the state after a block by the definition, with the constants of rootBits.
func wantBlock(state [8]uint32, block [64]byte, constants []uint32) [8]uint32 {
	rot := func(w uint32, n int) uint32 { return w>>n | w<<(32-n) }
	var w []uint32
	for i := 0; i < 64; i += 4 {
		w = append(w, uint32(block[i])<<24|uint32(block[i+1])<<16|uint32(block[i+2])<<8|uint32(block[i+3]))
	}
	for i := 16; i < 64; i++ {
		x, y := w[i-15], w[i-2]
		w = append(w, w[i-16]+(rot(x, 7)^rot(x, 18)^(x>>3))+w[i-7]+(rot(y, 17)^rot(y, 19)^(y>>10)))
	}
	s := state
	for i := range 64 {
		a, b, c, e, f, g := s[0], s[1], s[2], s[4], s[5], s[6]
		t := s[7] + (rot(e, 6) ^ rot(e, 11) ^ rot(e, 25)) + ((e & f) ^ (^e & g)) + constants[i] + w[i]
		u := (rot(a, 2) ^ rot(a, 13) ^ rot(a, 22)) + ((a & b) ^ (a & c) ^ (b & c))
		copy(s[1:], s[:7])
		s[0], s[4] = t+u, s[4]+t
	}
	for i := range s {
		s[i] += state[i]
	}
	return s
}

// P4.1: the digests that the standard and the document give.
func TestSumOfStandard(t *testing.T) {
	for _, x := range []struct{ text, want string }{
		{"", "e3b0c44298fc1c149afbf4c8996fb92427ae41e4649b934ca495991b7852b855"},
		{"abc", "ba7816bf8f01cfea414140de5dae2223b00361a396177a9cb410ff61f20015ad"},
		{"abcdbcdecdefdefgefghfghighijhijkijkljklmklmnlmnomnopnopq", "248d6a61d20638b8e5c026930c3e6039a33ce45964ff2167f6ecedd419db06c1"},
		{"abcdefghbcdefghicdefghijdefghijkefghijklfghijklmghijklmnhijklmnoijklmnopjklmnopqklmnopqrlmnopqrsmnopqrstnopqrstu", "cf5b16a778af8380036ce59e7b0492370b249b11e8f07a51afac45037afee9d1"},
		{strings.Repeat("a", 1_000_000), "cdc76e5c9914fb9281a1c7e284d73e67f1809a48a497200e046d39ccc7112cd0"},
	} {
		if got := fmt.Sprintf("%x", Sum([]byte(x.text))); got != x.want {
			t.Errorf("%.10q %s", x.text, got)
		}
	}
}

// P4.1: no parts, and parts without bytes, are no bytes.
func TestSumOfNothing(t *testing.T) {
	want := sha256.Sum256(nil)
	for i, parts := range [][][]byte{nil, {}, {nil}, {{}}, {nil, {}, nil}, make([][]byte, 10_000)} {
		if got := Sum(parts...); got != want {
			t.Errorf("%d %x", i, got)
		}
	}
}

// P4.1 and P5: digests of all lengths around the first blocks, and of those around the most that parts have, are those of the standard.
func TestSumOfLengths(t *testing.T) {
	lengths := []int{1<<16 - 1, 1 << 16, 1<<22 - 9, 1<<22 - 8, 1<<22 - 1, 1 << 22}
	for n := range 64*5 + 1 {
		lengths = append(lengths, n)
	}
	for _, n := range lengths {
		for _, b := range [][]byte{someBytes(n), make([]byte, n), bytes.Repeat([]byte{255}, n)} {
			if got := Sum(b); got != sha256.Sum256(b) {
				t.Errorf("%d bytes: %x", n, got)
			}
		}
	}
}

// P4.1: the order of the parts matters.
func TestSumOfOrder(t *testing.T) {
	a, b := []byte("ab"), []byte("c")
	if Sum(a, b) != sha256.Sum256([]byte("abc")) || Sum(b, a) != sha256.Sum256([]byte("cab")) {
		t.Error("wrong order")
	}
}

// P4.2: the constants, from the cube roots of the prime numbers.
func TestConstant(t *testing.T) {
	for i := range 64 {
		if c, ok := Constant(i); c != rootBits(prime(i), 3) || !ok {
			t.Errorf("%d %#x %v", i, c, ok)
		}
	}
	if c, _ := Constant(63); c != 0xc67178f2 { // so that the roots of the test are checked too
		t.Errorf("%#x", c)
	}
	for _, i := range []int{math.MinInt, math.MinInt32, -64, -2, -1, 64, 65, 127, 128, 256, 1 << 16, math.MaxInt32, 1 << 32, math.MaxInt} {
		if c, ok := Constant(i); c != 0 || ok {
			t.Errorf("%d %#x %v", i, c, ok)
		}
	}
}

// P4.2: the start, from the square roots of the prime numbers, is the same after a result was changed.
func TestStart(t *testing.T) {
	for range 2 {
		start := Start()
		for i := range start {
			if start[i] != rootBits(prime(i), 2) {
				t.Errorf("%d %#x", i, start[i])
			}
			start[i] = 0
		}
	}
	if s := Start(); s[0] != 0x6a09e667 || s[7] != 0x5be0cd19 {
		t.Errorf("%#x", s)
	}
}

// P4.2: the state after the only block of abc, worked out in the standard.
func TestBlockOfStandard(t *testing.T) {
	block := [64]byte{0: 'a', 1: 'b', 2: 'c', 3: 128, 63: 24}
	want := [8]uint32{0xba7816bf, 0x8f01cfea, 0x414140de, 0x5dae2223, 0xb00361a3, 0x96177a9c, 0xb410ff61, 0xf20015ad}
	if got := Block(Start(), block); got != want {
		t.Errorf("%#x", got)
	}
}

// P4.2: states after blocks agree with the definition, for states that no digest has too; the arguments stay as they are.
func TestBlock(t *testing.T) {
	var constants []uint32
	for i := range 64 {
		constants = append(constants, rootBits(prime(i), 3))
	}
	states := [][8]uint32{{}, {0: 1}, {7: 1 << 31}, Start()}
	blocks := [][64]byte{{}, {0: 1}, {63: 128}, {3: 255, 60: 1}}
	random := rand.New(rand.NewSource(1))
	for range 200 {
		var s [8]uint32
		var b [64]byte
		for i := range s {
			s[i] = random.Uint32()
		}
		random.Read(b[:])
		states, blocks = append(states, s), append(blocks, b)
	}
	for i, s := range states {
		for j, b := range blocks {
			s0, b0 := s, b
			if got := Block(s, b); got != wantBlock(s, b, constants) {
				t.Fatalf("%d %d %#x", i, j, got)
			}
			if s != s0 || b != b0 {
				t.Fatal(i, j, "an argument was changed")
			}
		}
	}
}

// P4.2: the bytes of paddings that were worked out by hand.
func TestPaddingByHand(t *testing.T) {
	for _, x := range []struct {
		n, zeros int
		size     [8]byte
	}{
		{0, 55, [8]byte{}},
		{1, 54, [8]byte{7: 8}},
		{3, 52, [8]byte{7: 24}},
		{31, 24, [8]byte{7: 248}},
		{32, 23, [8]byte{6: 1}},
		{54, 1, [8]byte{6: 1, 7: 176}},
		{55, 0, [8]byte{6: 1, 7: 184}},
		{56, 63, [8]byte{6: 1, 7: 192}},
		{63, 56, [8]byte{6: 1, 7: 248}},
		{64, 55, [8]byte{6: 2}},
		{119, 0, [8]byte{6: 3, 7: 184}},
		{120, 63, [8]byte{6: 3, 7: 192}},
		{1 << 22, 55, [8]byte{4: 2}},
		{1<<29 - 1, 56, [8]byte{4: 255, 5: 255, 6: 255, 7: 248}},
		{1 << 29, 55, [8]byte{3: 1}},
		{1<<32 + 55, 0, [8]byte{3: 8, 6: 1, 7: 184}},
		{1<<40 - 1, 56, [8]byte{2: 7, 3: 255, 4: 255, 5: 255, 6: 255, 7: 248}},
		{1 << 40, 55, [8]byte{2: 8}},
	} {
		want := append([]byte{128}, make([]byte, x.zeros)...)
		want = append(want, x.size[:]...)
		if got := Padding(x.n); !bytes.Equal(got, want) {
			t.Error(x.n, got)
		}
	}
}

// P4.2: paddings have the least number of zeros that fills blocks.
func TestPadding(t *testing.T) {
	for n := range 1000 {
		zeros := 0
		for (n+1+zeros+8)%64 != 0 {
			zeros++
		}
		want := append([]byte{128}, make([]byte, zeros+6)...)
		want = append(want, byte(8*n>>8), byte(8*n))
		if got := Padding(n); !bytes.Equal(got, want) {
			t.Error(n, got)
		}
	}
}

// P4.2, rule 5: every padding has memory of its own.
func TestPaddingIsNew(t *testing.T) {
	p := Padding(55)
	clear(p)
	_ = append(p, 1)
	if got := Padding(55); !bytes.Equal(got, []byte{128, 0, 0, 0, 0, 0, 0, 1, 184}) {
		t.Error(got)
	}
}

// P4.1 and P4.2: a digest is what Start, Block and Padding make of the bytes.
func TestSumByBlocks(t *testing.T) {
	for n := range 300 {
		b := someBytes(n)
		state := Start()
		for all := append(bytes.Clone(b), Padding(n)...); len(all) > 0; all = all[64:] {
			state = Block(state, [64]byte(all))
		}
		var want []byte
		for _, w := range state {
			want = append(want, byte(w>>24), byte(w>>16), byte(w>>8), byte(w))
		}
		if got := Sum(b); !bytes.Equal(got[:], want) {
			t.Errorf("%d %x", n, got)
		}
	}
}

// P4.3: all divisions into three parts, with empty ones between them.
func TestDivisions(t *testing.T) {
	for _, n := range []int{1, 9, 55, 56, 64, 65, 128, 150} {
		b := someBytes(n)
		want := Sum(b)
		for i := range n + 1 {
			for j := i; j <= n; j++ {
				if got := Sum(b[:i], nil, b[i:j], []byte{}, b[j:]); got != want {
					t.Fatalf("%d %d %d %x", n, i, j, got)
				}
			}
		}
	}
}

// P4.3: parts of the same length, from single bytes on.
func TestEqualParts(t *testing.T) {
	b := someBytes(1 << 12)
	want := Sum(b)
	for size := 1; size <= 200; size++ {
		var parts [][]byte
		for rest := b; len(rest) > 0; rest = rest[min(size, len(rest)):] {
			parts = append(parts, rest[:min(size, len(rest))])
		}
		if got := Sum(parts...); got != want {
			t.Errorf("%d %x", size, got)
		}
	}
}

// P1: the most bytes, in as many parts.
func TestManyParts(t *testing.T) {
	b := someBytes(1 << 22)
	parts := make([][]byte, len(b))
	for i := range b {
		parts[i] = b[i : i+1]
	}
	if got := Sum(parts...); got != sha256.Sum256(b) {
		t.Errorf("%x", got)
	}
}

// P1: no number makes Constant or Padding panic, also those of which nothing more is promised.
func TestAnyNumber(t *testing.T) {
	for _, n := range []int{math.MinInt, math.MinInt + 1, -1 << 40, -65, -64, -9, -8, -1, 1<<40 + 1, 1 << 61, math.MaxInt - 8, math.MaxInt} {
		Constant(n)
		if got := len(Padding(n)); got < 9 || got > 72 {
			t.Error(n, got)
		}
	}
}

// Rule 5: the parts and their unused capacity stay as they are.
func TestPartsStay(t *testing.T) {
	room := someBytes(200)
	before := bytes.Clone(room)
	Sum(room[:70], room[60:65], room[100:150])
	if !bytes.Equal(room, before) {
		t.Error("a part was changed")
	}
}

// Rules 7 and 8: digests that are made at the same time don't disturb each other.
func TestAtTheSameTime(t *testing.T) {
	var group sync.WaitGroup
	for n := range 64 {
		group.Go(func() {
			b := someBytes(500 + n)
			for range 20 {
				if Sum(b[:n], b[n:]) != sha256.Sum256(b) {
					t.Error(n)
				}
			}
		})
	}
	group.Wait()
}
