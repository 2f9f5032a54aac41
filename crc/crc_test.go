package crc

import (
	"bytes"
	"encoding/binary"
	"hash/crc32"
	"math"
	"math/rand"
	"slices"
	"sync"
	"testing"
)

// someBytes returns n bytes of all values that look random, but are the same for the same n.
func someBytes(n int) []byte {
	b := make([]byte, n)
	rand.New(rand.NewSource(int64(n))).Read(b)
	return b
}

// defined returns x after n steps by the definition.
func defined(x uint32, n int) uint32 {
	for i := 0; i < n; i++ {
		out := x % 2
		x /= 2
		if out == 1 {
			x ^= 0x82f63b78
		}
	}
	return x
}

// definedSum returns the checksum of all parts by the definition.
func definedSum(parts ...[]byte) uint32 {
	x := uint32(math.MaxUint32)
	for _, b := range parts {
		for _, c := range b {
			x = defined(x^uint32(c), 8)
		}
	}
	return ^x
}

// checked returns the checked string with the bytes b by the definition.
func checked(b []byte) []byte {
	return binary.BigEndian.AppendUint32(bytes.Clone(b), definedSum(b))
}

// bytesOf returns 4 bytes with the checksum sum, by undoing the steps.
func bytesOf(sum uint32) []byte {
	x := ^sum
	for range 32 {
		if x>>31 == 1 {
			x = (x^0x82f63b78)<<1 | 1
		} else {
			x <<= 1
		}
	}
	return binary.LittleEndian.AppendUint32(nil, ^x)
}

// someNumbers are numbers of 32 bits: the least and greatest ones, all single bits, and some others.
func someNumbers() []uint32 {
	l := []uint32{0, math.MaxUint32, math.MaxUint32 - 1, polynomial, ^uint32(polynomial), 0x12345678, 0xe3069283}
	for k := range 32 {
		l = append(l, 1<<k, 1<<k-1, ^uint32(1<<k))
	}
	random := rand.New(rand.NewSource(1))
	for range 100 {
		l = append(l, random.Uint32())
	}
	return l
}

// refuse checks that a string is no checked one.
func refuse(t testing.TB, s []byte, what ...any) {
	t.Helper()
	if b, ok := Check(s); ok || len(b) != 0 {
		t.Errorf("%v: %x is checked: %x %v", what, s, b, ok)
	}
}

// accept checks that a string is a checked one with the bytes want.
func accept(t testing.TB, s, want []byte, what ...any) {
	t.Helper()
	if b, ok := Check(s); !ok || !bytes.Equal(b, want) {
		t.Errorf("%v: %d bytes %v", what, len(b), ok)
	}
}

// P10.1, P5 and the chapter's examples: the checksums that RFC 3720 (B.4) and others list.
func TestSumOfStandard(t *testing.T) {
	up, down := make([]byte, 32), make([]byte, 32)
	for i := range up {
		up[i], down[i] = byte(i), byte(31-i)
	}
	read := make([]byte, 48) // the command that RFC 3720 calls an iSCSI read
	for i, c := range map[int]byte{0: 0x01, 1: 0xc0, 16: 0x14, 22: 0x04, 27: 0x14, 31: 0x18, 32: 0x28, 40: 0x02} {
		read[i] = c
	}
	for i, x := range []struct {
		b    []byte
		want uint32
	}{
		{nil, 0},
		{[]byte("123456789"), 0xe3069283},
		{[]byte("a"), 0xc1d04330},
		{[]byte("abc"), 0x364b3fb7},
		{[]byte("The quick brown fox jumps over the lazy dog"), 0x22620404},
		{make([]byte, 32), 0x8a9136aa},
		{bytes.Repeat([]byte{255}, 32), 0x62a8ab43},
		{up, 0x46dd794e},
		{down, 0x113fdb5c},
		{read, 0xd9963a56},
	} {
		if got := Sum(x.b); got != x.want || definedSum(x.b) != x.want {
			t.Errorf("%d: %#x", i, got)
		}
	}
}

// P10.1: the checksums of all single bytes and of all pairs of them.
func TestSumOfShort(t *testing.T) {
	for i := range 256 {
		b := []byte{byte(i)}
		if got := Sum(b); got != definedSum(b) {
			t.Errorf("%d: %#x", i, got)
		}
		for k := range 256 {
			b := []byte{byte(i), byte(k)}
			if got := Sum(b); got != definedSum(b) {
				t.Fatalf("%d %d: %#x", i, k, got)
			}
		}
	}
}

// P10.1 and P5: bytes of many lengths, by the definition and by the library.
func TestSumOfLengths(t *testing.T) {
	library := crc32.MakeTable(crc32.Castagnoli)
	for n := range 400 {
		for _, b := range [][]byte{someBytes(n), make([]byte, n), bytes.Repeat([]byte{255}, n)} {
			if got := Sum(b); got != definedSum(b) || got != crc32.Checksum(b, library) {
				t.Fatalf("%d: %#x", n, got)
			}
		}
	}
	long := someBytes(1<<22 + 3)
	want := crc32.Checksum(long, library)
	if got := Sum(long); got != want || Sum(long[:1<<21], long[1<<21:]) != want || Update(Sum(long[:5]), long[5:]) != want {
		t.Errorf("%#x", got)
	}
}

// P10.1 and rule 4: no parts, and parts of no bytes.
func TestSumOfNothing(t *testing.T) {
	for i, parts := range [][][]byte{nil, {}, {nil}, {{}}, {nil, {}, nil}} {
		if got := Sum(parts...); got != 0 {
			t.Errorf("%d: %#x", i, got)
		}
	}
}

// P10.1 and P10.2: the checksum does not depend on how the bytes are divided, but on their order.
func TestSumOfParts(t *testing.T) {
	b := someBytes(40)
	want := definedSum(b)
	for i := range len(b) + 1 {
		for k := i; k <= len(b); k++ {
			if got := Sum(b[:i], b[i:k], nil, b[k:]); got != want {
				t.Fatalf("%d %d: %#x", i, k, got)
			}
			if got := Update(Update(Sum(b[:i]), b[i:k]), b[k:]); got != want {
				t.Fatalf("%d %d: %#x", i, k, got)
			}
			if turned := [][]byte{b[k:], b[i:k], b[:i]}; Sum(turned...) != definedSum(turned...) {
				t.Fatalf("%d %d: %#x in another order", i, k, Sum(turned...))
			}
		}
	}
	if Sum([]byte("ab"), []byte("c")) != Sum([]byte("abc")) || Sum([]byte("c"), []byte("ab")) == Sum([]byte("abc")) {
		t.Error("parts of abc")
	}
}

// P10.1: thousands of parts, each of one byte or of none.
func TestSumOfManyParts(t *testing.T) {
	b := someBytes(5_000)
	parts := make([][]byte, 0, 2*len(b))
	for i := range b {
		parts = append(parts, b[i:i+1], b[i:i])
	}
	if got := Sum(parts...); got != definedSum(b) {
		t.Errorf("%#x", got)
	}
}

// P10.1: steps by the definition, and one after the other.
func TestStep(t *testing.T) {
	for _, x := range someNumbers() {
		want := x
		for n := range 100 {
			if got := Step(x, n); got != want || got != defined(x, n) {
				t.Fatalf("%#x %d: %#x", x, n, got)
			}
			if Step(Step(x, n), 7) != Step(x, n+7) {
				t.Fatalf("%#x %d: not continued", x, n)
			}
			want = Step(want, 1)
		}
	}
	for i, x := range []struct {
		x    uint32
		n    int
		want uint32
	}{{1, 1, 0x82f63b78}, {2, 1, 1}, {2, 2, 0x82f63b78}, {3, 1, 0x82f63b79}, {0x80000000, 1, 0x40000000}, {0x80000000, 31, 1}, {0x80000000, 32, 0x82f63b78}, {0, 1 << 16, 0}} {
		if got := Step(x.x, x.n); got != x.want {
			t.Errorf("%d: %#x", i, got)
		}
	}
}

// P10.1: x itself after less than one step.
func TestStepOfNone(t *testing.T) {
	for _, x := range someNumbers() {
		for _, n := range []int{0, -1, -2, -8, -256, -1 << 16, -1<<31 + 1, math.MinInt32, math.MinInt + 1, math.MinInt} {
			if got := Step(x, n); got != x {
				t.Errorf("%#x %d: %#x", x, n, got)
			}
		}
	}
}

// P10.1: the most steps that are specified.
func TestStepOfMany(t *testing.T) {
	for _, x := range []uint32{1, 2, 0x80000000, math.MaxUint32, polynomial, 0x12345678} {
		for _, n := range []int{255, 256, 1000, 1<<15 - 1, 1 << 15, 1<<16 - 1, 1 << 16} {
			if got := Step(x, n); got != defined(x, n) {
				t.Errorf("%#x %d: %#x", x, n, got)
			}
		}
	}
}

// P1: more steps end too, although nothing more is promised of them: the numbers recur after the period.
func TestStepOfMore(t *testing.T) {
	// The steps are linear: those of the bits are doubled 31 times, to 2^31 of them, which are one more than the period.
	var one, power [32]uint32
	for k := range one {
		one[k] = defined(1<<k, 1)
	}
	power = one
	for range 31 {
		var twice [32]uint32
		for k, x := range power {
			for j := range power {
				twice[k] ^= x >> j & 1 * power[j]
			}
		}
		power = twice
	}
	if power != one {
		t.Error("another period")
	}
	for _, x := range someNumbers() {
		for n, want := range map[int]uint32{1<<16 + 1: defined(x, 1<<16+1), period: x, period + 3: defined(x, 3), math.MaxInt64: defined(x, 1), math.MaxInt64 - 1: x} {
			if got := Step(x, n); got != want {
				t.Errorf("%#x %d: %#x", x, n, got)
			}
		}
	}
}

// P10.2: every number is the checksum of some bytes, and is continued as they are.
func TestUpdate(t *testing.T) {
	for i, sum := range someNumbers() {
		front := bytesOf(sum)
		if Sum(front) != sum || definedSum(front) != sum {
			t.Fatalf("%#x: not that of %x", sum, front)
		}
		for n := range 20 {
			b := someBytes(20*i + n)[20*i:]
			if got := Update(sum, b); got != definedSum(front, b) {
				t.Fatalf("%#x %d: %#x", sum, n, got)
			}
		}
	}
}

// P10.2 and rule 4: no bytes leave a checksum as it is, and the one of no bytes is continued as all others.
func TestUpdateOfNothing(t *testing.T) {
	for _, sum := range someNumbers() {
		if Update(sum, nil) != sum || Update(sum, []byte{}) != sum {
			t.Errorf("%#x: %#x", sum, Update(sum, nil))
		}
	}
	if got := Update(0, []byte("123456789")); got != 0xe3069283 {
		t.Errorf("%#x", got)
	}
}

// P10.2: all checksums on the way, one byte after the other.
func TestUpdateOfSingles(t *testing.T) {
	b := someBytes(1_000)
	sum := uint32(0)
	for i := range b {
		if got := Sum(b[:i]); got != sum {
			t.Fatalf("%d: %#x", i, got)
		}
		sum = Update(sum, b[i:i+1])
	}
	if sum != definedSum(b) {
		t.Errorf("%#x", sum)
	}
}

// P10.3: checked strings of many lengths, and the highest byte of the checksum in front.
func TestAppend(t *testing.T) {
	if got := Append([]byte("123456789")); string(got) != "123456789\xe3\x06\x92\x83" {
		t.Errorf("%x", got)
	}
	for n := range 300 {
		for _, b := range [][]byte{someBytes(n), make([]byte, n), bytes.Repeat([]byte{255}, n)} {
			if got := Append(b); !bytes.Equal(got, checked(b)) {
				t.Fatalf("%d: %x", n, got)
			}
		}
	}
}

// P10.3: the checksum has 4 bytes, also if the first of them are 0.
func TestAppendOfAnySum(t *testing.T) {
	for _, sum := range someNumbers() {
		b := bytesOf(sum)
		want := binary.BigEndian.AppendUint32(bytes.Clone(b), sum)
		if got := Append(b); !bytes.Equal(got, want) {
			t.Errorf("%#x: %x", sum, got)
		}
		accept(t, want, b, sum)
	}
}

// P10.3 and P10.4: checked strings by the definition are checked, and those of Append.
func TestCheck(t *testing.T) {
	for n := range 300 {
		b := someBytes(n)
		accept(t, checked(b), b, n)
		accept(t, Append(b), b, n)
	}
	long := someBytes(1<<20 + 1)
	accept(t, Append(long), long)
}

// P10.3 and rule 4: the checked string of no bytes is 4 zero bytes.
func TestNoBytes(t *testing.T) {
	for _, b := range [][]byte{nil, {}} {
		if got := Append(b); !bytes.Equal(got, make([]byte, 4)) {
			t.Errorf("%x", got)
		}
	}
	accept(t, make([]byte, 4), nil)
}

// P10.3: strings with less bytes than a checksum are none.
func TestCheckOfShort(t *testing.T) {
	for n := range 4 {
		for _, b := range [][]byte{make([]byte, n), bytes.Repeat([]byte{255}, n), someBytes(n), checked(nil)[:n], checked([]byte("abc"))[:n]} {
			refuse(t, b, n)
		}
	}
	refuse(t, nil)
	refuse(t, []byte{})
}

// P10.3: strings that are nearly checked: with another order of the bytes of the checksum, or a checksum of something else, or elsewhere.
func TestCheckOfNearly(t *testing.T) {
	b := someBytes(30)
	sum := checked(b)[30:]
	low := slices.Clone(sum)
	slices.Reverse(low)
	for i, end := range [][]byte{nil, low, make([]byte, 4), {255, 255, 255, 255}, {^sum[0], ^sum[1], ^sum[2], ^sum[3]}, sum[:3], sum[1:], checked(b[1:])[29:], checked(b[:29])[29:], append([]byte{0, 0, 0, 0}, sum...)} {
		refuse(t, append(bytes.Clone(b), end...), i)
	}
	refuse(t, append(bytes.Clone(sum), b...), "in front")
	for i := range 4 {
		for k := range i {
			s := checked(b)
			s[30+i], s[30+k] = s[30+k], s[30+i]
			refuse(t, s, i, k)
		}
	}
}

// P10.3: random strings are none, for bytes are checked by one of 2^32 checksums only.
func TestCheckOfOthers(t *testing.T) {
	for n := range 300 {
		refuse(t, append(someBytes(n), 1, 2, 3, 4), n)
		if n > 4 {
			refuse(t, make([]byte, n), n)
			refuse(t, bytes.Repeat([]byte{255}, n+4), n)
		}
	}
}

// P10.4: no byte of a checked string may be changed to any other.
func TestChangedBytes(t *testing.T) {
	for _, n := range []int{0, 1, 3, 4, 9, 60} {
		s := Append(someBytes(n))
		for i := range s {
			for c := 1; c < 256; c++ {
				s[i] ^= byte(c)
				refuse(t, s, n, i, c)
				s[i] ^= byte(c)
			}
		}
		accept(t, s, someBytes(n), n)
	}
}

// P10.4: also in a long string, each bit counts.
func TestChangedBits(t *testing.T) {
	const n = 1 << 16
	s := Append(someBytes(n))
	for _, i := range []int{0, 1, 255, 4096, n / 2, n - 1, n, n + 1, n + 2, n + 3} {
		for k := range 8 {
			s[i] ^= 1 << k
			refuse(t, s[:len(s):len(s)], i, k)
			s[i] ^= 1 << k
		}
	}
	accept(t, s, someBytes(n))
}

// P10.3: the parts of a checked string, and longer ones, are none.
func TestOtherLengths(t *testing.T) {
	b := someBytes(40)
	s := Append(b)
	for i := range len(s) + 1 {
		for k := i; k <= len(s); k++ {
			if k-i < len(s) {
				refuse(t, s[i:k], i, k)
			}
		}
	}
	for i := range len(s) + 1 {
		for _, c := range []byte{0, 1, 255} {
			refuse(t, slices.Insert(bytes.Clone(s), i, c, c), i, c)
		}
	}
}

// P10.4: what is checked is appended to again as the same string; a checked string can be checked once more.
func TestInverse(t *testing.T) {
	random := rand.New(rand.NewSource(1))
	for range 300 {
		b := make([]byte, random.Intn(300))
		random.Read(b)
		s := checked(b)
		got, ok := Check(s)
		if !ok || !bytes.Equal(got, b) || !bytes.Equal(Append(got), s) {
			t.Fatalf("%x: %x %v", b, got, ok)
		}
		accept(t, Append(s), s)
		accept(t, Append(append(b, 0)), append(b, 0))
	}
}

// Rule 5: bytes and their unused capacity stay as they are, and results share no memory with them or with each other.
func TestMemory(t *testing.T) {
	room := append(Append(someBytes(40)), someBytes(50)...)
	before := bytes.Clone(room)
	b, s := room[:40], room[:44]
	first, _ := Check(s)
	second, _ := Check(s)
	results := [][]byte{Append(b), Append(b), first, second}
	Sum(b, s, nil, b)
	Update(Sum(b), s)
	refuse(t, room[:43])
	if !bytes.Equal(room, before) {
		t.Error("bytes of an argument changed")
	}
	for i, r := range results {
		for k := range r[:cap(r)] {
			r[:cap(r)][k] = byte(i)
		}
	}
	for i, r := range results {
		if len(r) == 0 || !bytes.Equal(r, bytes.Repeat([]byte{byte(i)}, len(r))) {
			t.Error(i, "shares memory with a later result")
		}
	}
	if !bytes.Equal(room, before) {
		t.Error("a result shares memory with an argument")
	}
}

// Rule 5: the list of parts stays as it is.
func TestPartsStay(t *testing.T) {
	room := [][]byte{{1}, {2, 3}, {4}}
	Sum(room[:2]...)
	if len(room[0]) != 1 || len(room[1]) != 2 || len(room[2]) != 1 || room[0][0] != 1 || string(room[1]) != "\x02\x03" || room[2][0] != 4 {
		t.Error(room)
	}
}

// P10.1: the table holds what each byte is after 8 steps, from the first 8 steps of a byte on.
func TestTable(t *testing.T) {
	made, table = sync.Once{}, [256]uint32{}
	Step(1, 8)
	for i, x := range table {
		if x != defined(uint32(i), 8) {
			t.Errorf("%d: %#x", i, x)
		}
	}
}

// P10.1 to P10.4: functions compute all results, so that these are right whatever the table holds.
func TestResultsWithoutTable(t *testing.T) {
	defer func() { made = sync.Once{} }()
	made.Do(func() {})
	random := rand.New(rand.NewSource(1))
	for i := range 20 {
		table = [256]uint32{}
		for k := range 256 * min(i, 1) {
			table[k] = random.Uint32() >> (2 * i % 32)
		}
		if i == 1 {
			for k := range 128 {
				table[k] = defined(uint32(k)^1, 8) // those of other bytes
			}
		}
		for x := range uint32(600) {
			for n := 6; n <= 10; n++ {
				if got := Step(x, n); got != defined(x, n) {
					t.Fatalf("%d: %d %d: %#x", i, x, n, got)
				}
			}
		}
		for n := range 300 {
			b := someBytes(n)
			if Sum(b) != definedSum(b) || Update(Sum(b), b) != definedSum(b, b) || !bytes.Equal(Append(b), checked(b)) {
				t.Fatalf("%d: %x: %#x %#x %x", i, b, Sum(b), Update(Sum(b), b), Append(b))
			}
			accept(t, checked(b), b, i)
			refuse(t, append(b, 1, 2, 3, 4), i)
		}
	}
}

// P10.1: steps are undone, as a byte of the table is confirmed by that.
func TestBack(t *testing.T) {
	for _, x := range someNumbers() {
		for n := range 70 {
			if got := back(defined(x, n), n); got != x || defined(back(x, n), n) != x {
				t.Fatalf("%#x %d: %#x", x, n, got)
			}
		}
	}
}

// Rules 7 and 8: whichever function is called first, and however many are at the same time, all of them have their results.
func TestFirstAtTheSameTime(t *testing.T) {
	text := []byte("123456789")
	calls := []func() bool{
		func() bool { return Sum(text[:4], text[4:]) == 0xe3069283 },
		func() bool { return Update(0xe3069283, text) == 0xa86c53f4 },
		func() bool { return Step(2, 2) == 0x82f63b78 },
		func() bool { return Step(1, 8) == 0xf26b8303 && Step(255, 8) == 0xad7d5351 },
		func() bool { return string(Append(text)) == "123456789\xe3\x06\x92\x83" },
		func() bool { b, ok := Check([]byte("123456789\xe3\x06\x92\x83")); return ok && bytes.Equal(b, text) },
		func() bool { b, ok := Check([]byte("123456788\xe3\x06\x92\x83")); return !ok && len(b) == 0 },
	}
	for first := range calls {
		made, table = sync.Once{}, [256]uint32{}
		var group sync.WaitGroup
		for i := range 10 * len(calls) {
			group.Go(func() {
				if !calls[(first+i)%len(calls)]() {
					t.Error(first, i)
				}
			})
		}
		group.Wait()
	}
	for first, call := range calls {
		made, table = sync.Once{}, [256]uint32{}
		if !call() {
			t.Error(first, "alone")
		}
	}
}
