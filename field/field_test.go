package field

import (
	"encoding/hex"
	"math"
	"math/bits"
	"math/rand"
	"strings"
	"sync"
	"testing"
)

// standardSub are the substitutions of all bytes, as FIPS 197 lists them.
const standardSub = `
	637c777bf26b6fc53001672bfed7ab76 ca82c97dfa5947f0add4a2af9ca472c0
	b7fd9326363ff7cc34a5e5f171d83115 04c723c31896059a071280e2eb27b275
	09832c1a1b6e5aa0523bd6b329e32f84 53d100ed20fcb15b6acbbe394a4c58cf
	d0efaafb434d338545f9027f503c9fa8 51a3408f929d38f5bcb6da2110fff3d2
	cd0c13ec5f974417c4a77e3d645d1973 60814fdc222a908846eeb814de5e0bdb
	e0323a0a4906245cc2d3ac629195e479 e7c8376d8dd54ea96c56f4ea657aae08
	ba78252e1ca6b4c6e8dd741f4bbd8b8a 703eb5664803f60e613557b986c11d9e
	e1f8981169d98e949b1e87e9ce5528df 8ca1890dbfe6426841992d0fb054bb16`

// defined returns the product of two bytes by the definition: that of the polynomials, and the remainder of its division.
func defined(a, b byte) byte {
	product := 0
	for i := range 8 {
		for j := range 8 {
			product ^= int(a>>i&1) * int(b>>j&1) << (i + j)
		}
	}
	for bits.Len(uint(product)) > 8 {
		product ^= 0b1_0001_1011 << (bits.Len(uint(product)) - 9)
	}
	return byte(product)
}

// definedInverse returns the inverse of a byte by the definition.
func definedInverse(a byte) byte {
	for b := range 256 {
		if defined(a, byte(b)) == 1 {
			return byte(b)
		}
	}
	return 0
}

// substitution returns that of a byte by the definition.
func substitution(a byte) (s byte) {
	b := definedInverse(a)
	bit := func(x byte, i int) byte { return x >> (i % 8) & 1 }
	for i := range 8 {
		s |= (bit(b, i) ^ bit(b, i+4) ^ bit(b, i+5) ^ bit(b, i+6) ^ bit(b, i+7) ^ bit(99, i)) << i
	}
	return s
}

// P6.1 and P5: the products that the standard and the chapter give.
func TestMulOfStandard(t *testing.T) {
	for _, x := range []struct{ a, b, want byte }{
		{0x57, 0x83, 0xc1}, {0x57, 0x13, 0xfe}, {0x57, 0x02, 0xae}, {0x57, 0x04, 0x47}, {0x57, 0x08, 0x8e}, {0x57, 0x10, 0x07}, {0x57, 0x20, 0x0e}, {0x57, 0x40, 0x1c}, {0x57, 0x80, 0x38},
	} {
		if got := Mul(x.a, x.b); got != x.want {
			t.Errorf("%#x %#x: %#x", x.a, x.b, got)
		}
	}
}

// P6.1 and P6.4: the products of all pairs, in both orders.
func TestMulOfPairs(t *testing.T) {
	for a := range 256 {
		for b := range 256 {
			want := defined(byte(a), byte(b))
			if got := Mul(byte(a), byte(b)); got != want || Mul(byte(b), byte(a)) != want {
				t.Fatalf("%#x %#x: %#x", a, b, got)
			}
		}
	}
}

// P6.1: the product of a byte alone is the byte.
func TestMulOfOne(t *testing.T) {
	for a := range 256 {
		if got := Mul(byte(a)); got != byte(a) {
			t.Errorf("%#x: %#x", a, got)
		}
		if got := Mul(byte(a), []byte{}...); got != byte(a) {
			t.Errorf("%#x: %#x", a, got)
		}
	}
}

// P6.1 and P6.4: products of many bytes, in any order, and with their parts put together in any way.
func TestMulOfMany(t *testing.T) {
	random := rand.New(rand.NewSource(1))
	for n := range 200 {
		l := make([]byte, n)
		for i := range l {
			l[i] = byte(1 + random.Intn(255))
		}
		want := byte(1)
		for _, b := range l {
			want = defined(want, b)
		}
		half := Mul(1, l[:n/2]...)
		if got := Mul(1, l...); got != want || Mul(half, l[n/2:]...) != want || Mul(Mul(1, l[n/2:]...), half) != want {
			t.Errorf("%d bytes: %#x", n, got)
		}
		random.Shuffle(n, func(i, j int) { l[i], l[j] = l[j], l[i] })
		if got := Mul(1, l...); got != want {
			t.Errorf("%d bytes in another order: %#x", n, got)
		}
	}
}

// P6.1: one byte 0 makes the product 0, wherever it is.
func TestMulOfZero(t *testing.T) {
	for n := 1; n < 20; n++ {
		for i := range n {
			l := []byte(strings.Repeat("\x57", n))
			l[i] = 0
			if got := Mul(l[0], l[1:]...); got != 0 {
				t.Errorf("%d %d: %#x", n, i, got)
			}
		}
	}
}

// P6.1 and P1: millions of bytes.
func TestMulOfLarge(t *testing.T) {
	l := make([]byte, 1<<22)
	want := byte(1)
	for i := range l {
		l[i] = byte(i%255 + 1)
		want = defined(want, l[i])
	}
	if got := Mul(1, l...); got != want {
		t.Errorf("%#x", got)
	}
}

// P6.1: powers of all bytes, with the numbers around 0 and their negatives.
func TestPower(t *testing.T) {
	for a := range 256 {
		up, down, other := byte(1), byte(1), definedInverse(byte(a))
		for n := range 600 {
			if got := Power(byte(a), n); got != up {
				t.Fatalf("%#x %d: %#x", a, n, got)
			}
			if got := Power(byte(a), -n); got != down {
				t.Fatalf("%#x %d: %#x", a, -n, got)
			}
			up, down = defined(up, byte(a)), defined(down, other)
		}
	}
}

// P6.1: the powers of 0, whose inverse is 0.
func TestPowerOfZero(t *testing.T) {
	if got := Power(0, 0); got != 1 {
		t.Errorf("0: %#x", got)
	}
	for _, n := range []int{1, 2, 254, 255, 256, 510, 1 << 20} {
		if up, down := Power(0, n), Power(0, -n); up != 0 || down != 0 {
			t.Errorf("%d: %#x %#x", n, up, down)
		}
	}
}

// P6.1: powers up to the greatest and down to the least number.
func TestPowerOfGreatNumbers(t *testing.T) {
	const most = 1 << 20
	for _, a := range []byte{0, 1, 2, 3, 0x53, 0x80, 0xff} {
		up, down, other := byte(1), byte(1), definedInverse(a)
		for n := range most + 1 {
			if n > most-600 || n%1009 == 0 {
				if Power(a, n) != up || Power(a, -n) != down {
					t.Fatalf("%#x %d: %#x %#x", a, n, Power(a, n), Power(a, -n))
				}
			}
			up, down = Mul(up, a), Mul(down, other)
		}
	}
}

// P1: no number makes Power panic, also those of which nothing more is promised.
func TestAnyNumber(t *testing.T) {
	for a := range 256 {
		for _, n := range []int{math.MinInt, math.MinInt + 1, math.MinInt32, -1<<20 - 1, 1<<20 + 1, math.MaxInt32, 1 << 32, math.MaxInt - 1, math.MaxInt} {
			Power(byte(a), n)
		}
	}
}

// P6.2: the inverses of all bytes.
func TestInverse(t *testing.T) {
	for a := range 256 {
		got := Inverse(byte(a))
		if got != definedInverse(byte(a)) {
			t.Errorf("%#x: %#x", a, got)
		}
		if Inverse(got) != byte(a) || a > 0 && Mul(byte(a), got) != 1 {
			t.Errorf("%#x: %#x does not invert it", a, got)
		}
	}
	if Inverse(0) != 0 || Inverse(1) != 1 || Inverse(0x53) != 0xca {
		t.Error("inverses of the chapter")
	}
}

// P6.2, P6.4 and P5: the substitutions of all bytes are those of the standard and of the definition, and Unsub undoes them.
func TestSub(t *testing.T) {
	want, err := hex.DecodeString(strings.Join(strings.Fields(standardSub), ""))
	if err != nil || len(want) != 256 {
		t.Fatal(len(want), err)
	}
	for a, s := range want {
		if got := Sub(byte(a)); got != s || got != substitution(byte(a)) {
			t.Errorf("%#x: %#x", a, got)
		}
		if got := Unsub(s); got != byte(a) {
			t.Errorf("%#x: %#x", s, got)
		}
		if Unsub(Sub(byte(a))) != byte(a) || Sub(Unsub(byte(a))) != byte(a) {
			t.Errorf("%#x: not inverted", a)
		}
	}
}

// P6.1: the tables hold the products of bytes 3, and their numbers, from the first Inverse on.
func TestTables(t *testing.T) {
	made, powers, logs = sync.Once{}, [order]byte{}, [256]byte{}
	Inverse(1)
	want := byte(1)
	for k, p := range powers {
		if p != want || int(logs[p]) != k {
			t.Errorf("%d: %#x %d", k, p, logs[p])
		}
		want = defined(want, 3)
	}
}

// P6.1 to P6.4: functions compute all results, so that these are right whatever the tables hold.
func TestResultsWithoutTables(t *testing.T) {
	defer func() { made = sync.Once{} }()
	made.Do(func() {})
	random := rand.New(rand.NewSource(1))
	for i := range 20 {
		powers, logs = [order]byte{}, [256]byte{}
		if i > 0 {
			random.Read(powers[:])
			random.Read(logs[:])
		}
		for a := range 256 {
			a, b := byte(a), byte(random.Intn(256))
			if Inverse(a) != definedInverse(a) || Power(a, -1) != definedInverse(a) || Power(a, 2) != defined(a, a) {
				t.Fatalf("%#x: %#x %#x %#x", a, Inverse(a), Power(a, -1), Power(a, 2))
			}
			if Sub(a) != substitution(a) || Unsub(Sub(a)) != a {
				t.Fatalf("%#x: %#x %#x", a, Sub(a), Unsub(Sub(a)))
			}
			if Mul(a, b) != defined(a, b) || Dot([4]byte{a, b}, [4]byte{b, a}) != 0 {
				t.Fatalf("%#x %#x: %#x", a, b, Mul(a, b))
			}
		}
	}
}

// P6.3: the products of single elements, wherever they are.
func TestDotOfSingles(t *testing.T) {
	for i := range 4 {
		for j := range 4 {
			var a, b [4]byte
			a[i], b[j] = 0x57, 0x83
			want := byte(0)
			if i == j {
				want = 0xc1
			}
			if got := Dot(a, b); got != want {
				t.Errorf("%d %d: %#x", i, j, got)
			}
		}
	}
	if got := Dot([4]byte{}, [4]byte{}); got != 0 {
		t.Errorf("%#x", got)
	}
}

// P6.3 and P5: the columns that the standard's mixing is known to give.
func TestDotOfStandard(t *testing.T) {
	for _, x := range []struct{ a, want [4]byte }{
		{[4]byte{0xdb, 0x13, 0x53, 0x45}, [4]byte{0x8e, 0x4d, 0xa1, 0xbc}},
		{[4]byte{0xf2, 0x0a, 0x22, 0x5c}, [4]byte{0x9f, 0xdc, 0x58, 0x9d}},
		{[4]byte{0x01, 0x01, 0x01, 0x01}, [4]byte{0x01, 0x01, 0x01, 0x01}},
		{[4]byte{0xd4, 0xbf, 0x5d, 0x30}, [4]byte{0x04, 0x66, 0x81, 0xe5}},
	} {
		for i, row := range [4][4]byte{{2, 3, 1, 1}, {1, 2, 3, 1}, {1, 1, 2, 3}, {3, 1, 1, 2}} {
			if got := Dot(row, x.a); got != x.want[i] || Dot(x.a, row) != x.want[i] {
				t.Errorf("%#x %d: %#x", x.a, i, got)
			}
		}
	}
}

// P6.3 and P6.4: the sums of products by the definition, in both orders.
func TestDot(t *testing.T) {
	random := rand.New(rand.NewSource(1))
	for range 20_000 {
		var a, b [4]byte
		random.Read(a[:])
		random.Read(b[:])
		a[random.Intn(4)] = 0
		want := defined(a[0], b[0]) ^ defined(a[1], b[1]) ^ defined(a[2], b[2]) ^ defined(a[3], b[3])
		if got := Dot(a, b); got != want || Dot(b, a) != want {
			t.Fatalf("%#x %#x: %#x", a, b, got)
		}
	}
}

// Rule 5: the bytes and their unused capacity stay as they are.
func TestArgumentsStay(t *testing.T) {
	room := []byte{1, 2, 3, 4, 5}
	Mul(9, room[:3]...)
	if string(room) != "\x01\x02\x03\x04\x05" {
		t.Error(room)
	}
}

// Rules 7 and 8: whichever function is called first, and however many are at the same time, all of them have their results.
func TestFirstAtTheSameTime(t *testing.T) {
	calls := []func() bool{
		func() bool { return Mul(0x57, 0x83) == 0xc1 },
		func() bool { return Power(2, 8) == 0x1b },
		func() bool { return Power(3, -1) == 0xf6 },
		func() bool { return Inverse(0x53) == 0xca },
		func() bool { return Sub(0x53) == 0xed },
		func() bool { return Unsub(0xed) == 0x53 },
		func() bool { return Dot([4]byte{2, 3, 1, 1}, [4]byte{0xdb, 0x13, 0x53, 0x45}) == 0x8e },
	}
	for first := range calls {
		made, powers, logs = sync.Once{}, [order]byte{}, [256]byte{}
		var group sync.WaitGroup
		for i := range 10 * len(calls) {
			group.Go(func() {
				if !calls[(first+i)%len(calls)]() {
					t.Error(first, i)
				}
			})
		}
		group.Wait()
		for i, call := range calls {
			if !call() {
				t.Error(first, i, "afterwards")
			}
		}
	}
	for first, call := range calls {
		made, powers, logs = sync.Once{}, [order]byte{}, [256]byte{}
		if !call() {
			t.Error(first, "alone")
		}
	}
}
