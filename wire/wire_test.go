package wire

import (
	"bytes"
	"math"
	"testing"
)

// badWidths are no numbers of bytes of a number.
var badWidths = []int{math.MinInt, -64, -8, -1, 0, 9, 10, 16, 64, 256 + 1, math.MaxInt}

// reads are reads of all kinds that succeed on eight zero bytes; each returns the number of bytes, or the number, that it read.
var reads = []func(r *Reader) int{
	func(r *Reader) int { return int(r.Number(1)) },
	func(r *Reader) int { return int(r.Number(8)) },
	func(r *Reader) int { return len(r.Take(0)) },
	func(r *Reader) int { return len(r.Take(3)) },
	func(r *Reader) int { return len(r.String(1)) },
	func(r *Reader) int { return len(r.String(8)) },
}

// mustFail checks that a read of what has failed, and that all further reads fail.
func mustFail(t *testing.T, what string, r *Reader, got int) {
	t.Helper()
	if got != 0 || !r.Bad() || r.Done() || r.Left() != 0 {
		t.Errorf("%s: read %d, Bad %v, Done %v, Left %d", what, got, r.Bad(), r.Done(), r.Left())
	}
	for i, read := range reads {
		if n := read(r); n != 0 || !r.Bad() || r.Done() || r.Left() != 0 {
			t.Errorf("%s: read %d after the failure: read %d, Bad %v, Done %v, Left %d", what, i, n, r.Bad(), r.Done(), r.Left())
		}
	}
}

// P1.1: a reader has a copy of its bytes.
func TestNewCopies(t *testing.T) {
	b := []byte{1, 2, 3}
	r := New(b)
	b[0], b[2] = 9, 9
	if got := r.Take(3); !bytes.Equal(got, []byte{1, 2, 3}) {
		t.Error(got)
	}
	if !bytes.Equal(b, []byte{9, 2, 9}) {
		t.Error("the argument was changed:", b)
	}
}

// P1.1: Left counts the bytes that were not read; Done is true at the end only.
func TestLeftBadDone(t *testing.T) {
	r := New([]byte{0, 5, 2, 8, 8, 1})
	for i, x := range []struct {
		read func()
		left int
	}{
		{func() {}, 6},
		{func() { r.Take(0) }, 6},
		{func() { r.Number(2) }, 4},
		{func() { r.String(1) }, 1},
		{func() { r.Take(1) }, 0},
		{func() { r.Take(0) }, 0},
	} {
		x.read()
		if r.Left() != x.left || r.Bad() || r.Done() != (x.left == 0) {
			t.Error(i, r.Left(), r.Bad(), r.Done())
		}
	}
	for _, b := range [][]byte{nil, {}} {
		if r := New(b); r.Left() != 0 || r.Bad() || !r.Done() {
			t.Error("a reader of no bytes is not done")
		}
	}
}

// P1.2: numbers of every width, with the highest byte first.
func TestReadNumber(t *testing.T) {
	b := []byte{0x81, 2, 3, 4, 5, 6, 7, 0xf8, 99}
	want := []uint64{0x81, 0x8102, 0x810203, 0x81020304, 0x8102030405, 0x810203040506, 0x81020304050607, 0x81020304050607f8}
	for i, x := range want {
		r := New(b)
		if got := r.Number(i + 1); got != x || r.Left() != 8-i || r.Bad() {
			t.Errorf("%d bytes: %#x, Left %d, Bad %v", i+1, got, r.Left(), r.Bad())
		}
	}
	if got := New(bytes.Repeat([]byte{255}, 8)).Number(8); got != math.MaxUint64 {
		t.Error(got)
	}
	r := New([]byte{0, 0, 1, 0})
	if a, b := r.Number(3), r.Number(1); a != 1 || b != 0 || !r.Done() {
		t.Error(a, b)
	}
}

// P1.2: Take reads the next bytes, and also none.
func TestTake(t *testing.T) {
	r := New([]byte{1, 2, 3, 4})
	for i, want := range [][]byte{{1}, {}, {2, 3}, {4}, {}} {
		if got := r.Take(len(want)); !bytes.Equal(got, want) || r.Bad() {
			t.Error(i, got, r.Bad())
		}
	}
	if !r.Done() {
		t.Error("not done")
	}
}

// P1.2: strings with lengths of every width, and empty ones.
func TestReadString(t *testing.T) {
	for k := 1; k <= 8; k++ {
		b := make([]byte, k)
		b[k-1] = 2
		r := New(append(b, 7, 8, 9))
		if got := r.String(k); !bytes.Equal(got, []byte{7, 8}) || r.Left() != 1 || r.Bad() {
			t.Error(k, got, r.Left(), r.Bad())
		}
		r = New(make([]byte, k))
		if got := r.String(k); len(got) != 0 || !r.Done() {
			t.Error(k, got, r.Bad())
		}
	}
	long := bytes.Repeat([]byte{6}, 0x0102)
	r := New(append([]byte{1, 2}, long...))
	if got := r.String(2); !bytes.Equal(got, long) || !r.Done() {
		t.Error(len(got), r.Bad())
	}
}

// P1.2: what was read is a copy: it has no memory in common with the reader.
func TestReadsAreCopies(t *testing.T) {
	r := New([]byte{1, 2, 1, 3, 1, 4, 5})
	for _, read := range []func() []byte{
		func() []byte { return r.Take(2) },
		func() []byte { return r.String(1) },
		func() []byte { return r.Take(0) },
	} {
		b := read()
		for i := range b {
			b[i] = 99
		}
		_ = append(b, 98, 97, 96, 95) // must not reach the bytes that are left
	}
	if got := r.Take(3); !bytes.Equal(got, []byte{1, 4, 5}) || !r.Done() {
		t.Error(got)
	}
}

// P1.2: a read fails for a wrong width, a negative number, or too few bytes.
func TestReadsFail(t *testing.T) {
	full := make([]byte, 300)
	for _, k := range badWidths {
		r := New(full)
		mustFail(t, "Number with a bad width", r, int(r.Number(k)))
		r = New(full)
		mustFail(t, "String with a bad width", r, len(r.String(k)))
	}
	for _, n := range []int{math.MinInt, math.MinInt32, -256, -1, 301, math.MaxInt32, math.MaxInt} {
		r := New(full)
		mustFail(t, "Take", r, len(r.Take(n)))
	}
	for k := 1; k <= 8; k++ {
		for size := range k {
			short := bytes.Repeat([]byte{1}, size)
			r := New(short)
			mustFail(t, "Number of too few bytes", r, int(r.Number(k)))
			r = New(short)
			mustFail(t, "String without a whole length", r, len(r.String(k)))
		}
	}
}

// P1.2: a string fails as a whole, if it has fewer bytes than its length says, however great the length is.
func TestStringTooShort(t *testing.T) {
	for i, x := range []struct {
		k int
		b []byte
	}{
		{1, []byte{1}},
		{1, []byte{3, 7, 7}},
		{1, []byte{255, 7}},
		{2, []byte{1, 0, 7}},
		{4, []byte{255, 255, 255, 255, 7}},
		{4, []byte{128, 0, 0, 0, 7}},
		{8, []byte{127, 255, 255, 255, 255, 255, 255, 255, 7}},
		{8, []byte{128, 0, 0, 0, 0, 0, 0, 1, 7}},
		{8, []byte{255, 255, 255, 255, 255, 255, 255, 255, 7}},
		{8, []byte{0, 0, 0, 1, 0, 0, 0, 1, 7}},
	} {
		r := New(x.b)
		got := len(r.String(x.k))
		if got != 0 {
			t.Error(i, got)
		}
		mustFail(t, "String that is too short", r, got)
	}
}

// P1.2: a read that fails after others takes what is left.
func TestFailsAfterReads(t *testing.T) {
	for i, fail := range []func(r *Reader) int{
		func(r *Reader) int { return int(r.Number(0)) },
		func(r *Reader) int { return len(r.Take(-1)) },
		func(r *Reader) int { return len(r.Take(9)) },
		func(r *Reader) int { return len(r.String(9)) },
	} {
		for j, read := range reads {
			r := New(make([]byte, 16))
			read(r)
			if r.Bad() {
				t.Fatal(i, j, "failed too early")
			}
			r.Take(r.Left() - 8)
			mustFail(t, "read after others", r, fail(r))
		}
	}
	r := New([]byte{1})
	r.Take(1)
	mustFail(t, "Number at the end", r, int(r.Number(1)))
}

// On a nil Reader, Bad returns true, and the other methods return zero values.
func TestNilReader(t *testing.T) {
	var r *Reader
	mustFail(t, "nil", r, 0)
	for _, k := range append(badWidths, 1, 2, 8) {
		if r.Number(k) != 0 || len(r.Take(k)) != 0 || len(r.String(k)) != 0 {
			t.Error(k)
		}
	}
}

// P1.3: numbers that fit, and the first ones that don't.
func TestNumber(t *testing.T) {
	for i, x := range []struct {
		k    int
		x    uint64
		want []byte
	}{
		{1, 0, []byte{0}},
		{1, 255, []byte{255}},
		{2, 258, []byte{1, 2}},
		{3, 258, []byte{0, 1, 2}},
		{5, 0x8102030405, []byte{0x81, 2, 3, 4, 5}},
		{8, 0x81020304050607f8, []byte{0x81, 2, 3, 4, 5, 6, 7, 0xf8}},
		{8, 0, make([]byte, 8)},
		{8, math.MaxUint64, bytes.Repeat([]byte{255}, 8)},
	} {
		if got, ok := Number(x.k, x.x); !ok || !bytes.Equal(got, x.want) {
			t.Error(i, got, ok)
		}
	}
	for k := 1; k <= 7; k++ {
		least := uint64(1) << (8 * k)
		if got, ok := Number(k, least-1); !ok || !bytes.Equal(got, bytes.Repeat([]byte{255}, k)) {
			t.Error(k, got, ok)
		}
		for _, x := range []uint64{least, least + 1, 1 << 63, math.MaxUint64} {
			if got, ok := Number(k, x); ok || len(got) != 0 {
				t.Error(k, x, got, ok)
			}
		}
	}
	for _, k := range badWidths {
		for _, x := range []uint64{0, 1, math.MaxUint64} {
			if got, ok := Number(k, x); ok || len(got) != 0 {
				t.Error(k, x, got, ok)
			}
		}
	}
}

// P1.3: strings whose length fits, and the first ones whose length doesn't.
func TestString(t *testing.T) {
	for i, x := range []struct {
		k    int
		b    []byte
		want []byte
	}{
		{1, []byte{7, 8}, []byte{2, 7, 8}},
		{1, nil, []byte{0}},
		{3, []byte{}, []byte{0, 0, 0}},
		{8, []byte{5}, []byte{0, 0, 0, 0, 0, 0, 0, 1, 5}},
	} {
		if got, ok := String(x.k, x.b); !ok || !bytes.Equal(got, x.want) {
			t.Error(i, got, ok)
		}
	}
	for k, most := range map[int]int{1: 1<<8 - 1, 2: 1<<16 - 1, 3: 1<<24 - 1} {
		b := bytes.Repeat([]byte{6}, most+1)
		want := append(bytes.Repeat([]byte{255}, k), b[:most]...)
		if got, ok := String(k, b[:most]); !ok || !bytes.Equal(got, want) {
			t.Error(k, len(got), ok)
		}
		if got, ok := String(k, b); ok || len(got) != 0 {
			t.Error(k, len(got), ok)
		}
		want = append([]byte{1}, append(make([]byte, k), b...)...)
		if got, ok := String(k+1, b); !ok || !bytes.Equal(got, want) {
			t.Error(k, len(got), ok)
		}
	}
	for _, k := range badWidths {
		for _, b := range [][]byte{nil, {1}} {
			if got, ok := String(k, b); ok || len(got) != 0 {
				t.Error(k, got, ok)
			}
		}
	}
}

// P1.4: the bytes of all parts in order.
func TestJoin(t *testing.T) {
	for i, x := range []struct {
		parts [][]byte
		want  []byte
	}{
		{nil, nil},
		{[][]byte{nil}, nil},
		{[][]byte{{}, nil, {}}, nil},
		{[][]byte{{1, 2}}, []byte{1, 2}},
		{[][]byte{{3}, nil, {1, 2}, {}, {0}}, []byte{3, 1, 2, 0}},
	} {
		if got := Join(x.parts...); !bytes.Equal(got, x.want) {
			t.Error(i, got)
		}
	}
}

// P1.3 and P1.4, rule 5: arguments and their unused capacity stay as they are, and results share no memory with them.
func TestResultsAreCopies(t *testing.T) {
	room := []byte{1, 2, 3, 4}
	for i, call := range []func(b []byte) []byte{
		func(b []byte) []byte { return Join(b) },
		func(b []byte) []byte { return Join(b, nil) },
		func(b []byte) []byte { return Join(b, []byte{7}) },
		func(b []byte) []byte { return Join(nil, b, b) },
		func(b []byte) []byte { s, _ := String(1, b); return s },
		func(b []byte) []byte { return New(b).Take(len(b)) },
	} {
		got := call(room[:2])
		if len(got) == 0 {
			t.Error(i, "nothing")
		}
		for j := range got {
			got[j] = 99
		}
		_ = append(got, 98)
		if !bytes.Equal(room, []byte{1, 2, 3, 4}) {
			t.Fatal(i, room)
		}
	}
	parts := [][]byte{{1}, {2}}
	Join(parts...)
	if len(parts) != 2 || !bytes.Equal(parts[0], []byte{1}) || !bytes.Equal(parts[1], []byte{2}) {
		t.Error(parts)
	}
}

// P1.5: a reader of joined numbers and strings gives them back.
func TestReadsBackWhatIsJoined(t *testing.T) {
	var parts [][]byte
	add := func(b []byte, ok bool) {
		if !ok {
			t.Fatal("does not fit")
		}
		parts = append(parts, b)
	}
	value := func(k int) uint64 { return 0xfedcba9876543210 >> (64 - 8*k) }
	text := func(k int) []byte { return bytes.Repeat([]byte{byte(k), 0, 255}, 11*(k-1)) }
	for k := 1; k <= 8; k++ {
		add(Number(k, value(k)))
		add(String(k, text(k-k/2)))
		add(Number(k, 0))
	}
	r := New(Join(parts...))
	for k := 1; k <= 8; k++ {
		if x := r.Number(k); x != value(k) {
			t.Errorf("%d: %#x", k, x)
		}
		if s := r.String(k); !bytes.Equal(s, text(k-k/2)) {
			t.Error(k, s)
		}
		if r.Done() {
			t.Error(k, "done too early")
		}
		if x := r.Number(k); x != 0 {
			t.Error(k, x)
		}
	}
	if !r.Done() || r.Bad() || r.Left() != 0 {
		t.Error(r.Done(), r.Bad(), r.Left())
	}
}

// P1: no sequence of two reads of short bytes panics, and each agrees with the definition of a failure.
func TestPairsOfReads(t *testing.T) {
	sizes := []int{math.MinInt, -1, 0, 1, 2, 3, 7, 8, 9, math.MaxInt}
	kinds := []func(r *Reader, n int){
		func(r *Reader, n int) { r.Number(n) },
		func(r *Reader, n int) { r.Take(n) },
		func(r *Reader, n int) { r.String(n) },
	}
	for size := range 10 {
		b := bytes.Repeat([]byte{0, 1}, size)
		for _, first := range kinds {
			for _, second := range kinds {
				for _, n := range sizes {
					for _, m := range sizes {
						r := New(b)
						first(r, n)
						bad, left := r.Bad(), r.Left()
						second(r, m)
						if bad && !r.Bad() || r.Left() > left || r.Bad() && r.Left() != 0 || r.Done() != (!r.Bad() && r.Left() == 0) {
							t.Fatal(b, n, m, r.Bad(), r.Left(), r.Done())
						}
					}
				}
			}
		}
	}
}
