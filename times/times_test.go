package times

import (
	"math"
	"math/big"
	"slices"
	"testing"
)

const (
	most  = int64(math.MaxInt64)
	least = int64(math.MinInt64)
)

// someTimes are times near the ends, near 0, and near the powers of 2 between them.
func someTimes() []int64 {
	l := []int64{least, least + 1, least + 2, -10, -2, -1, 0, 1, 2, 10, most - 2, most - 1, most}
	for _, k := range []int{8, 31, 32, 40, 61, 62} {
		x := int64(1) << k
		l = append(l, x-1, x, x+1, -x-1, -x, -x+1)
	}
	return l
}

// nearest returns the time that is nearest to an exact number.
func nearest(x *big.Int) int64 {
	switch {
	case x.IsInt64():
		return x.Int64()
	case x.Sign() > 0:
		return most
	}
	return least
}

// wantSum and wantDiff are the sum and the difference by their definition.
func wantSum(a, b int64) int64  { return nearest(new(big.Int).Add(big.NewInt(a), big.NewInt(b))) }
func wantDiff(a, b int64) int64 { return nearest(new(big.Int).Sub(big.NewInt(a), big.NewInt(b))) }

// P3.1 and P3.2: sums and differences that were worked out by hand.
func TestSumsByHand(t *testing.T) {
	for i, x := range []struct{ a, b, sum, diff, apart int64 }{
		{0, 0, 0, 0, 0},
		{1, 2, 3, -1, 1},
		{-5, 5, 0, -10, 10},
		{-5, -7, -12, 2, 2},
		{most, 5, most, most - 5, most - 5},
		{most, 0, most, most, most},
		{most - 1, 1, most, most - 2, most - 2},
		{most - 1, 2, most, most - 3, most - 3},
		{most, -1, most - 1, most, most},
		{most, most, most, 0, 0},
		{least, 0, least, least, most},
		{least, -1, least, least + 1, most},
		{least, 1, least + 1, least, most},
		{least + 1, -1, least, least + 2, most - 1},
		{least + 1, -2, least, least + 3, most - 2},
		{least + 1, 1, least + 2, least, most},
		{least, least, least, 0, 0},
		{least, most, -1, least, most},
		{most, least, -1, most, most},
		{0, least, least, most, most},
		{-1, least, least, most, most},
		{-1, most, most - 1, least, most},
		{-2, most, most - 2, least, most},
		{0, most, most, least + 1, most},
		{1 << 62, 1 << 62, most, 0, 0},
		{-1 << 62, -1 << 62, least, 0, 0},
		{-1 << 62, 1 << 62, 0, least, most},
	} {
		if got := Add(x.a, x.b); got != x.sum {
			t.Error(i, "sum", got)
		}
		if got := Sub(x.a, x.b); got != x.diff {
			t.Error(i, "difference", got)
		}
		if got, back := Apart(x.a, x.b), Apart(x.b, x.a); got != x.apart || back != x.apart {
			t.Error(i, "apart", got, back)
		}
	}
}

// P3.1 and P3.2: sums and differences of all pairs agree with those of exact numbers.
func TestSumsOfPairs(t *testing.T) {
	for _, a := range someTimes() {
		for _, b := range someTimes() {
			if got, want := Add(a, b), wantSum(a, b); got != want {
				t.Error("sum", a, b, got, want)
			}
			if got, want := Sub(a, b), wantDiff(a, b); got != want {
				t.Error("difference", a, b, got, want)
			}
			if got, want := Apart(a, b), wantDiff(max(a, b), min(a, b)); got != want {
				t.Error("apart", a, b, got, want)
			}
		}
	}
}

// P3.1: a list is added number by number, and every sum on the way saturates.
func TestAddLists(t *testing.T) {
	for i, x := range []struct {
		a    int64
		l    []int64
		want int64
	}{
		{7, nil, 7},
		{least, nil, least},
		{most, []int64{}, most},
		{1, []int64{2, 3, 4}, 10},
		{1, []int64{-2, 3, -4, 0}, -2},
		{most, []int64{1, -1}, most - 1},
		{most, []int64{-1, 1}, most},
		{0, []int64{most, most, -1, 1, 1}, most},
		{0, []int64{most, most, least}, -1},
		{0, []int64{most, least, most}, most - 1},
		{least, []int64{-1, 1}, least + 1},
		{-1, []int64{least, 5, -3}, least + 2},
	} {
		if got := Add(x.a, x.l...); got != x.want {
			t.Error(i, got)
		}
	}
	for _, a := range someTimes() {
		for _, b := range someTimes() {
			for _, c := range someTimes() {
				if got, want := Add(a, b, c), wantSum(wantSum(a, b), c); got != want {
					t.Fatal(a, b, c, got, want)
				}
			}
		}
	}
}

// P3.1 and P3.4: lists are left as they are, also beyond their length.
func TestListsStay(t *testing.T) {
	room := []int64{3, most, -1, 9, 8}
	if Add(1, room[:3]...) != most-1 || Most(room[:3]...) != most {
		t.Error("wrong result")
	}
	if !slices.Equal(room, []int64{3, most, -1, 9, 8}) {
		t.Error(room)
	}
}

// P3.3: the ends of a window saturate.
func TestWindow(t *testing.T) {
	for i, x := range []struct{ start, end, skew, from, to int64 }{
		{10, 20, 1, 9, 21},
		{10, 20, 0, 10, 20},
		{10, 10, 0, 10, 10},
		{20, 10, 5, 15, 15},
		{20, 10, 0, 20, 10},
		{-10, -5, 7, -17, 2},
		{0, 0, most, least + 1, most},
		{-1, 1, most, least, most},
		{-2, 2, most, least, most},
		{least, most, 7, least, most},
		{least, most, 0, least, most},
		{least + 3, most - 3, 2, least + 1, most - 1},
		{least + 3, most - 3, 3, least, most},
		{least + 3, most - 3, 4, least, most},
		{most, least, most, 0, -1},
	} {
		if from, to := Window(x.start, x.end, x.skew); from != x.from || to != x.to {
			t.Error(i, from, to)
		}
	}
}

// P3.3: the side of times at and beside the ends of windows; before comes first, if a window has no times.
func TestSide(t *testing.T) {
	for i, x := range []struct {
		t, start, end, skew int64
		want                int
	}{
		{least, 10, 20, 1, -1},
		{8, 10, 20, 1, -1},
		{9, 10, 20, 1, 0},
		{15, 10, 20, 1, 0},
		{21, 10, 20, 1, 0},
		{22, 10, 20, 1, 1},
		{most, 10, 20, 1, 1},
		{9, 10, 10, 0, -1},
		{10, 10, 10, 0, 0},
		{11, 10, 10, 0, 1},
		{14, 20, 10, 5, -1},
		{15, 20, 10, 5, 0},
		{16, 20, 10, 5, 1},
		{9, 20, 10, 0, -1},
		{15, 20, 10, 0, -1},
		{19, 20, 10, 0, -1},
		{20, 20, 10, 0, 1},
		{21, 20, 10, 0, 1},
		{least, 0, 0, most, -1},
		{least + 1, 0, 0, most, 0},
		{most, 0, 0, most, 0},
		{least, -1, -1, most, 0},
		{most, -1, -1, most, 1},
		{most - 1, -1, -1, most, 0},
		{least, least, 0, 5, 0},
		{most, 0, most, 5, 0},
		{most - 5, most, most, 4, -1},
		{least + 5, least, least, 4, 1},
	} {
		if got := Side(x.t, x.start, x.end, x.skew); got != x.want {
			t.Error(i, got)
		}
	}
}

// P3.3: windows and sides of all starts, ends and skews agree with their definitions.
func TestAllWindows(t *testing.T) {
	times := someTimes()
	for _, skew := range times {
		if skew < 0 {
			continue
		}
		for _, start := range times {
			for _, end := range times {
				from, to := Window(start, end, skew)
				if from != wantDiff(start, skew) || to != wantSum(end, skew) {
					t.Fatal(start, end, skew, from, to)
				}
				for _, x := range []int64{least, Sub(from, 1), from, Add(from, 1), 0, Sub(to, 1), to, Add(to, 1), most} {
					want := 0
					if x < from {
						want = -1
					} else if x > to {
						want = 1
					}
					if got := Side(x, start, end, skew); got != want {
						t.Fatal(x, start, end, skew, got)
					}
				}
			}
		}
	}
}

// P3.4: the greatest number, wherever it is in the list; the least of all, without numbers.
func TestMost(t *testing.T) {
	for i, x := range []struct {
		l    []int64
		want int64
	}{
		{nil, least},
		{[]int64{}, least},
		{[]int64{least}, least},
		{[]int64{least, least}, least},
		{[]int64{most}, most},
		{[]int64{0}, 0},
		{[]int64{-7}, -7},
		{[]int64{-3, -1, -2}, -1},
		{[]int64{3, -1, 7}, 7},
		{[]int64{7, 3, -1}, 7},
		{[]int64{3, 7, 7, -1}, 7},
		{[]int64{least, -1, most, 0}, most},
		{[]int64{most, least}, most},
	} {
		if got := Most(x.l...); got != x.want {
			t.Error(i, got)
		}
	}
	if got := Most(someTimes()...); got != most {
		t.Error(got)
	}
}

// P3.5: a sum with a number that is not negative is not less than the other number, and Apart is not negative.
func TestNotLess(t *testing.T) {
	for _, a := range someTimes() {
		for _, b := range someTimes() {
			if b >= 0 && (Add(a, b) < a || Add(b, a) < a) {
				t.Error("sum", a, b)
			}
			if Apart(a, b) < 0 {
				t.Error("apart", a, b)
			}
		}
	}
}

// P1: lists of many numbers.
func TestLongLists(t *testing.T) {
	l := make([]int64, 100_000)
	for i := range l {
		l[i] = int64(i) - 1
	}
	if got := Add(5, l...); got != 5+int64(len(l))*int64(len(l)-3)/2 {
		t.Error(got)
	}
	if got := Most(l...); got != int64(len(l))-2 {
		t.Error(got)
	}
}
