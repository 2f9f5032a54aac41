package fault

import (
	"errors"
	"fmt"
	"math"
	"slices"
	"strings"
	"testing"

	"toll/api"
)

// wantNames are the names of the codes from 0 to 16, in order.
var wantNames = strings.Fields("NONE MALFORMED BAD_INTEGRITY TKT_NYV TKT_EXPIRED BADMATCH SKEW QUARANTINE REPEAT STORAGE ACCEPT FAILED DOWN FULL CORRUPT BAD SYNTAX")

// someCodes are all codes with a name, and numbers beside them.
func someCodes() []api.Code {
	l := []api.Code{math.MinInt, math.MinInt32, -256, -16, -1, 32, 256, 256 + 1, math.MaxInt32, math.MaxInt}
	for c := range api.Code(20) {
		l = append(l, c)
	}
	return l
}

// plain is an error without an Unwrap.
type plain string

func (p plain) Error() string { return string(p) }

// over is an error around another one, which may be nil.
type over struct{ err error }

func (o over) Error() string { return "over" }
func (o over) Unwrap() error { return o.err }

// liar is an error whose method As gives out a code and a fault that are not in its chain.
type liar struct{ err error }

func (l liar) Error() string { return "liar" }
func (l liar) Unwrap() error { return l.err }
func (l liar) As(target any) bool {
	switch t := target.(type) {
	case *api.Code:
		*t = api.Syntax
	case *api.Fault:
		*t = api.Fault{Code: api.Syntax, At: 99}
	case *error:
		*t = api.Syntax
	default:
		return false
	}
	return true
}

// many is an error that can't be compared.
type many []error

func (m many) Error() string { return "many" }

// trap is an error whose Unwrap panics.
type trap struct{}

func (trap) Error() string { return "trap" }
func (trap) Unwrap() error { panic("trap") }

// coded looks like a code, but is none.
type coded struct{ api.Code }

// P2.1: New returns the fault itself.
func TestNew(t *testing.T) {
	for _, c := range someCodes() {
		for _, at := range []int{math.MinInt, -1, 0, 1, 7, math.MaxInt} {
			err := New(c, at)
			if f, ok := err.(api.Fault); !ok || f.Code != c || f.At != at {
				t.Error(c, at, err)
			}
			if err.Error() != c.Error() || !errors.Is(err, c) {
				t.Error(c, at, err)
			}
		}
	}
}

// P2.1: the text and the Unwrap of what In returns.
func TestIn(t *testing.T) {
	x := errors.New("x")
	for i, c := range []struct {
		part string
		err  error
		want string
	}{
		{"disk", New(api.Full, 7), "disk: error 13"},
		{"disk", api.Full, "disk: error 13"},
		{"a", x, "a: x"},
		{"", x, ": x"},
		{"a: b ", x, "a: b : x"},
		{"a%d\n\xff", x, "a%d\n\xff: x"},
		{"a", plain(""), "a: "},
		{"", plain(""), ": "},
		{"a", In("b", In("", api.Down)), "a: b: : error 12"},
		{"a", over{nil}, "a: over"},
	} {
		w := In(c.part, c.err)
		if w == nil || w.Error() != c.want {
			t.Errorf("%d %q", i, w)
			continue
		}
		if errors.Unwrap(w) != c.err {
			t.Error(i, errors.Unwrap(w))
		}
	}
}

// P2.1: In of nil is nil, whatever the part is.
func TestInNil(t *testing.T) {
	for _, part := range []string{"", "a"} {
		if err := In(part, nil); err != nil {
			t.Error(part, err)
		}
		if err := In(part, In(part, nil)); err != nil {
			t.Error(part, err)
		}
	}
	var none *api.Fault // an error that is not nil, but has no value
	if w := In("a", none); w == nil || errors.Unwrap(w) != error(none) {
		t.Error(w)
	}
}

// P2.1: errors that can't be compared are wrapped like others.
func TestInIncomparable(t *testing.T) {
	w := In("a", many{api.Full})
	if m, ok := errors.Unwrap(w).(many); !ok || len(m) != 1 || w.Error() != "a: many" {
		t.Error(w)
	}
	if errors.Is(w, api.Full) || !errors.Is(w, w) || errors.Is(w, In("a", many{api.Full})) || Code(w) != 0 {
		t.Error(w)
	}
}

// P2.2: the code and the place of errors of all shapes.
func TestCodeAndPlace(t *testing.T) {
	full := api.Full
	for i, c := range []struct {
		err  error
		code api.Code
		at   int
		ok   bool
	}{
		{nil, 0, 0, false},
		{errors.New("x"), 0, 0, false},
		{plain("error 13"), 0, 0, false},
		{In("a", errors.New("x")), 0, 0, false},
		{api.None, 0, 0, false},
		{api.Full, api.Full, 0, false},
		{In("a", api.Full), api.Full, 0, false},
		{api.Code(-5), -5, 0, false},
		{api.Code(math.MaxInt), math.MaxInt, 0, false},
		{New(api.Full, 7), api.Full, 7, true},
		{New(api.Full, 0), api.Full, 0, true},
		{New(api.None, -3), 0, -3, true},
		{New(17, math.MinInt), 17, math.MinInt, true},
		{In("a", New(api.Bad, math.MaxInt)), api.Bad, math.MaxInt, true},
		{In("a", In("b", In("c", New(api.Corrupt, 1)))), api.Corrupt, 1, true},
		{over{New(api.Repeat, 2)}, api.Repeat, 2, true},
		{over{In("a", over{api.Repeat})}, api.Repeat, 0, false},
		{fmt.Errorf("x: %w", New(api.Skew, 5)), api.Skew, 5, true},
		{fmt.Errorf("x: %v", New(api.Skew, 5)), 0, 0, false},
		{over{nil}, 0, 0, false},
		{over{over{nil}}, 0, 0, false},
		{many{api.Full}, 0, 0, false},
		{over{many{api.Full}}, 0, 0, false},
		{&full, 0, 0, false},                              // a pointer to a code is no code
		{coded{api.Full}, 0, 0, false},                    // nor is what has the methods of one
		{&api.Fault{Code: api.Full, At: 7}, 13, 0, false}, // a pointer to a fault has its Unwrap
		{In("a", &api.Fault{Code: 13, At: 7}), 13, 0, false},
	} {
		if got := Code(c.err); got != c.code {
			t.Error(i, "code", got)
		}
		if at, ok := Place(c.err); at != c.at || ok != c.ok {
			t.Error(i, "place", at, ok)
		}
	}
}

// P2.2: all codes and places, wrapped and not.
func TestCodeAndPlaceOfAll(t *testing.T) {
	for _, c := range someCodes() {
		for _, at := range []int{math.MinInt, -1, 0, 1, math.MaxInt} {
			for _, err := range []error{New(c, at), In("a", New(c, at)), over{In("", New(c, at))}} {
				if got, ok := Place(err); Code(err) != c || got != at || !ok {
					t.Error(c, at, Code(err), got, ok)
				}
			}
		}
		if got, ok := Place(In("a", c)); Code(In("a", c)) != c || got != 0 || ok {
			t.Error(c, got, ok)
		}
	}
}

// P2.2: a chain goes by single Unwraps only: not by several errors, and not by a method As.
func TestChainOnly(t *testing.T) {
	for i, c := range []struct {
		err  error
		code api.Code
		at   int
		ok   bool
	}{
		{liar{nil}, 0, 0, false},
		{liar{errors.New("x")}, 0, 0, false},
		{liar{api.Full}, api.Full, 0, false},
		{liar{New(api.Full, 7)}, api.Full, 7, true},
		{In("a", liar{In("b", New(api.Full, 7))}), api.Full, 7, true},
		{errors.Join(New(api.Full, 7)), 0, 0, false},
		{In("a", errors.Join(api.Full, api.Bad)), 0, 0, false},
		{fmt.Errorf("%w %w", New(api.Full, 7), api.Bad), 0, 0, false},
	} {
		if got := Code(c.err); got != c.code {
			t.Error(i, "code", got)
		}
		if at, ok := Place(c.err); at != c.at || ok != c.ok {
			t.Error(i, "place", at, ok)
		}
	}
}

// P2.2: a chain of 1000 errors.
func TestLongChain(t *testing.T) {
	err := New(api.Storage, 3)
	code := error(api.Storage)
	for range 998 {
		err, code = In("a", err), In("a", over{code})
	}
	if at, ok := Place(err); Code(err) != api.Storage || at != 3 || !ok {
		t.Error(Code(err), at, ok)
	}
	if at, ok := Place(code); Code(code) != api.Storage || at != 0 || ok {
		t.Error(Code(code), at, ok)
	}
	if want := strings.Repeat("a: ", 998) + "error 9"; err.Error() != want {
		t.Error(err)
	}
}

// P1: errors whose methods panic don't make the functions panic.
func TestPanicsInside(t *testing.T) {
	var none *api.Fault
	var noCode *api.Code
	for i, err := range []error{none, noCode, trap{}, In("a", none), In("a", In("b", trap{})), over{trap{}}} {
		if at, ok := Place(err); Code(err) != 0 || at != 0 || ok {
			t.Error(i, Code(err), at, ok)
		}
		if In("a", err) == nil {
			t.Error(i, "nil")
		}
	}
}

// P2.3: the names of all codes, and nothing for other numbers.
func TestName(t *testing.T) {
	if len(wantNames) != int(api.Syntax)+1 {
		t.Fatal(len(wantNames))
	}
	for i, want := range wantNames {
		if got := Name(api.Code(i)); got != want {
			t.Error(i, got)
		}
	}
	for _, c := range someCodes() {
		if c < 0 || int(c) >= len(wantNames) {
			if got := Name(c); got != "" {
				t.Error(c, got)
			}
		}
	}
}

// P2.3: the names of codes by their constants.
func TestNameOfConstants(t *testing.T) {
	for c, want := range map[api.Code]string{
		api.None: "NONE", api.Malformed: "MALFORMED", api.BadIntegrity: "BAD_INTEGRITY", api.NotYet: "TKT_NYV", api.Expired: "TKT_EXPIRED", api.BadMatch: "BADMATCH",
		api.Skew: "SKEW", api.Quarantine: "QUARANTINE", api.Repeat: "REPEAT", api.Storage: "STORAGE", api.Accept: "ACCEPT", api.Failed: "FAILED",
		api.Down: "DOWN", api.Full: "FULL", api.Corrupt: "CORRUPT", api.Bad: "BAD", api.Syntax: "SYNTAX",
	} {
		if got := Name(c); got != want {
			t.Error(int(c), got)
		}
	}
}

// P2.3: every name is that of its code, and nothing near it is a name.
func TestParse(t *testing.T) {
	for i, name := range wantNames {
		if c, ok := Parse(name); c != api.Code(i) || !ok {
			t.Error(name, c, ok)
		}
		for _, s := range []string{strings.ToLower(name), name + " ", " " + name, name + "\x00", name[1:], name[:len(name)-1], name + name, strings.ToTitle(name[:1]) + strings.ToLower(name[1:])} {
			if c, ok := Parse(s); c != 0 || ok {
				t.Errorf("%q %d %v", s, c, ok)
			}
		}
	}
	for _, s := range []string{"", " ", "X", "0", "1", "error 1", "NOT_YET", "NOTYET", "EXPIRED", "BADINTEGRITY", "BAD_MATCH", "\xff", strings.Repeat("A", 1000)} {
		if c, ok := Parse(s); c != 0 || ok {
			t.Errorf("%q %d %v", s, c, ok)
		}
	}
}

// P2.3: Parse gives back what Name has named.
func TestParseOfName(t *testing.T) {
	for _, c := range someCodes() {
		name := Name(c)
		got, ok := Parse(name)
		if ok != (name != "") || ok && got != c || !ok && got != 0 {
			t.Error(c, name, got, ok)
		}
	}
}

// P2.4: the least answer of lists that are written out.
func TestFirst(t *testing.T) {
	for i, x := range []struct {
		l    []api.Code
		want api.Code
	}{
		{nil, api.Accept},
		{[]api.Code{}, api.Accept},
		{[]api.Code{api.None}, api.Accept},
		{[]api.Code{api.Repeat, api.Skew}, api.Skew},
		{[]api.Code{api.Skew, api.Repeat}, api.Skew},
		{[]api.Code{api.Accept}, api.Accept},
		{[]api.Code{api.Accept, api.Storage, api.Accept}, api.Storage},
		{[]api.Code{api.Failed, api.Down, api.Full, api.Corrupt, api.Bad, api.Syntax}, api.Accept},
		{[]api.Code{-1, 0, 11, math.MinInt, math.MaxInt}, api.Accept},
		{[]api.Code{-1, 0, 11, api.Malformed, math.MinInt, math.MaxInt}, api.Malformed},
		{[]api.Code{api.Full, api.Storage, api.None}, api.Storage},
		{[]api.Code{api.Expired, api.NotYet, api.Expired}, api.NotYet},
	} {
		given := slices.Clone(x.l)
		if got := First(x.l...); got != x.want || !slices.Equal(x.l, given) {
			t.Error(i, got, x.l)
		}
	}
}

// P2.4: the least answer of all lists of up to three codes.
func TestFirstOfAll(t *testing.T) {
	all := someCodes()
	least := func(l ...api.Code) api.Code {
		for _, c := range []api.Code{1, 2, 3, 4, 5, 6, 7, 8, 9} {
			if slices.Contains(l, c) {
				return c
			}
		}
		return 10
	}
	for _, a := range all {
		if got := First(a); got != least(a) {
			t.Error(a, got)
		}
		for _, b := range all {
			if got := First(a, b); got != least(a, b) {
				t.Error(a, b, got)
			}
			for _, c := range all {
				if got := First(a, b, c); got != least(a, b, c) {
					t.Error(a, b, c, got)
				}
			}
		}
	}
}

// P2.5: errors.Is finds in a wrapped error what it finds in what was wrapped, and no more.
func TestIsInWrapped(t *testing.T) {
	x := errors.New("x")
	for i, err := range []error{api.Full, api.None, New(api.Bad, 7), New(20, 1), x, plain("x"), over{api.Skew}, over{nil}, liar{api.Full}, errors.Join(api.Full, api.Bad), &api.Fault{Code: api.Down}} {
		once := In("a", err)
		for j, w := range []error{once, In("", once), In("b", over{once})} {
			for _, c := range someCodes() {
				if errors.Is(w, c) != errors.Is(err, c) {
					t.Error(i, j, c)
				}
			}
			if errors.Is(w, x) != errors.Is(err, x) || !errors.Is(w, err) || !errors.Is(w, once) {
				t.Error(i, j, "another error")
			}
		}
	}
	if w := In("a", New(api.Corrupt, 7)); !errors.Is(w, api.Corrupt) || errors.Is(w, api.Full) || !errors.Is(w, New(api.Corrupt, 7)) || errors.Is(w, New(api.Corrupt, 8)) {
		t.Error(w)
	}
}

// P2.5: errors.As of the library finds the code and the fault in a wrapped error.
func TestAsInWrapped(t *testing.T) {
	var c api.Code
	var f api.Fault
	w := In("a", In("b", New(api.Corrupt, 7)))
	if !errors.As(w, &c) || c != api.Corrupt || !errors.As(w, &f) || f != (api.Fault{Code: api.Corrupt, At: 7}) {
		t.Error(c, f)
	}
}
