package name

import (
	"bytes"
	"math/rand"
	"regexp"
	"slices"
	"strings"
	"sync"
	"testing"

	"toll/api"
	"toll/wire"
)

// of returns the name with a realm and parts.
func of(realm string, parts ...string) api.Name { return api.Name{Realm: realm, Parts: parts} }

// letters returns n bytes a.
func letters(n int) string { return strings.Repeat("a", n) }

// allBytes are the 94 bytes that words can have, in order.
func allBytes() string {
	var b []byte
	for c := byte(33); c <= 126; c++ {
		b = append(b, c)
	}
	return string(b)
}

// some returns n strings that look random, but are the same for the same n, of 1 to most bytes that words can have, many of them marks.
func some(n, most int) []string {
	random := rand.New(rand.NewSource(int64(n)))
	of := allBytes() + strings.Repeat(`/@\`, 15)
	l := make([]string, n)
	for i := range l {
		b := make([]byte, 1+random.Intn(most))
		for k := range b {
			b[k] = of[random.Intn(len(of))]
		}
		l[i] = string(b)
	}
	return l
}

// someNames are names of all numbers of parts, with short and long words of all bytes.
func someNames() []api.Name {
	all := allBytes()
	longest := strings.Repeat(`\`, 100)
	l := []api.Name{
		of("R", "host", "a/b"), of("a", "b"), of(`/`, `/`), of(`@`, `@`), of(`\`, `\`), of(`\\`, `\/`, `/\`), of("R", "a@b", "c"), of("R@S", "a"), of("R", "a", "b"), of("R", "a/b"), of("R", "b", "a"),
		of(all, all), of(letters(100), letters(100)), of("!", "~"), of("~", "!"), of(longest, longest, longest, longest, longest, longest, longest, longest, longest),
	}
	for k := range 300 {
		words := some(2+k%8, 100-99*(k%2))
		l = append(l, of(words[0], words[1:]...))
	}
	return l
}

// noNames are no names, with a description of each.
func noNames() map[string]api.Name {
	return map[string]api.Name{
		"nothing":       {},
		"no parts":      of("R"),
		"empty list":    {Realm: "R", Parts: []string{}},
		"no realm":      of("", "a"),
		"empty part":    of("R", ""),
		"empty first":   of("R", "", "a"),
		"empty last":    of("R", "a", ""),
		"nine parts":    of("R", "a", "b", "c", "d", "e", "f", "g", "h", "i"),
		"many parts":    of("R", slices.Repeat([]string{"a"}, 256+2)...),
		"long realm":    of(letters(101), "a"),
		"long part":     of("R", letters(101)),
		"long last":     of("R", "a", letters(101)),
		"256 more":      of("R", letters(256+5)),
		"space":         of("R", "a b"),
		"space in R":    of("R ", "a"),
		"delete":        of("R", "a\x7f"),
		"zero":          of("R", "\x00"),
		"two-byte rune": of("R", "ä"),
		"realm of rune": of("Ä", "a"),
		"no UTF-8":      of("R", "a\xff"),
		"half a rune":   of("R\xc3", "a"),
		"too long 'a'":  of("R", "\xc1\xa1"), // a in two bytes, which UTF-8 forbids
		"wide":          of("R", "ａ"),
		"replacement":   of("R", "\ufffd"),
	}
}

// definedText returns the text of a name by the definition.
func definedText(n api.Name) string {
	r := strings.NewReplacer(`\`, `\\`, `/`, `\/`, `@`, `\@`)
	parts := slices.Clone(n.Parts)
	for i := range parts {
		parts[i] = r.Replace(parts[i])
	}
	return strings.Join(parts, "/") + "@" + r.Replace(n.Realm)
}

// definedBytes returns the bytes of a name by the definition.
func definedBytes(n api.Name) []byte {
	b := append([]byte{byte(len(n.Realm))}, n.Realm...)
	b = append(b, byte(len(n.Parts)))
	for _, p := range n.Parts {
		b = append(append(b, byte(len(p))), p...)
	}
	return b
}

// equal reports whether two names are equal, without Same.
func equal(a, b api.Name) bool {
	if a.Realm != b.Realm || len(a.Parts) != len(b.Parts) {
		return false
	}
	for i := range a.Parts {
		if a.Parts[i] != b.Parts[i] {
			return false
		}
	}
	return true
}

// acceptText checks that a text is that of a name.
func acceptText(t testing.TB, s string, want api.Name) {
	t.Helper()
	if n, ok := Parse(s); !ok || !equal(n, want) {
		t.Errorf("%q: %q %v, not %q", s, n, ok, want)
	}
}

// refuseText checks that a string is no text of a name.
func refuseText(t testing.TB, s string) {
	t.Helper()
	if n, ok := Parse(s); ok || n.Realm != "" || len(n.Parts) != 0 {
		t.Errorf("%.99q is a text: %q %v", s, n, ok)
	}
}

// acceptBytes checks that a reader of b and more bytes reads a name, and only that.
func acceptBytes(t testing.TB, b []byte, want api.Name) {
	t.Helper()
	for _, more := range []string{"", "\x00", "\x01R", "more bytes"} {
		r := wire.New(append(bytes.Clone(b), more...))
		n, ok := Read(r)
		if !ok || !equal(n, want) || r.Bad() || string(r.Take(len(more))) != more || !r.Done() {
			t.Errorf("%q and %q: %q %v", b, more, n, ok)
		}
	}
}

// refuseBytes checks that a reader of b reads no name.
func refuseBytes(t testing.TB, b []byte) {
	t.Helper()
	if n, ok := Read(wire.New(b)); ok || n.Realm != "" || len(n.Parts) != 0 {
		t.Errorf("%.99q are bytes of a name: %q %v", b, n, ok)
	}
}

// P11.1: names, and what is none.
func TestValid(t *testing.T) {
	for _, n := range someNames() {
		if !Valid(n) {
			t.Errorf("%q", n)
		}
	}
	for what, n := range noNames() {
		if Valid(n) {
			t.Errorf("%s: %q", what, n)
		}
	}
}

// P11.1: each byte at each place of a word, in the realm and in each part.
func TestValidBytes(t *testing.T) {
	for c := range 256 {
		want := 33 <= c && c <= 126
		for _, size := range []int{1, 2, 3, 100} {
			for _, i := range []int{0, 1, size / 2, size - 1} {
				w := []byte(letters(size))
				w[min(i, size-1)] = byte(c)
				for k, n := range []api.Name{of(string(w), "a"), of("R", string(w)), of("R", "a", string(w)), of("R", string(w), "a", "b"), of("R", "a", "b", "c", "d", "e", "f", "g", string(w))} {
					if Valid(n) != want {
						t.Errorf("%d in %d bytes at %d: name %d: %v", c, size, i, k, !want)
					}
				}
			}
		}
	}
}

// P11.1: runes of more than one byte are in no word, whatever their lowest byte is.
func TestValidRunes(t *testing.T) {
	for c := rune(127); c <= 0x10ffff; c += 1 + c/50 {
		for low := rune(33); low <= 126; low += 31 {
			if s := string(c&^0xff + 0x100 | low); Valid(of("R", s)) || Valid(of(s, "a")) || Valid(of("R", "a"+s+"b")) {
				t.Fatalf("%q", s)
			}
		}
		if s := string(c); Valid(of("R", s)) || Valid(of(s, "a")) {
			t.Fatalf("%q", s)
		}
	}
}

// P11.1: all numbers of bytes and of parts around the limits.
func TestValidSizes(t *testing.T) {
	for size := range 600 {
		want := 1 <= size && size <= 100
		for k, n := range []api.Name{of(letters(size), "a"), of("R", letters(size)), of("R", "a", letters(size))} {
			if Valid(n) != want {
				t.Errorf("%d bytes: name %d: %v", size, k, !want)
			}
		}
		parts := slices.Repeat([]string{letters(100)}, size)
		if Valid(of(letters(100), parts...)) != (1 <= size && size <= 8) {
			t.Errorf("%d parts", size)
		}
	}
	if Valid(of(letters(1<<24), "a")) || Valid(of("R", slices.Repeat([]string{"a"}, 1<<20)...)) {
		t.Error("many")
	}
}

// P11.1: names are the same only if the realms and all parts are, in their order.
func TestSame(t *testing.T) {
	names := someNames()
	for i, a := range names {
		for k, b := range names {
			if Same(a, b) != equal(a, b) || i == k && !Same(a, b) {
				t.Errorf("%q %q: %v", a, b, Same(a, b))
			}
		}
		other := of(a.Realm, slices.Clone(a.Parts)...)
		if !Same(a, other) || !Same(other, a) {
			t.Errorf("%q: not its copy", a)
		}
		for k := range other.Parts {
			other.Parts[k] += "x"
			if Same(a, other) || Same(other, a) {
				t.Errorf("%q: another part %d", a, k)
			}
			other.Parts[k] = a.Parts[k]
		}
	}
	for i, x := range [][2]api.Name{
		{of("R", "a"), of("R", "a", "b")}, {of("R", "a"), of("S", "a")}, {of("R", "a"), of("R", "b")}, {of("R", "a"), of("R", "A")}, {of("R", "a"), of("r", "a")}, {of("R", "a", "b"), of("R", "b", "a")},
		{of("R", "ab"), of("R", "a", "b")}, {of("R", "a/b"), of("R", "a", "b")}, {of("R", "a"), of("R", "a", "")}, {of("R", "a"), of("a", "R")}, {of("R"), of("R", "a")}, {of("R"), of("S")}, {of("", "a"), of("", "b")},
	} {
		if Same(x[0], x[1]) || Same(x[1], x[0]) {
			t.Errorf("%d: %q %q", i, x[0], x[1])
		}
	}
}

// P11.1 and rule 4: also what is no name is the same as itself, and no parts are the same as nil ones.
func TestSameOfNoNames(t *testing.T) {
	for i, a := range noNames() {
		for k, b := range noNames() {
			if Same(a, b) != equal(a, b) || Same(a, b) != equal(b, a) || i == k && !Same(a, b) {
				t.Errorf("%s, %s: %v", i, k, Same(a, b))
			}
		}
	}
	if !Same(api.Name{Realm: "R"}, api.Name{Realm: "R", Parts: []string{}}) || !Same(api.Name{Parts: []string{}}, api.Name{}) {
		t.Error("nil and empty parts")
	}
}

// P11.2 and the chapter's example: texts of names.
func TestText(t *testing.T) {
	for i, x := range []struct {
		n    api.Name
		want string
	}{
		{of("R", "host", "a/b"), `host/a\/b@R`},
		{of("R", "a"), `a@R`},
		{of("EXAMPLE.ORG", "alice"), `alice@EXAMPLE.ORG`},
		{of("R", "a", "b", "c", "d", "e", "f", "g", "h"), `a/b/c/d/e/f/g/h@R`},
		{of("@", `\`), `\\@\@`},
		{of(`/\@`, `@/\`, `\\`), `\@\/\\/\\\\@\/\\\@`},
		{of("R@S", "a@b"), `a\@b@R\@S`},
		{of("R/S", "a", "b"), `a/b@R\/S`},
	} {
		if got := Text(x.n); got != x.want {
			t.Errorf("%d: %s", i, got)
		}
		acceptText(t, x.want, x.n)
	}
	for _, n := range someNames() {
		if got := Text(n); got != definedText(n) {
			t.Errorf("%q: %s", n, got)
		}
		acceptText(t, definedText(n), n)
	}
}

// P11.2: what is no name has no text.
func TestTextOfNoNames(t *testing.T) {
	for what, n := range noNames() {
		if got := Text(n); got != "" {
			t.Errorf("%s: %q", what, got)
		}
		refuseText(t, definedText(n))
	}
}

// short calls f with all strings of at most n of some bytes.
func short(n int, of string, f func(s string)) {
	level := []string{""}
	for range n {
		for _, s := range level {
			f(s)
		}
		var longer []string
		for _, s := range level {
			for _, c := range []byte(of) {
				longer = append(longer, s+string([]byte{c}))
			}
		}
		level = longer
	}
	for _, s := range level {
		f(s)
	}
}

// shortNames calls f with all names of words of some bytes whose words have at most n bytes together.
func shortNames(n int, of string, f func(n api.Name)) {
	var words []string
	short(n, of, func(s string) {
		if s != "" {
			words = append(words, s)
		}
	})
	var more func(left int, parts []string)
	more = func(left int, parts []string) {
		for _, w := range words {
			if len(w) > left {
				break
			}
			if len(parts) > 0 {
				f(api.Name{Realm: w, Parts: parts})
			}
			more(left-len(w), append(parts[:len(parts):len(parts)], w))
		}
	}
	more(n, nil)
}

// P11.2 and P11.4: of all short strings, the texts of names are texts, each of one name, and the others are none.
func TestParseOfAllShort(t *testing.T) {
	texts := map[string]api.Name{}
	shortNames(6, `a/@\`, func(n api.Name) {
		s := definedText(n)
		if other, ok := texts[s]; ok || Text(n) != s {
			t.Fatalf("%q and %q: %s %s", n, other, s, Text(n))
		}
		texts[s] = n
	})
	found := 0
	short(7, "a/@\\ ", func(s string) {
		if n, ok := texts[s]; ok {
			acceptText(t, s, n)
			found++
		} else {
			refuseText(t, s)
		}
	})
	if found < 400 {
		t.Error(found)
	}
}

// P11.2: strings that are nearly texts.
func TestParseOfNearly(t *testing.T) {
	for _, s := range []string{
		"", "a", "@", "a@", "@R", "/", `\`, "a/b", "a/b@", "a@b@c", "a@R@", "@a@R", "a//b@R", "a/@R", "/a@R", "a@R/b", "a@/R", "a@R/", `a\`, `a@R\`, `\a@R`, `a@\R`, `a\\\@R`, `a\@R`, `a\/@R\`, `a/\b@R`, "a @R", " a@R", "a@R ", "a@ R", "a\n@R", "a@R\n", "a\x00@R", "a@R\x00", "ä@R", "a@Ä", "a\xff@R", "a\x7f@R", `\ @R`, `\n@R`, "\\\x00@R", "\\\xc3\xa4@R", `a\2f@R`, "a/b/c/d/e/f/g/h/i@R", "a/b/c/d/e/f/g/h/R", "a/b/c/d/e/f/g/h/@R", "a/b/c/d/e/f/g/h/i/j@R",
	} {
		refuseText(t, s)
	}
	acceptText(t, "a/b/c/d/e/f/g/h@R", of("R", "a", "b", "c", "d", "e", "f", "g", "h"))
	acceptText(t, `a\\@R`, of("R", `a\`))
	acceptText(t, `a\\/b@R`, of("R", `a\`, "b"))
	acceptText(t, `a\\\/b@R`, of("R", `a\/b`))
}

// P11.2: each byte in a text, as it is and behind a backslash.
func TestParseOfBytes(t *testing.T) {
	for c := range 256 {
		s := string([]byte{byte(c)})
		word, mark := 33 <= c && c <= 126, strings.Contains(`/@\`, s)
		if word && !mark {
			acceptText(t, "x"+s+"y@R", of("R", "x"+s+"y"))
			acceptText(t, "x@R"+s, of("R"+s, "x"))
		} else if c != '/' {
			refuseText(t, "x"+s+"y@R")
			refuseText(t, "x@R"+s)
		}
		if mark {
			acceptText(t, `x\`+s+"y@R", of("R", "x"+s+"y"))
			acceptText(t, `x@R\`+s, of("R"+s, "x"))
		} else {
			refuseText(t, `x\`+s+"y@R")
			refuseText(t, `x@R\`+s)
		}
	}
}

// P11.2: words and texts around the limits, with and without backslashes.
func TestParseOfSizes(t *testing.T) {
	for size := range 300 {
		for _, w := range []string{letters(size), strings.Repeat(`@`, size), strings.Repeat(`\`, size), strings.Repeat(`/`, size)} {
			for _, n := range []api.Name{of(w, "a"), of("R", w), of("R", "a", w), of(w, w, w, w, w, w, w, w, w)} {
				if s := definedText(n); 1 <= size && size <= 100 {
					acceptText(t, s, n)
				} else {
					refuseText(t, s)
				}
			}
		}
	}
	for count := range 40 {
		for _, w := range []string{"a", strings.Repeat(`@`, 100)} {
			n := of(w, slices.Repeat([]string{w}, count)...)
			if s := definedText(n); 1 <= count && count <= 8 {
				acceptText(t, s, n)
			} else {
				refuseText(t, s)
			}
		}
	}
}

// P11.2 and P1: long strings are no texts, and are refused at once.
func TestParseOfLong(t *testing.T) {
	for _, s := range []string{"/", "@", `\`, `\\`, "a", "a/", "a@", "a/b@R", " ", "\x00", "\xff"} {
		refuseText(t, strings.Repeat(s, 1<<20))
		refuseText(t, "a@"+strings.Repeat(s, 1<<20))
		refuseText(t, strings.Repeat(s, 1<<20)+"@R")
	}
}

// P11.2 and P11.4: changed texts are parsed as the grammar of texts says, and each name that is parsed has this text.
func TestParseOfChanged(t *testing.T) {
	const char = `([!-.0-?A-\[\]-~]|\\[/@\\])`
	grammar := regexp.MustCompile(`\A` + char + `{1,100}(/` + char + `{1,100}){0,7}@` + char + `{1,100}\z`)
	random := rand.New(rand.NewSource(1))
	bytesOf := "/@\\/@\\/@\\ab! ~\x7f\xc3\xa4\x00"
	texts, others := 0, 0
	for range 200 {
		words := some(2+random.Intn(3), 1+random.Intn(12))
		text := definedText(of(words[0], words[1:]...))
		for range 100 {
			s := []byte(text)
			for range 1 + random.Intn(3) {
				i := random.Intn(len(s))
				c := bytesOf[random.Intn(len(bytesOf))]
				switch random.Intn(3) {
				case 0:
					s[i] = c
				case 1:
					s = slices.Insert(s, i, c)
				case 2:
					s = append(slices.Delete(s, i, i+1), c)
				}
			}
			n, ok := Parse(string(s))
			if ok != grammar.Match(s) || ok && (!Valid(n) || definedText(n) != string(s)) {
				t.Fatalf("%q: %q %v", s, n, ok)
			}
			if ok {
				texts++
			} else {
				others++
				refuseText(t, string(s))
			}
		}
	}
	if texts < 1000 || others < 1000 {
		t.Error(texts, others)
	}
}

// P11.3: bytes of names.
func TestBytes(t *testing.T) {
	for i, x := range []struct {
		n    api.Name
		want string
	}{
		{of("R", "host", "a/b"), "\x01R\x02\x04host\x03a/b"},
		{of("R", "a"), "\x01R\x01\x01a"},
		{of("@", `\`), "\x01@\x01\x01\\"},
		{of(letters(100), "b", letters(100)), "\x64" + letters(100) + "\x02\x01b\x64" + letters(100)},
		{of("AB", "a", "b", "c", "d", "e", "f", "g", "h"), "\x02AB\x08\x01a\x01b\x01c\x01d\x01e\x01f\x01g\x01h"},
	} {
		if got, ok := Bytes(x.n); !ok || string(got) != x.want {
			t.Errorf("%d: %q %v", i, got, ok)
		}
		acceptBytes(t, []byte(x.want), x.n)
	}
	for _, n := range someNames() {
		if got, ok := Bytes(n); !ok || !bytes.Equal(got, definedBytes(n)) {
			t.Errorf("%q: %q %v", n, got, ok)
		}
		acceptBytes(t, definedBytes(n), n)
	}
}

// P11.3: what is no name has no bytes, and is not read.
func TestBytesOfNoNames(t *testing.T) {
	for what, n := range noNames() {
		if got, ok := Bytes(n); ok || len(got) != 0 {
			t.Errorf("%s: %q %v", what, got, ok)
		}
		// The others have a length or a number of parts that does not fit in a byte.
		if len(n.Parts) < 256 && what != "256 more" {
			refuseBytes(t, definedBytes(n))
		}
	}
}

// P11.3 and P11.4: of all short bytes, those of names are read, with what follows them, and the others are none.
func TestReadOfAllShort(t *testing.T) {
	names := map[string]api.Name{}
	shortNames(5, "\x01\x02a", func(n api.Name) {
		for _, w := range append(slices.Clone(n.Parts), n.Realm) {
			if strings.Trim(w, "a") != "" {
				return
			}
		}
		b := definedBytes(n)
		if other, ok := names[string(b)]; ok {
			t.Fatalf("%q and %q: %q", n, other, b)
		}
		names[string(b)] = n
	})
	found := 0
	short(8, "\x00\x01\x02a", func(s string) {
		for i := range len(s) + 1 {
			if n, ok := names[s[:i]]; ok {
				r := wire.New([]byte(s))
				if got, ok := Read(r); !ok || !equal(got, n) || r.Left() != len(s)-i {
					t.Fatalf("%q: %q %v", s, got, ok)
				}
				found++
				return
			}
		}
		refuseBytes(t, []byte(s))
	})
	if found < 100 {
		t.Error(found)
	}
}

// P11.3: no part of the bytes of a name is enough.
func TestReadOfShortened(t *testing.T) {
	for _, n := range someNames() {
		b := definedBytes(n)
		for i := range b {
			refuseBytes(t, b[:i])
		}
	}
	refuseBytes(t, nil)
	refuseBytes(t, []byte{})
}

// P11.3: each byte in the words, and each number of parts and length.
func TestReadOfBytes(t *testing.T) {
	for c := range 256 {
		c := byte(c)
		for i, n := range []api.Name{of(string([]byte{c}), "a"), of("R", string([]byte{'a', c})), of("R", "a", string([]byte{c, 'a'}))} {
			if b := definedBytes(n); 33 <= c && c <= 126 {
				acceptBytes(t, b, n)
			} else if refuseBytes(t, b); t.Failed() {
				t.Fatal(c, i)
			}
		}
		parts := slices.Repeat([]string{"a"}, int(c))
		word := letters(int(c))
		if n := of("R", parts...); 1 <= c && c <= 8 {
			acceptBytes(t, definedBytes(n), n)
		} else {
			refuseBytes(t, definedBytes(n))
			refuseBytes(t, append(definedBytes(n), "\x01a\x01a"...))
		}
		for _, n := range []api.Name{of(word, "a"), of("R", word), of("R", "a", word)} {
			if b := definedBytes(n); 1 <= c && c <= 100 {
				acceptBytes(t, b, n)
			} else {
				refuseBytes(t, b)
			}
		}
	}
}

// P11.3: several names and other bytes, one after the other.
func TestReadOfMany(t *testing.T) {
	names := someNames()
	var all []byte
	for i, n := range names {
		b, ok := Bytes(n)
		if !ok {
			t.Fatalf("%q", n)
		}
		all = append(append(all, byte(i)), b...)
	}
	r := wire.New(all)
	for i, want := range names {
		if k := r.Number(1); byte(k) != byte(i) {
			t.Fatal(i, k)
		}
		if n, ok := Read(r); !ok || !equal(n, want) {
			t.Fatalf("%d: %q %v", i, n, ok)
		}
	}
	if !r.Done() {
		t.Error(r.Left())
	}
	if n, ok := Read(r); ok || !equal(n, api.Name{}) {
		t.Errorf("%q", n)
	}
}

// P11.3: a reader of which a read has failed, and no reader, have no bytes of a name.
func TestReadOfBad(t *testing.T) {
	b := definedBytes(of("R", "a"))
	r := wire.New(b)
	r.Take(len(b) + 1)
	for range 3 {
		if n, ok := Read(r); ok || !equal(n, api.Name{}) {
			t.Errorf("%q", n)
		}
	}
	if n, ok := Read(nil); ok || !equal(n, api.Name{}) {
		t.Errorf("%q", n)
	}
}

// P11.4: names, texts and bytes are told by each other.
func TestInverse(t *testing.T) {
	for _, n := range someNames() {
		s := Text(n)
		parsed, ok := Parse(s)
		if !ok || !Same(parsed, n) || Text(parsed) != s || !Valid(parsed) {
			t.Errorf("%q: %s %q", n, s, parsed)
		}
		b, _ := Bytes(n)
		read, ok := Read(wire.New(b))
		if again, _ := Bytes(read); !ok || !Same(read, n) || !bytes.Equal(again, b) || !Valid(read) {
			t.Errorf("%q: %q %q", n, b, read)
		}
	}
}

// Rule 5: names stay as they are, with the unused capacity of their parts, and results share no memory with them or with each other.
func TestMemory(t *testing.T) {
	room := []string{"a", `b/\`, "c", "d", "e", "f", "g", "h", "i"}
	before := slices.Clone(room)
	n := of("R@", room[:3]...)
	text := Text(n)
	b, _ := Bytes(n)
	other, _ := Bytes(n)
	r := wire.New(append(b, other...))
	var names []api.Name
	for range 2 {
		parsed, _ := Parse(text)
		read, _ := Read(r)
		names = append(names, parsed, read)
	}
	Valid(n)
	Same(n, n)
	if !slices.Equal(room, before) {
		t.Error("an argument changed")
	}
	for i := range b {
		b[i] = 0
	}
	if !bytes.Equal(other, definedBytes(n)) {
		t.Error("results share memory")
	}
	for i, x := range names {
		if !equal(x, n) {
			t.Errorf("%d: %q", i, x)
		}
		for k := range x.Parts[:cap(x.Parts)] {
			x.Parts[:cap(x.Parts)][k] = "other"
		}
	}
	if !slices.Equal(room, before) || n.Realm != "R@" {
		t.Error("a result shares memory with an argument")
	}
}

// Rules 7 and 8: functions are called at the same time, for the same name.
func TestAtTheSameTime(t *testing.T) {
	n := of("R", "host", "a/b")
	var group sync.WaitGroup
	for range 50 {
		group.Go(func() {
			b, ok := Bytes(n)
			if !ok || !Valid(n) || !Same(n, n) || Text(n) != `host/a\/b@R` {
				t.Error("of the name")
			}
			acceptBytes(t, b, n)
			acceptText(t, `host/a\/b@R`, n)
			refuseText(t, `host/a\b@R`)
		})
	}
	group.Wait()
}
