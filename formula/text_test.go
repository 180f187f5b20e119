package formula_test

import (
	"math/rand"
	"slices"
	"strings"
	"testing"

	"quicksilver/api"
	"quicksilver/formula"
)

// P7.2 and P7.3, with the chapter's examples: what is read, and how it is written again.
func TestReadAndWrite(t *testing.T) {
	for _, x := range []struct {
		text, again string
		f           api.FoFormula
	}{
		{"a*(b-0.25)+b", "a*(b-0.25)+b", exampleF()},
		{" a - ( b-c )*(a*b)", "a-(b-c)*(a*b)", of("a b c", v(0), v(1), v(2), op(4), v(0), v(1), op(5), op(5), op(4))},
		{"a", "a", of("a", v(0))}, {"((( a ) ) )", "a", of("a", v(0))}, {"0.0", "0.0", of("", c(0, 1))}, {"0.000001", "0.000001", of("", c(1, 6))}, {"0.05", "0.05", of("", c(5, 2))}, {"0.999999", "0.999999", of("", c(999999, 6))},
		{"b+a", "b+a", of("b a", v(0), v(1), op(3))}, {"b*b", "b*b", of("b", v(0), v(0), op(5))},
		{"a+b+c", "a+b+c", of("a b c", v(0), v(1), op(3), v(2), op(3))}, {"a+(b+c)", "a+(b+c)", of("a b c", v(0), v(1), v(2), op(3), op(3))}, {"(a+b)+c", "a+b+c", of("a b c", v(0), v(1), op(3), v(2), op(3))},
		{"a-b-c", "a-b-c", of("a b c", v(0), v(1), op(4), v(2), op(4))}, {"a-(b-c)", "a-(b-c)", of("a b c", v(0), v(1), v(2), op(4), op(4))}, {"a-(b+c)", "a-(b+c)", of("a b c", v(0), v(1), v(2), op(3), op(4))}, {"a+(b-c)", "a+(b-c)", of("a b c", v(0), v(1), v(2), op(4), op(3))},
		{"a*b*c", "a*b*c", of("a b c", v(0), v(1), op(5), v(2), op(5))}, {"(a*b)*c", "a*b*c", of("a b c", v(0), v(1), op(5), v(2), op(5))}, {"a*(b*c)", "a*(b*c)", of("a b c", v(0), v(1), v(2), op(5), op(5))},
		{"a+b*c", "a+b*c", of("a b c", v(0), v(1), v(2), op(5), op(3))}, {"a-(b*c)", "a-b*c", of("a b c", v(0), v(1), v(2), op(5), op(4))}, {"(a*b)-c", "a*b-c", of("a b c", v(0), v(1), op(5), v(2), op(4))}, {"(a+b)*c", "(a+b)*c", of("a b c", v(0), v(1), op(3), v(2), op(5))}, {"(a-b)*(b-c)", "(a-b)*(b-c)", of("a b c", v(0), v(1), op(4), v(1), v(2), op(4), op(5))},
		{"a*(b+c)*0.5", "a*(b+c)*0.5", of("a b c", v(0), v(1), v(2), op(3), op(5), c(5, 1), op(5))},
		{"  x_1   -  0.5  ", "x_1-0.5", of("x_1", v(0), c(5, 1), op(4))},
	} {
		if f := read(t, x.text); !same(f, x.f) {
			t.Errorf("Read of %q: %v, not %v", x.text, f, x.f)
		}
		if text := write(t, x.f); text != x.again {
			t.Errorf("Write of %v: %q, not %q", x.f, text, x.again)
		}
	}
}

// P7.2, with the chapter's examples: the first token that cannot be there.
func TestWrongTokens(t *testing.T) {
	for text, want := range map[string]int{
		"a*(b-0.250)+b": 5, "a*(b": 4, "a b": 2,
		"": 0, " ": 1, "a*(b  ": 6, "a+": 2, "a+ ": 3, "(": 1, "(((": 3, "(a+b": 4,
		"+": 0, "-a": 0, "a-*b": 2, "a++b": 2, "*a": 0, "(+a)": 1, "(a+)": 3,
		")": 0, "()": 1, "a)": 1, "(a))": 3, "(a)(b)": 3, "a(b)": 1, "(a)b": 3, "(a)0.5": 3, "0.5 0.5": 4, "0.5a": 0, "a 0.5": 2, "a0.5": 0,
		"0": 0, "1": 0, "0.": 0, ".5": 0, ".": 0, "1.5": 0, "00.5": 0, "0.50": 0, "0.00": 0, "0.5.": 0, "0..5": 0, "0.1234567": 0, "0.1234560": 0, "0.12345678901234567890": 0, "0.5e3": 0, "0.5_": 0, "0.1_2": 0, "0._5": 0, "0.+5": 0, "0.-5": 0, "0x.5": 0, "0 .5": 0,
		"A": 0, "aA": 0, "aB": 0, "aZ": 0, "a+Ab": 2, "_a": 0, "a_": 0, "9a": 0, "a.b": 0, "a.": 0, "+A": 0, "a+n23456789012345678901": 2,
		"a/b": 1, "a$": 1, "a+$": 2, "ab$c": 2, "a b$": 2, "a$ b": 1, "$": 0, "a\tb": 1, "\ta": 0, "a\n": 1, "a\x00": 1, "a+\x80": 2, "é": 0, "a+é": 2, "aé": 1, "a+b\xff": 3, "a[b]": 1, "a^b": 1, "a,b": 1, "a\u00a0": 1,
	} {
		if f, at, e := formula.Read(text); !empty(f) || at != want || e != api.ErrForm {
			t.Errorf("Read of %q: %v, %d, %d, not %d", text, f, at, e, want)
		}
	}
}

// P7.2: too much of anything; the form comes before what is too much in it, and the bytes before the form.
func TestTooLong(t *testing.T) {
	sum := func(many int, part string) string { return strings.Repeat(part+"+", many-1) + part }
	nested := func(many int) string { return strings.Repeat("a+(", many) + "a" + strings.Repeat(")", many) }
	brackets := func(many int) string { return strings.Repeat("(", many) + "a" + strings.Repeat(")", many) }
	long := strings.Repeat("n", 20)
	for i, x := range []struct {
		text string
		at   int
		e    api.Errno
	}{
		{sum(20, "0.1"), 0, api.OK}, {sum(21, "0.1"), 0, api.ErrLong}, {sum(21, "0.1") + ")", 83, api.ErrForm}, {sum(21, "0.1") + "+", 84, api.ErrForm},
		{"a+b+c+d+e+f+g+h", 0, api.OK}, {"a+b+c+d+e+f+g+h+a", 0, api.OK}, {"a+b+c+d+e+f+g+h+i", 0, api.ErrLong}, {"a+b+c+d+e+f+g+h+i/", 17, api.ErrForm}, {"a+b+c+d+e+f+g+h+i+", 18, api.ErrForm},
		{nested(11), 0, api.OK}, {nested(12), 0, api.ErrLong}, {nested(12) + ")", 49, api.ErrForm}, {nested(149), 0, api.ErrLong}, {nested(149) + "+", 598, api.ErrForm},
		{brackets(299), 0, api.OK}, {brackets(300), 0, api.ErrLong}, {strings.Repeat("(", 600), 600, api.ErrForm}, {strings.Repeat("(", 601), 0, api.ErrLong},
		{strings.Repeat(" ", 599) + "a", 0, api.OK}, {strings.Repeat(" ", 600) + "a", 0, api.ErrLong}, {strings.Repeat(" ", 600), 600, api.ErrForm}, {strings.Repeat(")", 601), 0, api.ErrLong}, {strings.Repeat(")", 600), 0, api.ErrForm}, {strings.Repeat("é", 301), 0, api.ErrLong},
		{long, 0, api.OK}, {long + "n", 0, api.ErrForm}, {strings.Repeat("a", 600), 0, api.ErrForm}, {"a+0." + strings.Repeat("1", 500), 2, api.ErrForm},
	} {
		f, at, e := formula.Read(x.text)
		if at != x.at || e != x.e || empty(f) != (e != api.OK) {
			t.Errorf("%d: Read of %q: %v, %d, %d, not %d, %d", i, x.text, f, at, e, x.at, x.e)
		}
	}
}

// someText returns a string that is nearly that of a formula, with blanks and brackets that are not needed.
func someText(r *rand.Rand, f api.FoFormula) string {
	var text []byte
	for _, token := range tokenForm.FindAllString(plainText(plainTree(f.Code), f.Vars), -1) {
		many := r.Intn(2) * r.Intn(3)
		if token[0] < 'a' && token[0] != '0' {
			many = 0
		}
		text = append(text, strings.Repeat("( ", many)+token+strings.Repeat(")", many)...)
		text = append(text, strings.Repeat(" ", r.Intn(3)*r.Intn(2))...)
	}
	const bytes = "ab0.1_A+-*() /\x80"
	for range r.Intn(6) / 2 {
		at := r.Intn(len(text) + 1)
		switch r.Intn(4) {
		case 0:
			text = text[:at]
		case 1:
			text = slices.Delete(text, at, min(at+1, len(text)))
		default:
			text = slices.Insert(text, at, bytes[r.Intn(len(bytes))])
		}
	}
	return string(text)
}

// P7.2 against the definition.
func TestReadOfAll(t *testing.T) {
	r := rand.New(rand.NewSource(2))
	met := map[api.Errno]int{}
	for range 30000 {
		text := someText(r, numbered(someCode(r, 1+r.Intn(22), 1+r.Intn(10)), someNames(r)))
		want, wantAt, wantE := plainRead(text)
		met[wantE]++
		got, at, e := formula.Read(text)
		if !same(got, want) || at != wantAt || e != wantE {
			t.Fatalf("Read of %q: %v, %d, %d, not %v, %d, %d", text, got, at, e, want, wantAt, wantE)
		}
	}
	if met[api.OK] < 5000 || met[api.ErrForm] < 5000 || met[api.ErrLong] < 100 {
		t.Errorf("the errors occur so often: %v", met)
	}
}

// P7.3 against the definition, and P7.9: read back.
func TestReadBack(t *testing.T) {
	r := rand.New(rand.NewSource(3))
	longest := 0
	for range 20000 {
		f := someFormula(r, 20)
		text := write(t, f)
		longest = max(longest, len(text))
		if want := plainText(plainTree(f.Code), f.Vars); text != want {
			t.Fatalf("Write of %v: %q, not %q", f, text, want)
		}
		if back := read(t, text); !same(back, f) {
			t.Fatalf("Read of %q: %v, not %v", text, back, f)
		}
		first, _, e := formula.Read(someText(r, f))
		if e != api.OK {
			continue
		}
		if again := read(t, write(t, first)); !same(again, first) {
			t.Fatalf("read again: %v, not %v", again, first)
		}
	}
	if longest < 200 {
		t.Errorf("the longest text has %d bytes", longest)
	}
}

// P7.9: the longest text of all is read back, too.
func TestLongestText(t *testing.T) {
	var names []string
	for _, letter := range "abcdefgh" {
		names = append(names, string(letter)+strings.Repeat("_", 18)+"z")
	}
	code := []api.FoNode{v(0)}
	for i := 1; i < 20; i++ {
		code = append(code, v(i%8), op(3+2*(i%2)))
	}
	f := api.FoFormula{Vars: names, Code: code}
	text := write(t, f)
	if back := read(t, text); !same(back, f) || len(text) > 600 || len(text) < 400 {
		t.Errorf("Read of %q: %v", text, back)
	}
}
