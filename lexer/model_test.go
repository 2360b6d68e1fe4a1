package lexer_test

import (
	"math/big"
	"regexp"
	"slices"
	"strings"
	"testing"

	"billhook/api"
	"billhook/lexer"
)

// The chapter once more, by patterns: what stands at the front of a text.
var (
	blanks = regexp.MustCompile(`^([ \t\n\r]|#[^\n]*)*`)
	word   = regexp.MustCompile(`^[a-z][a-z0-9_]*`)
	num    = regexp.MustCompile(`^[0-9]+`)
	sign   = regexp.MustCompile(`^(&&|\|\||==|!=|<=|\+\+|[{}()\[\];,.=<+\-*/%!])`)
	quotes = regexp.MustCompile(`(?s)^"([^"\\]|\\.)*"`)
	inside = regexp.MustCompile(`^([ !#-\[\]-~]|\\["\\])*`)
	plain  = strings.NewReplacer(`\\`, `\`, `\"`, `"`)
)

// placeOf is P8.2's place of an off that isn't outside of the text.
func placeOf(text string, off int) api.Place {
	ahead := text[:off]
	return api.Place{Off: off, Line: strings.Count(ahead, "\n") + 1, Col: off - strings.LastIndex(ahead, "\n")}
}

// modelToken is the token with which s begins; or an error, and how many bytes of s are ahead of it.
func modelToken(s string) (t api.Token, e api.Errno, off int) {
	if w := word.FindString(s); w != "" {
		if len(w) > 16 {
			return t, api.ErrBig, 0
		}
		return api.Token{Kind: 1, Text: w}, api.OK, 0
	}
	if w := num.FindString(s); w != "" {
		n, _ := new(big.Int).SetString(w, 10)
		if !n.IsInt64() || n.String() != w {
			return t, api.ErrNum, 0
		}
		return api.Token{Kind: 2, Text: w, V: api.Value{Kind: 1, N: n.Int64()}}, api.OK, 0
	}
	if w := sign.FindString(s); w != "" {
		return api.Token{Kind: 4, Text: w}, api.OK, 0
	}
	if s[0] == '"' {
		return modelQuoted(s)
	}
	return t, api.ErrByte, 0
}

func modelQuoted(s string) (t api.Token, e api.Errno, off int) {
	w := quotes.FindString(s)
	if w == "" {
		return t, api.ErrEnd, len(s)
	}
	in := w[1 : len(w)-1]
	good := len(inside.FindString(in))
	if good < len(in) && in[good] == '\\' {
		return t, api.ErrByte, good + 2
	}
	if good < len(in) {
		return t, api.ErrByte, good + 1
	}
	v := api.Value{Kind: 3, S: plain.Replace(in)}
	if len(v.S) > 32 {
		return t, api.ErrBig, 0
	}
	return api.Token{Kind: 3, Text: w, V: v}, api.OK, 0
}

func modelAll(text string) ([]api.Token, api.Errno, api.Place) {
	if len(text) > 16384 {
		return nil, api.ErrBig, api.Place{Off: 0, Line: 1, Col: 1}
	}
	var l []api.Token
	at := len(blanks.FindString(text))
	for at < len(text) {
		t, e, off := modelToken(text[at:])
		if e != api.OK {
			return nil, e, placeOf(text, at+off)
		}
		t.At = placeOf(text, at)
		l = append(l, t)
		at += len(t.Text)
		at += len(blanks.FindString(text[at:]))
	}
	return l, api.OK, api.Place{}
}

// bare are the tokens without their places.
func bare(l []api.Token) []api.Token {
	l = slices.Clone(l)
	for i := range l {
		l[i].At = api.Place{}
	}
	return l
}

// checkModel holds All against the model, and its tokens, printed, against themselves (P8.3).
func checkModel(t *testing.T, text string) {
	t.Helper()
	got, gotE, gotAt := lexer.All(text)
	want, e, at := modelAll(text)
	if !slices.Equal(got, want) || gotE != e || gotAt != at {
		t.Fatalf("All(%q) = %+v, %d, %+v, not %+v, %d, %+v", text, got, gotE, gotAt, want, e, at)
	}
	if e != api.OK {
		return
	}
	again, e, at := lexer.All(lexer.Print(got))
	if !slices.Equal(bare(again), bare(got)) || e != api.OK || at != (api.Place{}) {
		t.Fatalf("All(%q), printed: %q = %+v, %d, %+v", text, lexer.Print(got), again, e, at)
	}
}

// each calls f with all texts of at most so many of the letters.
func each(letters string, most int, f func(string)) {
	var more func(string)
	more = func(s string) {
		f(s)
		if len(s) == most {
			return
		}
		for i := range len(letters) {
			more(s + letters[i:i+1])
		}
	}
	more("")
}

// P8.1, P8.3: all short texts of some letters each.
func TestModel(t *testing.T) {
	for _, c := range []struct {
		letters string
		most    int
	}{
		{"\"\\a\n#", 7},
		{"\"\\ \xff\t", 6},
		{"&|=!<+ ", 5},
		{"a_09A-\n", 5},
		{"a1\"\\#\n =&;\x7f\r", 4},
		{"01\n\"", 6},
	} {
		each(c.letters, c.most, func(s string) { checkModel(t, s) })
	}
}

// P8.1, P8.3: any two bytes, alone, in quotes and in a line.
func TestModelBytes(t *testing.T) {
	for a := range 256 {
		for b := range 256 {
			s := string([]byte{byte(a), byte(b)})
			checkModel(t, s)
			checkModel(t, `"`+s+`"`)
			checkModel(t, "x\n1"+s+" y")
		}
	}
}

// P8.1: lengths about each limit, behind each other.
func TestModelSizes(t *testing.T) {
	for n := range 40 {
		for _, unit := range []string{"a", "1", "0", "_", ";", "9", "x7", `\"`, `\\`, "é"} {
			s := strings.Repeat(unit, n)
			for _, text := range []string{s, "a" + s, "\"" + s + "\"", "b\n\"" + s + "\" x" + s, "1" + s + " A"} {
				checkModel(t, text)
			}
		}
	}
	for n := api.MaxText - 3; n <= api.MaxText+3; n++ {
		for _, s := range []string{strings.Repeat("# \n", n/3) + "   "[:n%3], strings.Repeat(" ", n-1) + "A", strings.Repeat("\n", n-1) + "\""} {
			checkModel(t, s)
		}
	}
}

// P8.2: each place of all short texts.
func TestModelAt(t *testing.T) {
	each("a\n\r", 6, func(s string) {
		for off := -2; off <= len(s)+2; off++ {
			checkAt(t, s, off, placeOf(s, min(max(off, 0), len(s))))
		}
	})
}

// P8.3: tokens of ordinary text, however it is laid out, are cut the same when they are printed.
func TestAgain(t *testing.T) {
	for _, text := range []string{
		"",
		"acc[a].bal = 5;",
		"table t rows 2 { a int ; }",
		"proc p ( x int ) { emit x ; t [ x ] . a = 1 ; emit 2 ; emit t [ x ] . a ; emit 3 ; }",
		"a- -b--c!=!d==-1<=2<3&&!(e||f)++\"g\\\"h\\\\\"",
		"# head\n\n\tx=\"a # b\"; # tail\r\n#\n9223372036854775807\"\"\"\"\n",
		"abcdefghijklmnop 7abcdefghijklmnop\"" + full + "\"" + full[:16],
	} {
		l, e, _ := lexer.All(text)
		if e != api.OK {
			t.Errorf("All(%q) is error %d", text, e)
		}
		printed := lexer.Print(l)
		again, e, _ := lexer.All(printed)
		if !slices.Equal(bare(again), bare(l)) || e != api.OK || lexer.Print(again) != printed {
			t.Errorf("All(%q) = %+v, printed %q, %+v, %d", text, l, printed, again, e)
		}
	}
	// As long as a text may be: half of it are signs, half of it the blanks between them.
	half := strings.Repeat(";", api.MaxText/2)
	l, _, _ := lexer.All(half)
	again, e, _ := lexer.All(lexer.Print(l))
	if len(again) != api.MaxText/2 || !slices.Equal(bare(again), bare(l)) || e != api.OK {
		t.Errorf("%d signs, printed, are %d tokens, error %d", len(l), len(again), e)
	}
}
