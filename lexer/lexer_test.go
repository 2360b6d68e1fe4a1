package lexer_test

import (
	"math"
	"slices"
	"strconv"
	"strings"
	"testing"

	"billhook/api"
	"billhook/lexer"
	"billhook/value"
)

// full has as many bytes as a value's text may have.
var full = strings.Repeat("abcdefgh", 4)

// place is a place, written short.
func place(off, line, col int) api.Place {
	return api.Place{Off: off, Line: line, Col: col}
}

// first is a token that stands at a text's beginning.
func first(kind int, text string, v api.Value) api.Token {
	return api.Token{Kind: kind, Text: text, V: v, At: place(0, 1, 1)}
}

func checkAll(t *testing.T, text string, want []api.Token) {
	t.Helper()
	got, e, at := lexer.All(text)
	if !slices.Equal(got, want) || e != api.OK || at != (api.Place{}) {
		t.Errorf("All(%q) = %+v, %d, %+v, not %+v", text, got, e, at, want)
	}
}

func checkFault(t *testing.T, text string, e api.Errno, at api.Place) {
	t.Helper()
	got, gotE, gotAt := lexer.All(text)
	if len(got) != 0 || gotE != e || gotAt != at {
		t.Errorf("All(%q) = %+v, %d, %+v, not %d, %+v", text, got, gotE, gotAt, e, at)
	}
}

// checkTexts is of tokens that stand one behind the other, of which only kinds and texts are told.
func checkTexts(t *testing.T, text string, kinds []int, texts ...string) {
	t.Helper()
	got, e, _ := lexer.All(text)
	var gotKinds []int
	var gotTexts []string
	for _, x := range got {
		gotKinds = append(gotKinds, x.Kind)
		gotTexts = append(gotTexts, x.Text)
	}
	if !slices.Equal(gotKinds, kinds) || !slices.Equal(gotTexts, texts) || e != api.OK {
		t.Errorf("All(%q) = %v, %q, %d, not %v, %q", text, gotKinds, gotTexts, e, kinds, texts)
	}
}

// P8.1: the chapter's examples.
func TestExamples(t *testing.T) {
	checkAll(t, "acc[a].bal = 5;", []api.Token{
		{Kind: api.TokWord, Text: "acc", At: place(0, 1, 1)},
		{Kind: api.TokSign, Text: "[", At: place(3, 1, 4)},
		{Kind: api.TokWord, Text: "a", At: place(4, 1, 5)},
		{Kind: api.TokSign, Text: "]", At: place(5, 1, 6)},
		{Kind: api.TokSign, Text: ".", At: place(6, 1, 7)},
		{Kind: api.TokWord, Text: "bal", At: place(7, 1, 8)},
		{Kind: api.TokSign, Text: "=", At: place(11, 1, 12)},
		{Kind: api.TokNum, Text: "5", V: value.Int(5), At: place(13, 1, 14)},
		{Kind: api.TokSign, Text: ";", At: place(14, 1, 15)},
	})
	checkFault(t, "x A", api.ErrByte, place(2, 1, 3))
}

// P8.1: a text of several lines, with a token of each kind, each with its text, its value and its place.
func TestLines(t *testing.T) {
	text := "# head\nemit\t\"a\\\"b\"\r\n  ++ x_1; # n\n\n-07"
	checkFault(t, text, api.ErrNum, place(36, 5, 2))
	checkAll(t, text[:len(text)-2]+"7", []api.Token{
		{Kind: api.TokWord, Text: "emit", At: place(7, 2, 1)},
		{Kind: api.TokText, Text: `"a\"b"`, V: value.Text(`a"b`), At: place(12, 2, 6)},
		{Kind: api.TokSign, Text: "++", At: place(22, 3, 3)},
		{Kind: api.TokWord, Text: "x_1", At: place(25, 3, 6)},
		{Kind: api.TokSign, Text: ";", At: place(28, 3, 9)},
		{Kind: api.TokSign, Text: "-", At: place(35, 5, 1)},
		{Kind: api.TokNum, Text: "7", V: value.Int(7), At: place(36, 5, 2)},
	})
}

// P8.1: where there is nothing but blanks and notes there are no tokens, and no error.
func TestNothing(t *testing.T) {
	for _, s := range []string{"", " ", "\t", "\n", "\r", " \t\r\n ", "#", "##", "#\n", "# a", "# a\n", "\n#\n#", "#\"", "# \xff\x00\n\t# A \\"} {
		checkAll(t, s, nil)
	}
}

// P8.1: a text of just MaxText bytes, and one byte more, whatever it is made of.
func TestTextSize(t *testing.T) {
	for _, unit := range []string{" ", "\n", "#", ";", "a;", "7 ", "A", "\"", "0", "\xff"} {
		text := strings.Repeat(unit, api.MaxText/len(unit))
		if _, e, at := lexer.All(text); e == api.ErrBig {
			t.Errorf("All of %d times %q is error %d at %+v", api.MaxText/len(unit), unit, e, at)
		}
		checkFault(t, text+" ", api.ErrBig, place(0, 1, 1))
		checkFault(t, text+text, api.ErrBig, place(0, 1, 1))
	}
	blank := strings.Repeat(" ", api.MaxText-1)
	checkAll(t, blank+"x", []api.Token{{Kind: api.TokWord, Text: "x", At: place(16383, 1, 16384)}})
	checkAll(t, "#"+blank, nil)
	checkFault(t, blank+"X", api.ErrByte, place(16383, 1, 16384))
	checkFault(t, blank+"\"", api.ErrEnd, place(16384, 1, 16385))
	checkFault(t, blank+"xy", api.ErrBig, place(0, 1, 1))
	l, e, _ := lexer.All(strings.Repeat(";", api.MaxText))
	if len(l) != api.MaxText || e != api.OK {
		t.Errorf("%d tokens, error %d", len(l), e)
	}
}

// P8.1: words, of just MaxName bytes too, and one more; the words of the language are no others.
func TestWords(t *testing.T) {
	for _, s := range []string{
		"a", "z", "ab", "a0", "z9", "a_", "a__", "z_9a", "acc", "abcdefghijklmnop", "a234567890123456", "a_______________",
		"table", "rows", "proc", "let", "if", "else", "true", "false", "int", "text",
	} {
		for _, blanks := range []string{"", " ", "\n", "#", ";", "\"\""} {
			got, e, _ := lexer.All(s + blanks)
			if e != api.OK || len(got) == 0 || got[0] != first(api.TokWord, s, api.Value{}) {
				t.Errorf("All(%q) = %+v, %d", s+blanks, got, e)
			}
		}
	}
	for n := 1; n <= 40; n++ {
		for _, s := range []string{strings.Repeat("x", n), "x" + strings.Repeat("_", n-1), "x" + strings.Repeat("7", n-1)} {
			if n <= 16 {
				checkAll(t, s, []api.Token{first(api.TokWord, s, api.Value{})})
				continue
			}
			checkFault(t, s, api.ErrBig, place(0, 1, 1))
			checkFault(t, "a \n "+s+" A", api.ErrBig, place(4, 2, 2))
		}
	}
	words := []int{api.TokWord, api.TokWord}
	checkTexts(t, "a b", words, "a", "b")
	checkTexts(t, "abcdefghijklmnop q", words, "abcdefghijklmnop", "q")
	checkTexts(t, "a\nb", words, "a", "b")
	checkTexts(t, "a#b\nc", words, "a", "c")
}

// P8.1: which bytes may stand in a word, at its front and behind that.
func TestWordBytes(t *testing.T) {
	for n := range 256 {
		c := string([]byte{byte(n)})
		letter := c >= "a" && c <= "z"
		if got, _, _ := lexer.All(c + "x"); (len(got) == 1 && got[0].Kind == api.TokWord && got[0].Text == c+"x") != letter {
			t.Errorf("All(%q) = %+v", c+"x", got)
		}
		behind := letter || c >= "0" && c <= "9" || c == "_"
		got, _, _ := lexer.All("x" + c + "y")
		if (len(got) == 1 && got[0].Text == "x"+c+"y") != behind {
			t.Errorf("All(%q) = %+v", "x"+c+"y", got)
		}
	}
}

// P8.1: numbers: 0, 2^63 - 1, and what is above it; a 0 ahead of others.
func TestNums(t *testing.T) {
	for _, n := range []int64{0, 1, 7, 9, 10, 90, 100, 1234567890, math.MaxInt32, math.MaxInt32 + 1, math.MaxUint32, math.MaxInt64 - 1, math.MaxInt64} {
		s := strconv.FormatInt(n, 10)
		for _, behind := range []string{"", " ", "\n", "#0"} {
			checkAll(t, s+behind, []api.Token{first(api.TokNum, s, api.Value{Kind: api.KindInt, N: n})})
		}
	}
	for _, s := range []string{
		"00", "01", "007", "000", "0000000000000000000000000", "09223372036854775807", "00000000000000000000001", "0123456789",
		"9223372036854775808", "9223372036854775810", "10000000000000000000", "18446744073709551615", "18446744073709551616",
		"18446744073709551617", "36893488147419103233", strings.Repeat("9", 100), strings.Repeat("1", api.MaxText),
	} {
		checkFault(t, s, api.ErrNum, place(0, 1, 1))
		if len(s) < 1000 {
			checkFault(t, ";\n\n -"+s+" A", api.ErrNum, place(5, 3, 3))
		}
	}
	checkTexts(t, "0 0", []int{api.TokNum, api.TokNum}, "0", "0")
	checkTexts(t, "-0", []int{api.TokSign, api.TokNum}, "-", "0")
	checkTexts(t, "-9223372036854775807", []int{api.TokSign, api.TokNum}, "-", "9223372036854775807")
	checkFault(t, "-9223372036854775808", api.ErrNum, place(1, 1, 2))
	checkTexts(t, "1.0", []int{api.TokNum, api.TokSign, api.TokNum}, "1", ".", "0")
	checkTexts(t, "0x10", []int{api.TokNum, api.TokWord}, "0", "x10")
	checkTexts(t, "1e3", []int{api.TokNum, api.TokWord}, "1", "e3")
	checkTexts(t, "12ab34", []int{api.TokNum, api.TokWord}, "12", "ab34")
	checkTexts(t, "7\"7\"", []int{api.TokNum, api.TokText}, "7", "\"7\"")
	checkFault(t, "1_000", api.ErrByte, place(1, 1, 2))
	checkFault(t, "1A", api.ErrByte, place(1, 1, 2))
}

// P8.1: texts in quotes, with and without \, of just MaxWord bytes too.
func TestQuoted(t *testing.T) {
	for _, c := range []struct{ text, v string }{
		{`""`, ``},
		{`" "`, ` `},
		{`"a"`, `a`},
		{`"A z~"`, `A z~`},
		{`"0"`, `0`},
		{`"#"`, `#`},
		{`"&|_:'"`, `&|_:'`},
		{`"\""`, `"`},
		{`"\\"`, `\`},
		{`"\\\""`, `\"`},
		{`"\"\\"`, `"\`},
		{`"\\\\"`, `\\`},
		{`"a\"b"`, `a"b`},
		{`"\"\""`, `""`},
		{`"a\\"`, `a\`},
		{`"\\n"`, `\n`},
		{`"` + full[:31] + `"`, full[:31]},
		{`"` + full + `"`, full},
		{`"` + full[:31] + `\""`, full[:31] + `"`},
		{`"\\` + full[1:] + `"`, `\` + full[1:]},
		{`"` + strings.Repeat(`\"`, 32) + `"`, strings.Repeat(`"`, 32)},
		{`"` + strings.Repeat(`\\`, 32) + `"`, strings.Repeat(`\`, 32)},
	} {
		v := api.Value{Kind: api.KindText, S: c.v}
		for _, behind := range []string{"", " ", "\n", "#\""} {
			checkAll(t, c.text+behind, []api.Token{first(api.TokText, c.text, v)})
		}
		checkAll(t, c.text+c.text, []api.Token{
			first(api.TokText, c.text, v),
			{Kind: api.TokText, Text: c.text, V: v, At: place(len(c.text), 1, len(c.text)+1)},
		})
		if value.Print(v) != c.text {
			t.Errorf("%s isn't what value prints", c.text)
		}
	}
	checkTexts(t, `a"b"c`, []int{api.TokWord, api.TokText, api.TokWord}, "a", `"b"`, "c")
	checkTexts(t, `"a\\"b"c"`, []int{api.TokText, api.TokWord, api.TokText}, `"a\\"`, "b", `"c"`)
}

// P8.1: a text in quotes of more than MaxWord bytes: what counts is the value, its place is that of the quote.
func TestQuotedSize(t *testing.T) {
	for n := range 70 {
		for _, unit := range []string{"x", `\"`, `\\`, " "} {
			s := `"` + strings.Repeat(unit, n) + `"`
			if n <= 32 {
				got, e, at := lexer.All(s)
				if len(got) != 1 || len(got[0].V.S) != n || got[0].Text != s || e != api.OK || at != (api.Place{}) {
					t.Errorf("All(%q) = %+v, %d, %+v", s, got, e, at)
				}
				continue
			}
			checkFault(t, s, api.ErrBig, place(0, 1, 1))
			checkFault(t, "\n "+s+" A", api.ErrBig, place(2, 2, 2))
		}
	}
	checkFault(t, `"`+full+`\""`, api.ErrBig, place(0, 1, 1))
	checkFault(t, `"`+full+`\\"`, api.ErrBig, place(0, 1, 1))
	checkFault(t, `"`+strings.Repeat("x", api.MaxText-2)+`"`, api.ErrBig, place(0, 1, 1))
}

// P8.1: a text that ends within quotes, or behind a \ within them: the place is the text's end.
func TestQuotedEnd(t *testing.T) {
	for _, s := range []string{
		`"`, `"a`, `"\`, `"\"`, `"\\`, `"\\\`, `"\\\"`, `"a\"`, `"\a`, `"#`, `"` + full, `"` + full + full, `"` + full + `a\"`, "\"\x00", "\"\xff", "\"\\\x7f",
	} {
		checkFault(t, s, api.ErrEnd, place(len(s), 1, len(s)+1))
		checkFault(t, "\n\nx "+s, api.ErrEnd, place(len(s)+4, 3, len(s)+3))
		checkFault(t, `"a" `+s, api.ErrEnd, place(len(s)+4, 1, len(s)+5))
		checkFault(t, s+"\nab", api.ErrEnd, place(len(s)+3, 2, 3))
		checkFault(t, s+"\n", api.ErrEnd, place(len(s)+1, 2, 1))
	}
	checkFault(t, `"""`, api.ErrEnd, place(3, 1, 4))
	checkFault(t, `"\\""`, api.ErrEnd, place(5, 1, 6))
}

// P8.1: the first byte within quotes that may not stand there.
func TestQuotedBytes(t *testing.T) {
	for n := range 256 {
		c := string([]byte{byte(n)})
		plain := n >= 32 && n <= 126 && c != `"` && c != `\`
		s := `"a` + c + `a"`
		switch {
		case plain:
			checkAll(t, s, []api.Token{first(api.TokText, s, value.Text("a"+c+"a"))})
		case c == `"`:
			checkFault(t, s, api.ErrEnd, place(5, 1, 6))
		case c == `\`:
			checkFault(t, s, api.ErrByte, place(3, 1, 4))
		default:
			checkFault(t, s, api.ErrByte, place(2, 1, 3))
			checkFault(t, `"`+c+`"`, api.ErrByte, place(1, 1, 2))
			checkFault(t, `"`+full[1:]+c+`"`, api.ErrByte, place(32, 1, 33))
		}
		s = `"a\` + c + `a"`
		if c == `"` || c == `\` {
			checkAll(t, s, []api.Token{first(api.TokText, s, value.Text("a"+c+"a"))})
		} else {
			checkFault(t, s, api.ErrByte, place(3, 1, 4))
			checkFault(t, "\n"+`"\`+c+`"`, api.ErrByte, place(3, 2, 3))
			checkFault(t, `"\\\`+c+`"`, api.ErrByte, place(4, 1, 5))
		}
	}
	checkFault(t, "\"a\nb\"", api.ErrByte, place(2, 1, 3))
	checkFault(t, "\"a\r\nb\"", api.ErrByte, place(2, 1, 3))
	checkFault(t, "\"é\"", api.ErrByte, place(1, 1, 2))
}

// P8.1: within quotes a missing end comes ahead of a byte that may not be, and that ahead of too many bytes; of bytes the first one.
func TestQuotedOrder(t *testing.T) {
	long := full + full
	checkFault(t, "\"\x00"+long, api.ErrEnd, place(66, 1, 67))
	checkFault(t, `"`+long+"\x00", api.ErrEnd, place(66, 1, 67))
	checkFault(t, `"\a`, api.ErrEnd, place(3, 1, 4))
	checkFault(t, `"\a\"`, api.ErrEnd, place(5, 1, 6))
	checkFault(t, "\"\n", api.ErrEnd, place(2, 2, 1))
	checkFault(t, "\"\n\n x", api.ErrEnd, place(5, 3, 3))
	checkFault(t, `"`+long+"\x00\"", api.ErrByte, place(65, 1, 66))
	checkFault(t, `"`+long+`\a"`, api.ErrByte, place(66, 1, 67))
	checkFault(t, "\"\x00"+long+`"`, api.ErrByte, place(1, 1, 2))
	checkFault(t, "\"ab\x00\x01\"", api.ErrByte, place(3, 1, 4))
	checkFault(t, "\"ab\x01\\a\"", api.ErrByte, place(3, 1, 4))
	checkFault(t, "\"ab\\a\x01\"", api.ErrByte, place(4, 1, 5))
	checkFault(t, "\"ab\n# \"", api.ErrByte, place(3, 1, 4))
	checkFault(t, `"\a\b"`, api.ErrByte, place(2, 1, 3))
	checkFault(t, `"\\\a"`, api.ErrByte, place(4, 1, 5))
	checkFault(t, `"\"a" "\a"`, api.ErrByte, place(8, 1, 9))
	checkFault(t, `"a" A "`, api.ErrByte, place(4, 1, 5))
	checkFault(t, `"`+long+`" A`, api.ErrBig, place(0, 1, 1))
	checkFault(t, `"`+long+`" "`, api.ErrBig, place(0, 1, 1))
}

// one and two are the signs of one byte, and of two.
const one = "{}()[];,.=<+-*/%!"

var two = []string{"&&", "||", "==", "!=", "<=", "++"}

// P8.1: each sign of two bytes, and its first byte alone.
func TestSignsOfTwo(t *testing.T) {
	sign, signs := []int{api.TokSign}, []int{api.TokSign, api.TokSign}
	for _, s := range two {
		checkAll(t, s, []api.Token{first(api.TokSign, s, api.Value{})})
		checkTexts(t, s+s, signs, s, s)
		checkTexts(t, "a"+s+"1", []int{api.TokWord, api.TokSign, api.TokNum}, "a", s, "1")
		half := s[:1]
		if half == "&" || half == "|" {
			for _, behind := range []string{"", " ", " " + half, "\n" + half, "a", "=", "#" + half} {
				checkFault(t, half+behind, api.ErrByte, place(0, 1, 1))
				checkFault(t, s+half+behind, api.ErrByte, place(2, 1, 3))
				checkFault(t, " \n a "+half+behind, api.ErrByte, place(5, 2, 4))
			}
			continue
		}
		checkAll(t, half, []api.Token{first(api.TokSign, half, api.Value{})})
		checkTexts(t, half+" "+s[1:], signs, half, s[1:])
		checkTexts(t, half+"\n"+s[1:], signs, half, s[1:])
		checkTexts(t, half+"#"+s, sign, half)
	}
	checkTexts(t, "===", signs, "==", "=")
	checkTexts(t, "!==", signs, "!=", "=")
	checkTexts(t, "<==", signs, "<=", "=")
	checkTexts(t, "+++", signs, "++", "+")
	checkTexts(t, "=<", signs, "=", "<")
	checkTexts(t, "=!", signs, "=", "!")
	checkTexts(t, "--", signs, "-", "-")
	checkTexts(t, "!!", signs, "!", "!")
	checkTexts(t, "<<", signs, "<", "<")
	checkTexts(t, "<-", signs, "<", "-")
	checkTexts(t, "+=", signs, "+", "=")
	checkTexts(t, "/*", signs, "/", "*")
	checkTexts(t, "//", signs, "/", "/")
	checkFault(t, "&|", api.ErrByte, place(0, 1, 1))
	checkFault(t, "|&", api.ErrByte, place(0, 1, 1))
	checkFault(t, "<>", api.ErrByte, place(1, 1, 2))
}

// P8.1: any two signs of one byte are two, but where they are one of two bytes.
func TestSignsOfOne(t *testing.T) {
	for _, a := range strings.Split(one, "") {
		checkAll(t, a, []api.Token{first(api.TokSign, a, api.Value{})})
		for _, b := range strings.Split(one, "") {
			want := []api.Token{first(api.TokSign, a, api.Value{}), {Kind: api.TokSign, Text: b, At: place(1, 1, 2)}}
			if slices.Contains(two, a+b) {
				want = []api.Token{first(api.TokSign, a+b, api.Value{})}
			}
			checkAll(t, a+b, want)
		}
	}
}

// P8.1: which bytes are blanks, begin a token, or none, whatever is ahead of them.
func TestBytes(t *testing.T) {
	for n := range 256 {
		c := string([]byte{byte(n)})
		for _, ahead := range []string{"", " ", ";", "x ", "\"a\"", "#\xff&\n", "{\n\t"} {
			before, _, _ := lexer.All(ahead)
			at := lexer.At(ahead, len(ahead))
			switch {
			case strings.Contains(" \t\n\r#", c):
				checkAll(t, ahead+c, before)
			case c >= "a" && c <= "z":
				checkAll(t, ahead+c, append(before, api.Token{Kind: api.TokWord, Text: c, At: at}))
			case c >= "0" && c <= "9":
				checkAll(t, ahead+c, append(before, api.Token{Kind: api.TokNum, Text: c, V: value.Int(int64(n - '0')), At: at}))
			case strings.Contains(one, c):
				checkAll(t, ahead+c, append(before, api.Token{Kind: api.TokSign, Text: c, At: at}))
			case c == `"`:
				checkFault(t, ahead+c, api.ErrEnd, place(at.Off+1, at.Line, at.Col+1))
			default:
				checkFault(t, ahead+c, api.ErrByte, at)
				checkFault(t, ahead+c+" A\"", api.ErrByte, at)
			}
		}
	}
	for _, s := range []string{"é", "\u00a0", "\ufeff", "\u2028", "“a”", "\xc3\x28", "_a", "A", "\\", "'a'", "`", "$", "@", "?", ":", ">", "^", "~", "\v", "\f", "\x00"} {
		checkFault(t, s, api.ErrByte, place(0, 1, 1))
		checkFault(t, "x\n "+s, api.ErrByte, place(3, 2, 2))
	}
}

// P8.1: a note that a line end ends, and one that the text's end ends; whatever stands in it.
func TestNotes(t *testing.T) {
	for _, n := range []string{"", " ", "a", "A", "#", "\"", "\"a", "\\", "&", "00", "\r", "\t", "\x00", "\x7f", "\xff", "é", strings.Repeat("x", 100)} {
		checkAll(t, "#"+n, nil)
		checkAll(t, "#"+n+"\n", nil)
		checkAll(t, "a#"+n, []api.Token{first(api.TokWord, "a", api.Value{})})
		checkAll(t, "#"+n+"\n#"+n+"\n\n b", []api.Token{{Kind: api.TokWord, Text: "b", At: place(2*len(n)+6, 4, 2)}})
		checkAll(t, "#"+n+"\nb", []api.Token{{Kind: api.TokWord, Text: "b", At: place(len(n)+2, 2, 1)}})
	}
	// A \r is a blank, no line end.
	checkAll(t, "# a\rb", nil)
	checkAll(t, "\"#\" # \"", []api.Token{first(api.TokText, "\"#\"", value.Text("#"))})
	checkFault(t, "\"#\n\"", api.ErrByte, place(2, 1, 3))
	checkFault(t, "# a\n A", api.ErrByte, place(5, 2, 2))
}

// P8.1: the first error is told, and no token with it.
func TestFirstError(t *testing.T) {
	faults := []struct {
		text string
		e    api.Errno
	}{
		{"xxxxxxxxxxxxxxxxx", api.ErrBig},
		{"00", api.ErrNum},
		{"9223372036854775808", api.ErrNum},
		{"A", api.ErrByte},
		{"&", api.ErrByte},
		{`"` + full + `a"`, api.ErrBig},
	}
	for _, a := range faults {
		for _, b := range faults {
			checkFault(t, a.text+" "+b.text, a.e, place(0, 1, 1))
			checkFault(t, "a 1 \"b\" ;\n"+a.text+"\n"+b.text, a.e, place(10, 2, 1))
		}
		checkFault(t, a.text+` "`, a.e, place(0, 1, 1))
		checkFault(t, a.text+` "\a"`, a.e, place(0, 1, 1))
		checkFault(t, `"\a" `+a.text, api.ErrByte, place(2, 1, 3))
		open := `"` + strings.Trim(a.text, `"`)
		checkFault(t, open, api.ErrEnd, place(len(open), 1, len(open)+1))
	}
}

func checkAt(t *testing.T, text string, off int, want api.Place) {
	t.Helper()
	if got := lexer.At(text, off); got != want {
		t.Errorf("At(%q, %d) = %+v, not %+v", text, off, got, want)
	}
}

// P8.2: At, in lines and at their ends; off below 0, the text's length, and beyond it.
func TestAt(t *testing.T) {
	text := "ab\n\n\tc\r\nd"
	for off, want := range []api.Place{
		place(0, 1, 1), place(1, 1, 2), place(2, 1, 3),
		place(3, 2, 1),
		place(4, 3, 1), place(5, 3, 2), place(6, 3, 3), place(7, 3, 4),
		place(8, 4, 1), place(9, 4, 2),
	} {
		checkAt(t, text, off, want)
	}
	for _, off := range []int{-1, -2, -9, -10, math.MinInt, math.MinInt + 1, math.MinInt32} {
		checkAt(t, text, off, place(0, 1, 1))
		checkAt(t, "\n", off, place(0, 1, 1))
		checkAt(t, "", off, place(0, 1, 1))
	}
	for _, off := range []int{9, 10, 11, 100, math.MaxInt, math.MaxInt - 1, math.MaxInt32} {
		checkAt(t, text, off, place(9, 4, 2))
		checkAt(t, text+"\n", max(off, 10), place(10, 5, 1))
		checkAt(t, "\n", off, place(1, 2, 1))
		checkAt(t, "", off, place(0, 1, 1))
	}
	checkAt(t, "", 0, place(0, 1, 1))
	checkAt(t, "\r\r", 2, place(2, 1, 3))
	checkAt(t, "é\né", 5, place(5, 2, 3))
	checkAt(t, "\xff\x00\n\xff", 4, place(4, 2, 2))
}

// P8.2: At of a text with more than MaxText bytes, which All doesn't take.
func TestAtLong(t *testing.T) {
	text := strings.Repeat("0123456789\n", 2*api.MaxText)
	for _, off := range []int{0, 10, 11, api.MaxText, api.MaxText + 1, 100000, len(text) - 1, len(text)} {
		checkAt(t, text, off, place(off, off/11+1, off%11+1))
	}
	checkAt(t, text, len(text)+5, place(len(text), 2*api.MaxText+1, 1))
	checkAt(t, strings.Repeat(" ", 100000), 70000, place(70000, 1, 70001))
}

// P8.2: Print asks for the Texts alone, and takes any.
func TestPrint(t *testing.T) {
	for _, c := range []struct {
		texts []string
		want  string
	}{
		{nil, ""},
		{[]string{""}, ""},
		{[]string{"a"}, "a"},
		{[]string{"a", "b"}, "a b"},
		{[]string{"x", "=", "\"a b\"", ";"}, "x = \"a b\" ;"},
		{[]string{"", ""}, " "},
		{[]string{"", "a", ""}, " a "},
		{[]string{" ", "\n", "#"}, "  \n #"},
		{[]string{"\xff", "A"}, "\xff A"},
	} {
		var l []api.Token
		for i, s := range c.texts {
			l = append(l, api.Token{Kind: i - 1, Text: s, V: value.Text("v"), At: place(i, i, i)})
		}
		was := slices.Clone(l)
		if got := lexer.Print(l); got != c.want {
			t.Errorf("Print(%+v) = %q, not %q", l, got, c.want)
		}
		if !slices.Equal(l, was) {
			t.Errorf("Print changed %+v into %+v", was, l)
		}
	}
	if got := lexer.Print([]api.Token{}); got != "" {
		t.Errorf("Print of nothing = %q", got)
	}
}

// Rule 4: two answers of one text share nothing.
func TestMemory(t *testing.T) {
	a, _, _ := lexer.All("a b")
	b, _, _ := lexer.All("a b")
	a[0].Text = "x"
	if b[0].Text != "a" {
		t.Error("two answers share their tokens")
	}
}
