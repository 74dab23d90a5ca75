package lexer_test

import (
	"slices"
	"strings"
	"sync"
	"testing"
	"unsafe"

	"pigeonhole/api"
	"pigeonhole/lexer"
)

// short is a text as a message can bear it.
func short(s string) string {
	if len(s) > 60 {
		return s[:40] + ".." + s[len(s)-18:]
	}
	return s
}

func name(s string, line, col int) api.Token {
	return api.Token{Kind: 1, Text: s, Line: line, Col: col}
}

func number(s string, n, line, col int) api.Token {
	return api.Token{Kind: 2, Text: s, N: n, Line: line, Col: col}
}

func sign(s string, line, col int) api.Token {
	return api.Token{Kind: 3, Text: s, Line: line, Col: col}
}

func end(line, col int) api.Token { return api.Token{Kind: 4, Line: line, Col: col} }

// holds tells whether s has the tokens of want, and no error.
func holds(t *testing.T, s string, want ...api.Token) {
	t.Helper()
	l, line, col, e := lexer.Tokens(s)
	if e != api.OK || line != 0 || col != 0 {
		t.Errorf("%q: error %d at %d:%d", short(s), e, line, col)
	} else if !slices.Equal(l, want) {
		t.Errorf("%q: tokens %v, want %v", short(s), l, want)
	}
}

// fails tells whether s has that error at that place, and no tokens.
func fails(t *testing.T, s string, line, col int, want api.Errno) {
	t.Helper()
	l, gotLine, gotCol, e := lexer.Tokens(s)
	if e != want || gotLine != line || gotCol != col {
		t.Errorf("%q: error %d at %d:%d, want %d at %d:%d", short(s), e, gotLine, gotCol, want, line, col)
	}
	if len(l) != 0 {
		t.Errorf("%q: %d tokens beside error %d", short(s), len(l), e)
	}
}

func TestP201Ordinary(t *testing.T) {
	holds(t, "reg a 8", name("reg", 1, 1), name("a", 1, 5), number("8", 8, 1, 7), end(1, 8))
	holds(t, "machine m {\n  reg a 8\n  slots 3\n}\n",
		name("machine", 1, 1), name("m", 1, 9), sign("{", 1, 11),
		name("reg", 2, 3), name("a", 2, 7), number("8", 8, 2, 9),
		name("slots", 3, 3), number("3", 3, 3, 9),
		sign("}", 4, 1), end(5, 1))
	holds(t, "op add r:ax = r r tie 0 # a note\n",
		name("op", 1, 1), name("add", 1, 4), name("r", 1, 8), sign(":", 1, 9), name("ax", 1, 10), sign("=", 1, 13),
		name("r", 1, 15), name("r", 1, 17), name("tie", 1, 19), number("0", 0, 1, 23), end(2, 1))
}

func TestP201Names(t *testing.T) {
	for _, s := range []string{"a", "z", "A", "Z", "_", "__", "_0", "a0", "z9", "aZ_9", "A1b2_", "x0y", "machine", "tie", strings.Repeat("b", 19), strings.Repeat("_", 20), "a" + strings.Repeat("9", 19), strings.Repeat("Z", 20)} {
		holds(t, s, name(s, 1, 1), end(1, len(s)+1))
		holds(t, s+" "+s, name(s, 1, 1), name(s, 1, len(s)+2), end(1, 2*len(s)+2))
	}
	for _, c := range []byte("abcdefghijklmnopqrstuvwxyzABCDEFGHIJKLMNOPQRSTUVWXYZ_") {
		b := string([]byte{c})
		holds(t, b, name(b, 1, 1), end(1, 2))
		holds(t, "a"+b, name("a"+b, 1, 1), end(1, 3))
	}
	for n, c := range []byte("0123456789") {
		b := string([]byte{c})
		holds(t, b, number(b, n, 1, 1), end(1, 2))
		holds(t, "a"+b, name("a"+b, 1, 1), end(1, 3))
	}
}

func TestP201LongNames(t *testing.T) {
	for _, s := range []string{strings.Repeat("a", 21), strings.Repeat("_", 40), "a" + strings.Repeat("0", 20), strings.Repeat("a", api.MaxText)} {
		fails(t, s, 1, 1, api.ErrLong)
	}
	fails(t, "x "+strings.Repeat("a", 21)+" y", 1, 3, api.ErrLong)
	fails(t, "x\n\n {"+strings.Repeat("a", 21)+"}", 3, 3, api.ErrLong)
	twenty := strings.Repeat("q", 20)
	holds(t, twenty+"\n"+twenty, name(twenty, 1, 1), name(twenty, 2, 1), end(2, 21))
	holds(t, twenty+":"+twenty, name(twenty, 1, 1), sign(":", 1, 21), name(twenty, 1, 22), end(1, 42))
	holds(t, twenty+"#q", name(twenty, 1, 1), end(1, 23))
}

func TestP201Numbers(t *testing.T) {
	for _, x := range []struct {
		s string
		n int
	}{{"0", 0}, {"7", 7}, {"10", 10}, {"007", 7}, {"000000", 0}, {"000001", 1}, {"010", 10}, {"99999", 99999}, {"999999", 999999}, {"123456", 123456}, {"100000", 100000}, {"012345", 12345}, {"808080", 808080}} {
		holds(t, x.s, number(x.s, x.n, 1, 1), end(1, len(x.s)+1))
		holds(t, " "+x.s+"\n", number(x.s, x.n, 1, 2), end(2, 1))
	}
	holds(t, "1 2", number("1", 1, 1, 1), number("2", 2, 1, 3), end(1, 4))
	holds(t, "12=3", number("12", 12, 1, 1), sign("=", 1, 3), number("3", 3, 1, 4), end(1, 5))
	holds(t, "123456#7a", number("123456", 123456, 1, 1), end(1, 10))
	holds(t, "123456\n7", number("123456", 123456, 1, 1), number("7", 7, 2, 1), end(2, 2))
	holds(t, "1\na", number("1", 1, 1, 1), name("a", 2, 1), end(2, 2))
	holds(t, "a1 1", name("a1", 1, 1), number("1", 1, 1, 4), end(1, 5))
}

func TestP201LongNumbers(t *testing.T) {
	for _, s := range []string{"1234567", "0000000", "0000001", "10000000000000000000000", strings.Repeat("1", api.MaxText)} {
		fails(t, s, 1, 1, api.ErrLong)
	}
	fails(t, "x 1234567 y", 1, 3, api.ErrLong)
	fails(t, "x\n{1234567}", 2, 2, api.ErrLong)
	fails(t, "1234567\n", 1, 1, api.ErrLong)
	fails(t, "1234567#a", 1, 1, api.ErrLong)
	fails(t, "1234567\na", 1, 1, api.ErrLong)
	fails(t, "1234567 a", 1, 1, api.ErrLong)
}

func TestP201LetterBehindDigits(t *testing.T) {
	fails(t, "1a", 1, 2, api.ErrSyntax)
	fails(t, "1_", 1, 2, api.ErrSyntax)
	fails(t, "9Z", 1, 2, api.ErrSyntax)
	fails(t, "0x10", 1, 2, api.ErrSyntax)
	fails(t, "1e5", 1, 2, api.ErrSyntax)
	fails(t, "123456a", 1, 7, api.ErrSyntax)
	fails(t, "a\n 1b", 2, 3, api.ErrSyntax)
	fails(t, "reg a 8b 9c", 1, 8, api.ErrSyntax)
	// The letter is told ahead of the digits' number, however many these are.
	fails(t, "1234567a", 1, 8, api.ErrSyntax)
	fails(t, "x 12345678901234567890_", 1, 23, api.ErrSyntax)
	fails(t, "1"+strings.Repeat("a", 21), 1, 2, api.ErrSyntax)
	fails(t, strings.Repeat("0", api.MaxText-1)+"z", 1, api.MaxText, api.ErrSyntax)
	// What is not a letter is none.
	fails(t, "1234567,", 1, 1, api.ErrLong)
	fails(t, "1234567\xe9", 1, 1, api.ErrLong)
	fails(t, "123456,", 1, 7, api.ErrSyntax)
	fails(t, "1.5", 1, 2, api.ErrSyntax)
}

func TestP201Signs(t *testing.T) {
	holds(t, "{}=:", sign("{", 1, 1), sign("}", 1, 2), sign("=", 1, 3), sign(":", 1, 4), end(1, 5))
	holds(t, "==", sign("=", 1, 1), sign("=", 1, 2), end(1, 3))
	holds(t, ":=\n{ }", sign(":", 1, 1), sign("=", 1, 2), sign("{", 2, 1), sign("}", 2, 3), end(2, 4))
	holds(t, "a:b=c{d}", name("a", 1, 1), sign(":", 1, 2), name("b", 1, 3), sign("=", 1, 4), name("c", 1, 5), sign("{", 1, 6), name("d", 1, 7), sign("}", 1, 8), end(1, 9))
	holds(t, "}{", sign("}", 1, 1), sign("{", 1, 2), end(1, 3))
}

func TestP201BlanksAndLines(t *testing.T) {
	holds(t, "", end(1, 1))
	holds(t, " ", end(1, 2))
	holds(t, "\n", end(2, 1))
	holds(t, "\n\n\n  ", end(4, 3))
	holds(t, "a\n", name("a", 1, 1), end(2, 1))
	holds(t, "\t\r\n x", name("x", 2, 2), end(2, 3))
	holds(t, "a\r\nb\r\n", name("a", 1, 1), name("b", 2, 1), end(3, 1))
	holds(t, "a\tb", name("a", 1, 1), name("b", 1, 3), end(1, 4)) // a tab is one byte
	holds(t, "1 \t\r 2", number("1", 1, 1, 1), number("2", 2, 1, 6), end(1, 7))
	holds(t, "\n a\n  b\n\n   c", name("a", 2, 2), name("b", 3, 3), name("c", 5, 4), end(5, 5))
	holds(t, strings.Repeat("\n", 300)+"a", name("a", 301, 1), end(301, 2))
	holds(t, strings.Repeat(" ", 300)+"a", name("a", 1, 301), end(1, 302))
}

func TestP201CarriageReturnAlone(t *testing.T) {
	holds(t, "\r", end(1, 2))
	holds(t, "a\rb", name("a", 1, 1), name("b", 1, 3), end(1, 4))
	holds(t, "1\ra", number("1", 1, 1, 1), name("a", 1, 3), end(1, 4))
	holds(t, "#a\rb", end(1, 5))
	holds(t, "#a\rb\nc", name("c", 2, 1), end(2, 2))
	holds(t, "\r\r\n\r", end(2, 2))
	fails(t, "a\r,", 1, 3, api.ErrSyntax)
	fails(t, "a\n\r,", 2, 2, api.ErrSyntax)
}

func TestP201Comments(t *testing.T) {
	holds(t, "#", end(1, 2))
	holds(t, "##", end(1, 3))
	holds(t, "# to the text's end", end(1, 20))
	holds(t, "#\n", end(2, 1))
	holds(t, "a # b\n_c1 007", name("a", 1, 1), name("_c1", 2, 1), number("007", 7, 2, 5), end(2, 8))
	holds(t, "a#b", name("a", 1, 1), end(1, 4))
	holds(t, "8#b", number("8", 8, 1, 1), end(1, 4))
	holds(t, "{#}\n}", sign("{", 1, 1), sign("}", 2, 1), end(2, 2))
	holds(t, "# a # b\nc # d", name("c", 2, 1), end(2, 6))
	// Nothing within a comment is looked at, bytes that are no character neither.
	holds(t, "#,;1a1234567"+strings.Repeat("x", 30)+"\na", name("a", 2, 1), end(2, 2))
	holds(t, "#\x00\x01\x7f\x80\xff\na", name("a", 2, 1), end(2, 2))
	holds(t, "# é", end(1, 5)) // two bytes, two columns
	holds(t, "#"+strings.Repeat("z", api.MaxText-1), end(1, api.MaxText+1))
	fails(t, "# a\n,", 2, 1, api.ErrSyntax)
	fails(t, "#\x00\n\x00", 2, 1, api.ErrSyntax)
}

func TestP201BytesThatAreNoTokens(t *testing.T) {
	some := " \t\r\n#{}=:_abcdefghijklmnopqrstuvwxyzABCDEFGHIJKLMNOPQRSTUVWXYZ0123456789"
	none := 0
	for c := range 256 {
		b := string([]byte{byte(c)})
		if strings.Contains(some, b) {
			if _, _, _, e := lexer.Tokens(b); e != api.OK {
				t.Errorf("%q: error %d", b, e)
			}
			continue
		}
		none++
		fails(t, b, 1, 1, api.ErrSyntax)
		fails(t, "a"+b, 1, 2, api.ErrSyntax)
		fails(t, "12"+b+"a", 1, 3, api.ErrSyntax)
		fails(t, "{ }\n x "+b+" 1a", 2, 4, api.ErrSyntax)
		fails(t, "# note\n\n\t"+b, 3, 2, api.ErrSyntax)
	}
	if none != 256-len(some) {
		t.Errorf("%d bytes are no token's", none)
	}
	fails(t, "é", 1, 1, api.ErrSyntax)
	fails(t, "aé", 1, 2, api.ErrSyntax)
	fails(t, "\ufeffmachine", 1, 1, api.ErrSyntax)
	fails(t, "a\u00a0b", 1, 2, api.ErrSyntax)
	fails(t, "٣", 1, 1, api.ErrSyntax)
	fails(t, "a\vb", 1, 2, api.ErrSyntax)
	fails(t, "a\fb", 1, 2, api.ErrSyntax)
	fails(t, "slots -1", 1, 7, api.ErrSyntax)
}

func TestP201FirstError(t *testing.T) {
	long := strings.Repeat("a", 21)
	fails(t, ", "+long+" 1a", 1, 1, api.ErrSyntax)
	fails(t, long+" , 1a", 1, 1, api.ErrLong)
	fails(t, long+",", 1, 1, api.ErrLong)
	fails(t, "1234567 "+long, 1, 1, api.ErrLong)
	fails(t, "1234567,", 1, 1, api.ErrLong)
	fails(t, "1a 1234567", 1, 2, api.ErrSyntax)
	fails(t, "ok\nok ,\n"+long, 2, 4, api.ErrSyntax)
	fails(t, "ok\nok "+long+"\n,", 2, 4, api.ErrLong)
	fails(t, "a\n\n 1234567 ,\n ;", 3, 2, api.ErrLong)
}

func TestP201LongText(t *testing.T) {
	holds(t, strings.Repeat(" ", api.MaxText), end(1, api.MaxText+1))
	holds(t, strings.Repeat("\n", api.MaxText), end(api.MaxText+1, 1))
	fails(t, strings.Repeat(" ", api.MaxText+1), 1, 1, api.ErrLong)
	fails(t, strings.Repeat("\n", api.MaxText+1), 1, 1, api.ErrLong)
	fails(t, "#"+strings.Repeat("\n", api.MaxText), 1, 1, api.ErrLong)
	// The text is told to be too long ahead of any other error in it.
	fails(t, "\n , 1a"+strings.Repeat(" ", api.MaxText), 1, 1, api.ErrLong)
	fails(t, strings.Repeat("\n", api.MaxText)+",", 1, 1, api.ErrLong)
	fails(t, strings.Repeat("é", api.MaxText/2)+" ", 1, 1, api.ErrLong)
	fails(t, "#"+strings.Repeat("é", api.MaxText/2)[1:]+"\n", 1, 1, api.ErrLong)
	fails(t, strings.Repeat("\n", api.MaxText-1)+",", api.MaxText, 1, api.ErrSyntax)
	fails(t, strings.Repeat(" ", api.MaxText-1)+",", 1, api.MaxText, api.ErrSyntax)
	fails(t, strings.Repeat(" ", 1<<20), 1, 1, api.ErrLong)
	many := strings.Repeat("{", api.MaxText)
	l, _, _, e := lexer.Tokens(many)
	if e != api.OK || len(l) != api.MaxText+1 {
		t.Fatalf("%d signs, error %d", len(l), e)
	}
	for i, x := range l[:api.MaxText] {
		if x != sign("{", 1, i+1) {
			t.Fatalf("sign %d is %v", i, x)
		}
	}
	if l[api.MaxText] != end(1, api.MaxText+1) {
		t.Errorf("the end is %v", l[api.MaxText])
	}
}

// model reads a text byte by byte, by states, and tells what Tokens tells.
type model struct {
	l         []api.Token
	now       api.Token // what is being read; of kind 0: nothing
	comment   bool
	line, col int
	bad       api.Token
	err       api.Errno
}

func (m *model) fail(line, col int, e api.Errno) {
	if m.err == api.OK {
		m.bad, m.err = api.Token{Line: line, Col: col}, e
	}
}

func (m *model) close() {
	switch {
	case m.now.Kind == 0:
		return
	case m.now.Kind == 1 && len(m.now.Text) > 20, m.now.Kind == 2 && len(m.now.Text) > 6:
		m.fail(m.now.Line, m.now.Col, api.ErrLong)
	}
	m.l, m.now = append(m.l, m.now), api.Token{}
}

func (m *model) take(c byte) {
	letter := c == '_' || c|32 >= 'a' && c|32 <= 'z'
	digit := c-'0' < 10
	switch {
	case m.comment && c != '\n':
	case m.now.Kind == 2 && letter:
		m.fail(m.line, m.col, api.ErrSyntax)
	case m.now.Kind == 1 && (letter || digit), m.now.Kind == 2 && digit:
		m.now.Text += string([]byte{c})
		if m.now.Kind == 2 {
			m.now.N = m.now.N*10 + int(c-'0')
		}
	default:
		m.close()
		m.begin(c, letter, digit)
	}
	m.col++
	if c == '\n' {
		m.line, m.col = m.line+1, 1
	}
}

func (m *model) begin(c byte, letter, digit bool) {
	m.comment = c == '#'
	m.now = api.Token{Text: string([]byte{c}), Line: m.line, Col: m.col}
	switch {
	case letter:
		m.now.Kind = 1
	case digit:
		m.now.Kind, m.now.N = 2, int(c-'0')
	case c == '{' || c == '}' || c == '=' || c == ':':
		m.now.Kind = 3
		m.close()
	default:
		m.now = api.Token{}
		if c != '#' && c != ' ' && c != '\t' && c != '\r' && c != '\n' {
			m.fail(m.line, m.col, api.ErrSyntax)
		}
	}
}

func modelTokens(s string) ([]api.Token, int, int, api.Errno) {
	m := model{line: 1, col: 1}
	for i := 0; i < len(s) && m.err == api.OK; i++ {
		m.take(s[i])
	}
	m.close()
	if m.err != api.OK {
		return nil, m.bad.Line, m.bad.Col, m.err
	}
	return append(m.l, end(m.line, m.col)), 0, 0, api.OK
}

// asModel tells whether s is read as the model reads it.
func asModel(t *testing.T, s string) {
	t.Helper()
	want, line, col, e := modelTokens(s)
	if e != api.OK {
		fails(t, s, line, col, e)
		return
	}
	holds(t, s, want...)
}

// steps is a row of numbers that is the same on every run.
type steps uint64

func (s *steps) next(below int) int {
	*s = *s*6364136223846793005 + 1442695040888963407
	return int(uint64(*s)>>33) % below
}

func TestP201AgainstModel(t *testing.T) {
	parts := []string{"a", "Z", "_", "0", "9", "{", "}", "=", ":", " ", "\t", "\r", "\n", "#", "reg", "slots", "12345", "123456", strings.Repeat("n", 19), " ", "\n", "  ", " a ", " 7 "}
	wrong := []string{",", "\x00", "\x7f", "é", "\xff", "\v", "1a", "1234567", strings.Repeat("m", 21), "-"}
	s := steps(11)
	good, bad := 0, 0
	for range 20000 {
		var b strings.Builder
		for range s.next(30) {
			b.WriteString(parts[s.next(len(parts))])
			if s.next(120) == 0 {
				b.WriteString(wrong[s.next(len(wrong))])
			}
		}
		if _, _, _, e := modelTokens(b.String()); e == api.OK {
			good++
		} else {
			bad++
		}
		if asModel(t, b.String()); t.Failed() {
			return
		}
	}
	if good < 3000 || bad < 3000 {
		t.Errorf("%d texts without an error, %d with one: one of them too few", good, bad)
	}
}

// TestP201ShortTexts reads every text of up to 4 bytes that are unlike for the lexer.
func TestP201ShortTexts(t *testing.T) {
	const bytes = "a_0{: \r\n#,\xc3"
	texts := []string{""}
	for range 4 {
		for _, s := range texts {
			for i := range len(bytes) {
				texts = append(texts, s+bytes[i:i+1])
			}
		}
		slices.Sort(texts)
		texts = slices.Compact(texts)
	}
	for _, s := range texts {
		if asModel(t, s); t.Failed() {
			return
		}
	}
}

func TestP202SameAnswers(t *testing.T) {
	texts := []string{"reg a 8", "", "a ,", "{ 12 }\n#x\n y", strings.Repeat("a", 21), strings.Repeat(" ", api.MaxText+1), "1a"}
	for range 3 {
		for i, s := range texts {
			l, line, col, e := lexer.Tokens(s)
			lexer.Tokens(texts[(i+1)%len(texts)])
			k, line2, col2, e2 := lexer.Tokens(strings.Clone(s))
			if !slices.Equal(l, k) || line != line2 || col != col2 || e != e2 {
				t.Errorf("%q is told in two ways", short(s))
			}
		}
	}
}

func TestP202AnswersAreNew(t *testing.T) {
	s := "reg a 8 {"
	want := []api.Token{name("reg", 1, 1), name("a", 1, 5), number("8", 8, 1, 7), sign("{", 1, 9), end(1, 10)}
	l, _, _, _ := lexer.Tokens(s)
	k, _, _, _ := lexer.Tokens(s)
	for i := range l {
		l[i] = api.Token{Kind: 9, Text: "gone"}
	}
	l = append(l[:2], api.Token{Kind: 8}, api.Token{Kind: 7})
	if !slices.Equal(k, want) {
		t.Errorf("two answers share memory: %v", k)
	}
	holds(t, s, want...)
	if len(l) != 4 {
		t.Error("an answer that went on")
	}
}

func TestP202TextsAreNotKept(t *testing.T) {
	s := strings.Repeat("reg a 123456 { ", 20)
	from := uintptr(unsafe.Pointer(unsafe.StringData(s)))
	l, _, _, _ := lexer.Tokens(s)
	for _, x := range l {
		if len(x.Text) < 2 {
			continue // the text of one byte may be the language's own
		}
		if p := uintptr(unsafe.Pointer(unsafe.StringData(x.Text))); from <= p && p < from+uintptr(len(s)) {
			t.Fatalf("%v holds the text that was handed in", x)
		}
	}
}

func TestP202AtOneTime(t *testing.T) {
	texts := []string{"reg a 8", "a ,", "{ 12 }\n#x\n y", "x\n1234567"}
	var wait sync.WaitGroup
	fault := make([]bool, 8)
	for i := range fault {
		wait.Go(func() {
			for n := range 200 {
				s := texts[(n+i)%len(texts)]
				want, wantLine, wantCol, wantE := modelTokens(s)
				l, line, col, e := lexer.Tokens(s)
				fault[i] = fault[i] || !slices.Equal(l, want) || line != wantLine || col != wantCol || e != wantE
			}
		})
	}
	wait.Wait()
	if slices.Contains(fault, true) {
		t.Error("texts that are read at one time are told otherwise")
	}
}
