package tests

import (
	"regexp"
	"slices"
	"strconv"
	"strings"
	"testing"

	"loop.example/g00521/impl"
)

const allSigns = "{}:;.,>@!*="
const formNumber = `(0|-?[1-9][0-9]{0,8})`
const formName = `[a-z][a-z0-9-]*`

// tokenForms tell whole tokens by their form alone. TkBad has none: it is one byte that no other form takes.
var tokenForms = map[int64]*regexp.Regexp{
	impl.TkName:   regexp.MustCompile(`\A()(` + formName + `)\z`),
	impl.TkNumber: regexp.MustCompile(`\A` + formNumber + `()\z`),
	impl.TkUnit:   regexp.MustCompile(`\A` + formNumber + `(` + formName + `|%)\z`),
	impl.TkColor:  regexp.MustCompile(`\A()#([0-9a-f]{6}|[0-9a-f]{8})\z`),
	impl.TkSpace:  regexp.MustCompile(`\A()()[ \n]+\z`),
	impl.TkSign:   regexp.MustCompile(`\A()([{}:;.,>@!*=])\z`),
}

var runOfSpaces = regexp.MustCompile(`[ \n]+`)

// tokenPieces make every Kind, whole and begun, with what may come to lie beside it.
var tokenPieces = []string{
	"a", "px", "z-9-", "-", "A", "0", "7", "-5", "-0", "99999999", "1234567890", "%", "#", "#ff00aa", "#0123abcd", "f",
	" ", "\n", " \n ", "{", "=", "?", "\x00", "\xff", "\u00e9",
}

func aName(s string) impl.Token { return impl.Token{Kind: impl.TkName, Text: s} }

func aNumber(n int64) impl.Token { return impl.Token{Kind: impl.TkNumber, Number: n} }

func aUnit(n int64, s string) impl.Token { return impl.Token{Kind: impl.TkUnit, Text: s, Number: n} }

func aColor(s string) impl.Token { return impl.Token{Kind: impl.TkColor, Text: s} }

func aSign(s string) impl.Token { return impl.Token{Kind: impl.TkSign, Text: s} }

func aBad(s string) impl.Token { return impl.Token{Kind: impl.TkBad, Text: s} }

var aSpace = impl.Token{Kind: impl.TkSpace}

func byteText(b int) string { return string([]byte{byte(b)}) }

// tokenOfForm is the token that is all of s, where s is of one of the forms.
func tokenOfForm(s string) (impl.Token, bool) {
	for kind, form := range tokenForms {
		if parts := form.FindStringSubmatch(s); parts != nil {
			n, _ := strconv.ParseInt(parts[1], 10, 64)
			return impl.Token{Kind: kind, Text: parts[2], Number: n}, true
		}
	}
	return impl.Token{}, false
}

// tokensByForm tries the longest piece first, at each place.
func tokensByForm(s string) []impl.Token {
	list := []impl.Token{}
	for at := 0; at < len(s); {
		one, end := aBad(s[at:at+1]), at+1
		for to := len(s); to > at; to-- {
			if whole, is := tokenOfForm(s[at:to]); is {
				one, end = whole, to
				break
			}
		}
		list, at = append(list, one), end
	}
	return list
}

// okByForm asks each Kind by its own words, without cutting a text.
func okByForm(t impl.Token) bool {
	isNumber := t.Number >= -999999999 && t.Number <= 999999999
	isName := tokenForms[impl.TkName].MatchString(t.Text)
	switch t.Kind {
	case impl.TkName:
		return isName && t.Number == 0
	case impl.TkNumber:
		return isNumber && t.Text == ""
	case impl.TkUnit:
		return isNumber && (isName || t.Text == "%")
	case impl.TkColor:
		return tokenForms[impl.TkColor].MatchString("#"+t.Text) && t.Number == 0
	case impl.TkSpace:
		return t.Text == "" && t.Number == 0
	case impl.TkSign:
		return len(t.Text) == 1 && strings.Contains(allSigns, t.Text) && t.Number == 0
	case impl.TkBad:
		_, other := tokenOfForm(t.Text)
		return len(t.Text) == 1 && !other && t.Number == 0
	}
	return false
}

func wantTokenOk(t *testing.T, token impl.Token, want bool) {
	t.Helper()
	if got := impl.TokenOk(token); got != want {
		t.Errorf("TokenOk(%#v) = %t", token, got)
	}
}

func wantOkByForm(t *testing.T, token impl.Token) {
	t.Helper()
	wantTokenOk(t, token, okByForm(token))
}

func wantTokens(t *testing.T, s string, want ...impl.Token) {
	t.Helper()
	if got := impl.TokensOf(s); !slices.Equal(got, want) {
		t.Errorf("TokensOf(%.80q) = %#v, want %#v", s, got, want)
	}
}

func wantText(t *testing.T, list []impl.Token, want string) {
	t.Helper()
	if got := impl.TextOf(list); got != want {
		t.Errorf("TextOf(%#v) = %.80q, want %.80q", list, got, want)
	}
}

func wantSqueezed(t *testing.T, list []impl.Token, want ...impl.Token) {
	t.Helper()
	if got := impl.Squeezed(list); !slices.Equal(got, want) {
		t.Errorf("Squeezed(%#v) = %#v, want %#v", list, got, want)
	}
}

// wantPromise is promise 5 for one text, and what Squeezed makes of its tokens.
func wantPromise(t *testing.T, s string) {
	t.Helper()
	list := impl.TokensOf(s)
	oneBlank := runOfSpaces.ReplaceAllString(s, " ")
	if got := impl.TextOf(list); got != oneBlank {
		t.Errorf("TextOf(TokensOf(%.80q)) = %.80q, want %.80q", s, got, oneBlank)
	}
	if again := impl.TokensOf(oneBlank); !slices.Equal(again, list) {
		t.Errorf("TokensOf(%.80q) = %#v, but of %.80q it is %#v", s, list, oneBlank, again)
	}
	wantSqueezed(t, list, impl.TokensOf(strings.Trim(oneBlank, " "))...)
}

// wantAllByForm is the promise, and that each token is right and the longest one at its place.
func wantAllByForm(t *testing.T, s string) {
	t.Helper()
	wantPromise(t, s)
	wantTokens(t, s, tokensByForm(s)...)
	for _, one := range impl.TokensOf(s) {
		wantTokenOk(t, one, true)
	}
}

// eachRow goes through all rows of that many of the pieces.
func eachRow(pieces []string, many int, ahead string, do func(string)) {
	if many == 0 {
		do(ahead)
		return
	}
	for _, piece := range pieces {
		eachRow(pieces, many-1, ahead+piece, do)
	}
}

func TestNumbersOfTokens(t *testing.T) {
	got := [...]int64{impl.TkName, impl.TkNumber, impl.TkUnit, impl.TkColor, impl.TkSpace, impl.TkSign, impl.TkBad, impl.MaxSheet}
	if got != [...]int64{1, 2, 3, 4, 5, 6, 7, 4000} {
		t.Fatal(got)
	}
}

func TestTokensOfNames(t *testing.T) {
	wantTokens(t, "a", aName("a"))
	wantTokens(t, "z9", aName("z9"))
	wantTokens(t, "turn-back", aName("turn-back"))
	wantTokens(t, "a--5-", aName("a--5-"))
	wantTokens(t, "a-5", aName("a-5"))
	wantTokens(t, "a007", aName("a007"))
	wantTokens(t, "-a", aBad("-"), aName("a"))
	wantTokens(t, "--a", aBad("-"), aBad("-"), aName("a"))
	wantTokens(t, "abCde", aName("ab"), aBad("C"), aName("de"))
	wantTokens(t, "Abc", aBad("A"), aName("bc"))
	wantTokens(t, "ab cd", aName("ab"), aSpace, aName("cd"))
	wantTokens(t, "ab:cd", aName("ab"), aSign(":"), aName("cd"))
	wantTokens(t, "ab%", aName("ab"), aBad("%"))
	wantTokens(t, "ab_c", aName("ab"), aBad("_"), aName("c"))
	wantTokens(t, "a#ff00aa", aName("a"), aColor("ff00aa"))
	wantTokens(t, "n\u00e9", aName("n"), aBad("\xc3"), aBad("\xa9"))
}

func TestTokensOfNumbers(t *testing.T) {
	wantTokens(t, "0", aNumber(0))
	wantTokens(t, "7", aNumber(7))
	wantTokens(t, "-7", aNumber(-7))
	wantTokens(t, "100", aNumber(100))
	wantTokens(t, "007", aNumber(0), aNumber(0), aNumber(7))
	wantTokens(t, "00", aNumber(0), aNumber(0))
	wantTokens(t, "-0", aBad("-"), aNumber(0))
	wantTokens(t, "-07", aBad("-"), aNumber(0), aNumber(7))
	wantTokens(t, "-", aBad("-"))
	wantTokens(t, "--", aBad("-"), aBad("-"))
	wantTokens(t, "--7", aBad("-"), aNumber(-7))
	wantTokens(t, "- 7", aBad("-"), aSpace, aNumber(7))
	wantTokens(t, "+7", aBad("+"), aNumber(7))
	wantTokens(t, "5-3", aNumber(5), aNumber(-3))
	wantTokens(t, "0-3", aNumber(0), aNumber(-3))
	wantTokens(t, "5-", aNumber(5), aBad("-"))
	wantTokens(t, "5-a", aNumber(5), aBad("-"), aName("a"))
	wantTokens(t, "1.5", aNumber(1), aSign("."), aNumber(5))
	wantTokens(t, "1,000", aNumber(1), aSign(","), aNumber(0), aNumber(0), aNumber(0))
	wantTokens(t, "5A", aNumber(5), aBad("A"))
	wantTokens(t, "123456789", aNumber(123456789))
	wantTokens(t, "999999999", aNumber(999999999))
	wantTokens(t, "-999999999", aNumber(-999999999))
	wantTokens(t, "1234567890", aNumber(123456789), aNumber(0))
	wantTokens(t, "1234567891", aNumber(123456789), aNumber(1))
	wantTokens(t, "-1234567891", aNumber(-123456789), aNumber(1))
	wantTokens(t, "12345678901234567891", aNumber(123456789), aNumber(0), aNumber(123456789), aNumber(1))
	wantTokens(t, "9223372036854775808", aNumber(922337203), aNumber(685477580), aNumber(8))
}

func TestTokensOfUnits(t *testing.T) {
	wantTokens(t, "5px", aUnit(5, "px"))
	wantTokens(t, "-5px", aUnit(-5, "px"))
	wantTokens(t, "0px", aUnit(0, "px"))
	wantTokens(t, "5%", aUnit(5, "%"))
	wantTokens(t, "-5%", aUnit(-5, "%"))
	wantTokens(t, "0%", aUnit(0, "%"))
	wantTokens(t, "5%%", aUnit(5, "%"), aBad("%"))
	wantTokens(t, "5%px", aUnit(5, "%"), aName("px"))
	wantTokens(t, "5px%", aUnit(5, "px"), aBad("%"))
	wantTokens(t, "5p-3x-", aUnit(5, "p-3x-"))
	wantTokens(t, "5e9", aUnit(5, "e9"))
	wantTokens(t, "0x1f", aUnit(0, "x1f"))
	wantTokens(t, "5 px", aNumber(5), aSpace, aName("px"))
	wantTokens(t, "5 %", aNumber(5), aSpace, aBad("%"))
	wantTokens(t, "5\npx", aNumber(5), aSpace, aName("px"))
	wantTokens(t, "5-px", aNumber(5), aBad("-"), aName("px"))
	wantTokens(t, "5pX", aUnit(5, "p"), aBad("X"))
	wantTokens(t, "05px", aNumber(0), aUnit(5, "px"))
	wantTokens(t, "-0px", aBad("-"), aUnit(0, "px"))
	wantTokens(t, "00%", aNumber(0), aUnit(0, "%"))
	wantTokens(t, "-%", aBad("-"), aBad("%"))
	wantTokens(t, "%", aBad("%"))
	wantTokens(t, "999999999px", aUnit(999999999, "px"))
	wantTokens(t, "-999999999%", aUnit(-999999999, "%"))
	wantTokens(t, "1234567890px", aNumber(123456789), aUnit(0, "px"))
	wantTokens(t, "-1234567891%", aNumber(-123456789), aUnit(1, "%"))
}

func TestTokensOfColors(t *testing.T) {
	wantTokens(t, "#", aBad("#"))
	wantTokens(t, "##", aBad("#"), aBad("#"))
	wantTokens(t, "#12345", aBad("#"), aNumber(12345))
	wantTokens(t, "#abcde", aBad("#"), aName("abcde"))
	wantTokens(t, "#123456", aColor("123456"))
	wantTokens(t, "#abcdef", aColor("abcdef"))
	wantTokens(t, "#000000", aColor("000000"))
	wantTokens(t, "#1234567", aColor("123456"), aNumber(7))
	wantTokens(t, "#abcdefa", aColor("abcdef"), aName("a"))
	wantTokens(t, "#1234560", aColor("123456"), aNumber(0))
	wantTokens(t, "#12345678", aColor("12345678"))
	wantTokens(t, "#ff00aa80", aColor("ff00aa80"))
	wantTokens(t, "#123456789", aColor("12345678"), aNumber(9))
	wantTokens(t, "#ff00aa80f", aColor("ff00aa80"), aName("f"))
	wantTokens(t, "#ff00aa8g", aColor("ff00aa"), aUnit(8, "g"))
	wantTokens(t, "#ff00aag8", aColor("ff00aa"), aName("g8"))
	wantTokens(t, "#ff00aa-5", aColor("ff00aa"), aNumber(-5))
	wantTokens(t, "#ff00aa5-5", aColor("ff00aa"), aNumber(5), aNumber(-5))
	wantTokens(t, "#ff00aaFF", aColor("ff00aa"), aBad("F"), aBad("F"))
	wantTokens(t, "#ff00aA", aBad("#"), aName("ff00a"), aBad("A"))
	wantTokens(t, "#Ff00aa", aBad("#"), aBad("F"), aName("f00aa"))
	wantTokens(t, "#ff0g00", aBad("#"), aName("ff0g00"))
	wantTokens(t, "#ff0 00aa", aBad("#"), aName("ff0"), aSpace, aNumber(0), aUnit(0, "aa"))
	wantTokens(t, "##ff00aa", aBad("#"), aColor("ff00aa"))
	wantTokens(t, "#ff00aa#00ff00ff", aColor("ff00aa"), aColor("00ff00ff"))
	wantTokens(t, "# ff00aa", aBad("#"), aSpace, aName("ff00aa"))
}

func TestTokensOfSpaces(t *testing.T) {
	for _, s := range []string{" ", "\n", "  ", "\n\n", " \n", "\n ", " \n \n\n  "} {
		wantTokens(t, s, aSpace)
		wantTokens(t, s+"a", aSpace, aName("a"))
		wantTokens(t, "a"+s, aName("a"), aSpace)
		wantTokens(t, s+"a"+s+"5"+s, aSpace, aName("a"), aSpace, aNumber(5), aSpace)
		wantText(t, impl.TokensOf(s+"a"+s+"b"+s), " a b ")
		wantTokens(t, s+"\t"+s, aSpace, aBad("\t"), aSpace)
	}
	wantTokens(t, "\r\n", aBad("\r"), aSpace)
	wantTokens(t, "\u00a0", aBad("\xc2"), aBad("\xa0"))
	wantTokens(t, "\v\f", aBad("\v"), aBad("\f"))
}

func TestTokensOfEachByte(t *testing.T) {
	for b := 0; b < 256; b++ {
		one := byteText(b)
		want := aBad(one)
		switch {
		case b >= 'a' && b <= 'z':
			want = aName(one)
		case b >= '0' && b <= '9':
			want = aNumber(int64(b - '0'))
		case b == ' ' || b == 10:
			want = aSpace
		case strings.Contains(allSigns, one):
			want = aSign(one)
		}
		wantTokens(t, one, want)
		wantText(t, []impl.Token{want}, runOfSpaces.ReplaceAllString(one, " "))
		wantTokens(t, "{"+one+"}", aSign("{"), want, aSign("}"))
		wantTokens(t, "?"+one+"?", aBad("?"), want, aBad("?"))
	}
}

func TestTokensOfSigns(t *testing.T) {
	want := []impl.Token{}
	for _, b := range []byte(allSigns) {
		want = append(want, aSign(string(b)))
	}
	wantTokens(t, allSigns, want...)
	wantTokens(t, allSigns+allSigns, append(want, want...)...)
	for _, one := range impl.TokensOf("()[]<+/&|~^$'\"\\`_%#-?") {
		if one.Kind != impl.TkBad {
			t.Errorf("%#v", one)
		}
	}
}

func TestTokensOfNoText(t *testing.T) {
	wantTokens(t, "")
	wantText(t, nil, "")
	wantText(t, []impl.Token{}, "")
	wantSqueezed(t, nil)
	wantSqueezed(t, []impl.Token{})
}

func TestTextOfTokensOfIsTheText(t *testing.T) {
	for many := 0; many <= 3; many++ {
		eachRow(tokenPieces, many, "", func(s string) { wantPromise(t, s) })
	}
}

func TestTokensSideBySideAreTheLongest(t *testing.T) {
	for many := 0; many <= 3; many++ {
		eachRow(tokenPieces, many, "", func(s string) { wantAllByForm(t, s) })
	}
}

func TestAllShortTexts(t *testing.T) {
	letters := strings.Split("a-07%# \n.?", "")
	for many := 0; many <= 5; many++ {
		eachRow(letters, many, "", func(s string) { wantAllByForm(t, s) })
	}
}

func TestAllShortColors(t *testing.T) {
	for many := 0; many <= 5; many++ {
		eachRow([]string{"0", "f", "g", "-", "F", " "}, many, "#a1b2c", func(s string) { wantPromise(t, s) })
		eachRow([]string{"0", "f", "g"}, many, "#a1b2c", func(s string) { wantAllByForm(t, s) })
	}
}

func TestAllLongNumbers(t *testing.T) {
	for _, ahead := range []string{"1234567", "-1234567", "0", "-0", "-", "--"} {
		for many := 0; many <= 3; many++ {
			eachRow([]string{"0", "9", "a", "-", "%", " "}, many, ahead, func(s string) { wantAllByForm(t, s) })
		}
	}
}

// TestTokensOneByteOff puts each byte into each place of a text with tokens of every Kind.
func TestTokensOneByteOff(t *testing.T) {
	s := "a-5{ -70px 123456789#ff00aa80?0%\n"
	for i := 0; i <= len(s); i++ {
		for b := 0; b < 256; b++ {
			wantPromise(t, s[:i]+byteText(b)+s[i:])
			if i < len(s) {
				wantPromise(t, s[:i]+byteText(b)+s[i+1:])
			}
		}
		wantAllByForm(t, s[:i])
		wantAllByForm(t, s[i:])
	}
}

func TestTokensAtMaxSheet(t *testing.T) {
	for _, piece := range []string{"a", "0", "7", " ", "\n", "{", "?", "\xff", "#", "-", "5%", "-7px ", "#ff00aa", "@row a{0%{wide:5px;}}\n"} {
		s := strings.Repeat(piece, impl.MaxSheet)[:impl.MaxSheet]
		if len(impl.TokensOf(s)) == 0 {
			t.Errorf("TokensOf %d bytes %q", len(s), piece)
		}
		wantPromise(t, s)
		wantPromise(t, s[1:])
		wantTokens(t, s+piece[:1])
		wantTokens(t, s+" ")
		wantTokens(t, " "+s)
		wantTokens(t, strings.Repeat(s, 250))
	}
	long := strings.Repeat("a", impl.MaxSheet)
	wantTokens(t, long, aName(long))
	wantTokens(t, "7"+long[1:], aUnit(7, long[1:]))
	wantTokens(t, strings.Repeat(" \n", impl.MaxSheet/2), aSpace)
}

func TestTokenOk(t *testing.T) {
	for _, one := range []impl.Token{
		aName("a"), aName("z"), aName("a-"), aName("a9-z"), aNumber(0), aNumber(7), aNumber(-7), aNumber(999999999), aNumber(-999999999),
		aUnit(0, "a"), aUnit(5, "px"), aUnit(-5, "%"), aUnit(999999999, "px"), aUnit(-999999999, "%"), aUnit(1, "e-9-"),
		aColor("ff00aa"), aColor("ff00aa80"), aColor("000000"), aColor("12345678"), aSpace, aSign("{"), aSign("="), aBad("-"), aBad("#"), aBad("%"), aBad("A"), aBad("\x00"), aBad("\xff"),
	} {
		wantTokenOk(t, one, true)
		wantText(t, []impl.Token{one, one}, strings.Repeat(impl.TextOf([]impl.Token{one}), 2))
		wantTokens(t, impl.TextOf([]impl.Token{one}), one)
	}
}

// notTokens are of no Kind, tell what is not of their Kind, or have a Text or a Number that none of their Kind has.
func notTokens() []impl.Token {
	list := []impl.Token{
		{}, {Text: "a"}, {Number: 5}, aName(""), aName("5"), aName("-"), aName("-a"), aName("A"), aName("aB"), aName("a b"), aName("a "), aName(" a"), aName("a%"), aName("5px"), aName("\xff"), aName("\u00e9"),
		aNumber(1000000000), aNumber(-1000000000), aUnit(1000000000, "px"), aUnit(-1000000000, "%"), aUnit(5, ""), aUnit(5, "%%"), aUnit(5, "%px"), aUnit(5, "px%"), aUnit(5, "7px"), aUnit(5, "-px"), aUnit(5, "Px"), aUnit(5, " px"), aUnit(5, "px "), aUnit(5, " "), aUnit(5, "0"), aUnit(123456789, "0px"), aUnit(0, "7"),
		aColor(""), aColor("ff00a"), aColor("ff00aa8"), aColor("ff00aa80f"), aColor("#ff00aa"), aColor("FF00AA"), aColor("ff00ag"), aColor("ff00aa "), aColor(" ff00aa"), aColor("ff 0aa"), aColor("-f00aa"), aColor("ff00aaff00aa"),
		aSign(""), aSign("{}"), aSign("{{"), aSign("{ "), aSign("a"), aSign("5"), aSign(" "), aSign("\n"), aSign("-"), aSign("%"), aSign("#"), aSign("?"), aSign("<"), aSign("+"), aSign("\xff"),
		aBad(""), aBad("a"), aBad("5"), aBad("0"), aBad(" "), aBad("\n"), aBad("{"), aBad("="), aBad("??"), aBad("-5"), aBad("-a"), aBad("--"), aBad("#ff00aa"), aBad("\u00e9"), aBad("? "), aBad("A1"),
	}
	for _, s := range []string{" ", "\n", "  ", "a", "5", "{", "?", "\x00"} {
		list = append(list, impl.Token{Kind: impl.TkSpace, Text: s})
	}
	for _, s := range []string{"0", "5", "px", "%", "-", " ", "a", "?"} {
		list = append(list, impl.Token{Kind: impl.TkNumber, Text: s}, impl.Token{Kind: impl.TkNumber, Text: s, Number: 5}, impl.Token{Kind: impl.TkNumber, Text: s, Number: -5})
	}
	for _, n := range append([]int64{-1, 1, 5, 1000000000}, outliers...) {
		for _, one := range []impl.Token{aName("a"), aColor("ff00aa"), aColor("12345678"), aSpace, aSign("{"), aBad("?"), aBad("-")} {
			one.Number = n
			list = append(list, one)
		}
	}
	for _, kind := range append([]int64{-7, -6, -5, -4, -3, -2, -1, 0, 8, 9, 255, 256, 257, 258, 263}, outliers...) {
		for _, one := range []impl.Token{{}, aName("a"), aNumber(5), aUnit(5, "px"), aColor("ff00aa"), aSpace, aSign("{"), aBad("?")} {
			one.Kind = kind
			list = append(list, one)
		}
	}
	for _, far := range outliers {
		list = append(list, aNumber(far), aUnit(far, "px"), aUnit(far, "%"))
	}
	return list
}

func TestTokenOkOfWhatIsNotRight(t *testing.T) {
	for _, one := range notTokens() {
		wantTokenOk(t, one, false)
		if okByForm(one) {
			t.Errorf("%#v is in the wrong list", one)
		}
	}
}

func TestTokenOkAtTheLimitsOfItsNumber(t *testing.T) {
	for _, edge := range []int64{-10000000000, -1000000000, -999999999, -100000000, 0, 100000000, 999999999, 1000000000, 10000000000} {
		for n := edge - 3; n <= edge+3; n++ {
			for kind := int64(0); kind <= 8; kind++ {
				for _, s := range []string{"", "a", "%", "ff00aa", "{", "?", " "} {
					wantOkByForm(t, impl.Token{Kind: kind, Text: s, Number: n})
				}
			}
		}
	}
}

// TestTokenOkOfEachText has each byte in each place of a Text, for each Kind.
func TestTokenOkOfEachText(t *testing.T) {
	for kind := int64(0); kind <= 8; kind++ {
		for _, n := range []int64{0, 5, -5} {
			for _, s := range []string{"", "a", "a-5", "ff00a", "ff00aa", "ff00aa8", "%", "{"} {
				for i := 0; i <= len(s); i++ {
					for b := 0; b < 256; b++ {
						wantOkByForm(t, impl.Token{Kind: kind, Text: s[:i] + byteText(b) + s[i:], Number: n})
					}
				}
				wantOkByForm(t, impl.Token{Kind: kind, Text: s, Number: n})
			}
		}
	}
}

func TestTokenOkOfLongTexts(t *testing.T) {
	for kind := int64(-1); kind <= 9; kind++ {
		for _, piece := range []string{"a", "7", "-", " ", "%", "#", "{", "?", "\xff", "a-7"} {
			for _, many := range []int{6, 8, impl.MaxSheet, 100000} {
				wantOkByForm(t, impl.Token{Kind: kind, Text: strings.Repeat(piece, many)})
			}
		}
	}
}

func TestTextOf(t *testing.T) {
	wantText(t, []impl.Token{aName("wide"), aSign(":"), aSpace, aUnit(-5, "px"), aSign(";")}, "wide: -5px;")
	wantText(t, []impl.Token{aColor("ff00aa"), aColor("ff00aa80"), aUnit(7, "%"), aNumber(-3), aNumber(0)}, "#ff00aa#ff00aa807%-30")
	wantText(t, []impl.Token{aSpace, aSpace, aName("a"), aSpace, aSpace, aSpace}, "  a   ")
	wantText(t, []impl.Token{aSpace}, " ")
	wantText(t, []impl.Token{aBad("\x00"), aBad("\xff"), aBad("-"), aBad("#"), aSign("@")}, "\x00\xff-#@")
	wantText(t, []impl.Token{aBad("-"), aNumber(5), aName("a"), aName("b"), aNumber(1), aNumber(2)}, "-5ab12")
}

// TestTextOfLongLists: MaxSheet is a limit of what TokensOf reads, not of what TextOf writes.
func TestTextOfLongLists(t *testing.T) {
	list := slices.Repeat([]impl.Token{aName("abc"), aSpace, aUnit(5, "px"), aSpace}, 2*impl.MaxSheet)
	wantText(t, list, strings.Repeat("abc 5px ", 2*impl.MaxSheet))
	wantSqueezed(t, list, list[:len(list)-1]...)
	wantSqueezed(t, slices.Repeat([]impl.Token{aSpace}, 3*impl.MaxSheet))
}

// TestOneThatIsNotRight stands at the beginning, inside and at the end of a list.
func TestOneThatIsNotRight(t *testing.T) {
	right := []impl.Token{aName("a"), aSpace, aNumber(5), aSpace, aSpace, aSign("{")}
	for _, wrong := range notTokens() {
		wantText(t, []impl.Token{wrong}, "")
		wantSqueezed(t, []impl.Token{wrong})
		for i := 0; i <= len(right); i++ {
			list := slices.Insert(slices.Clone(right), i, wrong)
			wantText(t, list, "")
			wantSqueezed(t, list)
		}
	}
}

func TestSqueezed(t *testing.T) {
	a, b := aName("a"), aBad("?")
	wantSqueezed(t, []impl.Token{a}, a)
	wantSqueezed(t, []impl.Token{a, b}, a, b)
	wantSqueezed(t, []impl.Token{a, aSpace, b}, a, aSpace, b)
	wantSqueezed(t, []impl.Token{a, aSpace, aSpace, b}, a, aSpace, b)
	wantSqueezed(t, []impl.Token{a, aSpace, aSpace, aSpace, a, a, aSpace, aSpace, b}, a, aSpace, a, a, aSpace, b)
	wantSqueezed(t, []impl.Token{aSpace, a, aSpace}, a)
	wantSqueezed(t, []impl.Token{aSpace, aSpace, a, b, aSpace, aSpace, aSpace}, a, b)
	wantSqueezed(t, []impl.Token{aSpace})
	wantSqueezed(t, []impl.Token{aSpace, aSpace, aSpace})
}

// TestSqueezedInEveryOrder writes a list as a text of single bytes, of which strings.Fields takes the spaces away.
func TestSqueezedInEveryOrder(t *testing.T) {
	known := map[rune]impl.Token{' ': aSpace, 'n': aName("n"), '5': aNumber(5), '?': aBad("?")}
	listOf := func(s string) []impl.Token {
		list := []impl.Token{}
		for _, r := range s {
			list = append(list, known[r])
		}
		return list
	}
	for many := 0; many <= 7; many++ {
		eachRow([]string{" ", "n", "5", "?"}, many, "", func(s string) {
			want := listOf(strings.Join(strings.Fields(s), " "))
			wantSqueezed(t, listOf(s), want...)
			wantSqueezed(t, want, want...)
		})
	}
}

// TestSqueezedIsNewMemory also where nothing is to be left out; the spare room behind the list stays as well.
func TestSqueezedIsNewMemory(t *testing.T) {
	for _, s := range []string{"a", "a 5px;b", " a 5px;b ", " \n", "", "{ } #ff00aa"} {
		room := append(impl.TokensOf(s), aBad("?"), aColor("12345678"), aName("spare"))
		before := slices.Clone(room)
		list := room[:len(room)-3]
		first := impl.Squeezed(list)
		want := slices.Clone(first)
		for i := range first {
			first[i] = aSign("@")
		}
		first = append(first, aSign("@"), aSign("@"))
		if !slices.Equal(room, before) {
			t.Errorf("Squeezed shares memory with its list: %#v, was %#v", room, before)
		}
		wantSqueezed(t, list, want...)
		impl.TextOf(list)
		if !slices.Equal(room, before) || len(first) == 0 {
			t.Errorf("the list is now %#v, was %#v", room, before)
		}
	}
}

func TestSqueezedWhereNothingIsLeftOutHasItsOwnMemory(t *testing.T) {
	list := impl.TokensOf("a 5px;b")
	squeezed := impl.Squeezed(list)
	for i := range list {
		list[i] = aBad("?")
	}
	if !slices.Equal(squeezed, impl.TokensOf("a 5px;b")) {
		t.Errorf("changed with its list: %#v", squeezed)
	}
}

func TestTokensOfIsNewMemory(t *testing.T) {
	for _, s := range []string{"", "a", " a 5px;b ", strings.Repeat("a", impl.MaxSheet+1)} {
		first := impl.TokensOf(s)
		want := slices.Clone(first)
		for i := range first {
			first[i] = aBad("?")
		}
		first = append(first, aBad("?"))
		wantTokens(t, s, want...)
		if len(first) != len(want)+1 {
			t.Error(len(first))
		}
	}
}

// TestArgumentsStay: a list with one that is not right is left as it is too.
func TestArgumentsStay(t *testing.T) {
	for _, wrong := range notTokens() {
		list := []impl.Token{aSpace, aSpace, aName("a"), wrong, aSpace, aSpace}
		before := slices.Clone(list)
		impl.TextOf(list)
		impl.Squeezed(list)
		if !slices.Equal(list, before) {
			t.Errorf("the list is now %#v, was %#v", list, before)
		}
	}
}
