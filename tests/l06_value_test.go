package tests

import (
	"fmt"
	"regexp"
	"slices"
	"strconv"
	"strings"
	"testing"

	"loop.example/g00521/impl"
)

const leastNumber = -1000000
const mostNumber = 1000000

var numberKinds = []int64{impl.VaNumber, impl.VaLength, impl.VaShare}
var valueKinds = []int64{impl.VaNumber, impl.VaLength, impl.VaShare, impl.VaColor, impl.VaWord}

// shownValues are values of every Kind, each with the one text that shows it.
var shownValues = map[string]impl.Value{
	"0": plainOf(0), "7": plainOf(7), "-7": plainOf(-7), "100": plainOf(100), "-100": plainOf(-100),
	"1000000": plainOf(1000000), "-1000000": plainOf(-1000000), "999999": plainOf(999999), "-999999": plainOf(-999999),
	"0px": pixelsOf(0), "5px": pixelsOf(5), "-5px": pixelsOf(-5), "1000000px": pixelsOf(1000000), "-1000000px": pixelsOf(-1000000),
	"0%": shareOf(0), "30%": shareOf(30), "-30%": shareOf(-30), "1000000%": shareOf(1000000), "-1000000%": shareOf(-1000000),
	"#000000": colorOf(0, 0, 0, 255), "#ffffff": colorOf(255, 255, 255, 255), "#00000000": colorOf(0, 0, 0, 0), "#ffffff00": colorOf(255, 255, 255, 0),
	"#ff00aa": colorOf(255, 0, 170, 255), "#ff00aa80": colorOf(255, 0, 170, 128), "#ff00aafe": colorOf(255, 0, 170, 254), "#ff00aa00": colorOf(255, 0, 170, 0),
	"#010203": colorOf(1, 2, 3, 255), "#01020304": colorOf(1, 2, 3, 4), "#0f10f09f": colorOf(15, 16, 240, 159), "#abcdef": colorOf(171, 205, 239, 255), "#a0b0c0d0": colorOf(160, 176, 192, 208),
	"a": wordOf("a"), "z": wordOf("z"), "shown": wordOf("shown"), "hidden": wordOf("hidden"), "plain": wordOf("plain"), "px": wordOf("px"), "a-": wordOf("a-"), "a9": wordOf("a9"),
	"ff00aa": wordOf("ff00aa"), "abcdefghijkl": wordOf("abcdefghijkl"), "a-0123456789": wordOf("a-0123456789"), "z-----------": wordOf("z-----------"),
}

// notWords are no names, or have more than 12 bytes.
var notWords = []string{
	"", "abcdefghijklm", "a-0123456789-", strings.Repeat("a", 24), strings.Repeat("a", 268), strings.Repeat("z", 4000), strings.Repeat("z", 100000),
	"5", "5a", "0px", "-", "-a", "--", "A", "Abc", "aBc", "abC", " ", "a ", " a", "a b", "a\n", "\n", "a.b", "a_b", "a%", "%", "#ff00aa", "a#", "a:", ";",
	"a\x00", "\x00", "a\xff", "\xff", "\u00e9", "n\u00e9", "a\u00a0", "{", "a`", "a/", "abcdefghijk ", "abcdefghijkL",
}

func plainOf(n int64) impl.Value { return impl.Value{Kind: impl.VaNumber, Number: n} }

func pixelsOf(n int64) impl.Value { return impl.Value{Kind: impl.VaLength, Number: n} }

func shareOf(n int64) impl.Value { return impl.Value{Kind: impl.VaShare, Number: n} }

func colorOf(red, green, blue, clear int64) impl.Value {
	return impl.Value{Kind: impl.VaColor, Red: red, Green: green, Blue: blue, Clear: clear}
}

func wordOf(s string) impl.Value { return impl.Value{Kind: impl.VaWord, Word: s} }

// placesOf are the fields of v that hold numbers, but for its Kind.
func placesOf(v *impl.Value) []*int64 {
	return []*int64{&v.Number, &v.Red, &v.Green, &v.Blue, &v.Clear}
}

func withPlace(v impl.Value, place int, n int64) impl.Value {
	*placesOf(&v)[place] = n
	return v
}

// valueOkByForm asks field by field, each by the words of its Kind.
func valueOkByForm(v impl.Value) bool {
	isNumber := v.Number >= leastNumber && v.Number <= mostNumber
	isColor, noColor := true, true
	for _, n := range []int64{v.Red, v.Green, v.Blue, v.Clear} {
		isColor = isColor && n >= 0 && n <= 255
		noColor = noColor && n == 0
	}
	isWord := len(v.Word) <= 12 && tokenForms[impl.TkName].MatchString(v.Word)
	switch v.Kind {
	case impl.VaNumber, impl.VaLength, impl.VaShare:
		return isNumber && noColor && v.Word == ""
	case impl.VaColor:
		return v.Number == 0 && isColor && v.Word == ""
	case impl.VaWord:
		return v.Number == 0 && noColor && isWord
	}
	return false
}

// shownByForm is the text of a right value, made by fmt.
func shownByForm(v impl.Value) string {
	switch v.Kind {
	case impl.VaNumber:
		return fmt.Sprint(v.Number)
	case impl.VaLength:
		return fmt.Sprint(v.Number, "px")
	case impl.VaShare:
		return fmt.Sprintf("%d%%", v.Number)
	case impl.VaColor:
		text := fmt.Sprintf("#%02x%02x%02x%02x", v.Red, v.Green, v.Blue, v.Clear)
		if v.Clear == 255 {
			return text[:7]
		}
		return text
	}
	return v.Word
}

var measureForm = regexp.MustCompile(`\A` + formNumber + `(px|%)?\z`)
var colorForm = regexp.MustCompile(`\A#([0-9a-f]{2})([0-9a-f]{2})([0-9a-f]{2})([0-9a-f]{2})?\z`)
var wordForm = regexp.MustCompile(`\A[a-z][a-z0-9-]{0,11}\z`)

func readHex(s string) int64 {
	n, _ := strconv.ParseInt(s, 16, 64)
	return n
}

// valueByForm reads a text by its form alone: what is one token is all of the text but for the spaces at its ends.
func valueByForm(s string) (impl.Value, bool) {
	s = strings.Trim(s, " \n")
	if m := measureForm.FindStringSubmatch(s); m != nil {
		n, _ := strconv.ParseInt(m[1], 10, 64)
		if n < leastNumber || n > mostNumber {
			return impl.Value{}, false
		}
		kinds := map[string]int64{"": impl.VaNumber, "px": impl.VaLength, "%": impl.VaShare}
		return impl.Value{Kind: kinds[m[2]], Number: n}, true
	}
	if m := colorForm.FindStringSubmatch(s); m != nil {
		clear := int64(255)
		if m[4] != "" {
			clear = readHex(m[4])
		}
		return colorOf(readHex(m[1]), readHex(m[2]), readHex(m[3]), clear), true
	}
	if wordForm.MatchString(s) {
		return wordOf(s), true
	}
	return impl.Value{}, false
}

// brief keeps what a long list or Word would print within a line.
func brief(what any) string { return fmt.Sprintf("%.200s", fmt.Sprint(what)) }

func wantValueOk(t *testing.T, v impl.Value, want bool) {
	t.Helper()
	if got := impl.ValueOk(v); got != want {
		t.Errorf("ValueOk(%s) = %t", brief(v), got)
	}
}

// wantOkOrNot: a value that is right is shown by its form, one that is not is shown empty and of no Kind with itself.
func wantOkOrNot(t *testing.T, v impl.Value) {
	t.Helper()
	ok, shown := valueOkByForm(v), ""
	if ok {
		shown = shownByForm(v)
	}
	wantValueOk(t, v, ok)
	wantValueShown(t, v, shown)
	wantSameKind(t, v, v, ok)
}

func wantValueShown(t *testing.T, v impl.Value, want string) {
	t.Helper()
	if got := impl.ShowValue(v); got != want {
		t.Errorf("ShowValue(%s) = %q, want %q", brief(v), got, want)
	}
}

func wantSameKind(t *testing.T, a, b impl.Value, want bool) {
	t.Helper()
	if got := impl.SameKind(a, b); got != want {
		t.Errorf("SameKind(%s, %s) = %t", brief(a), brief(b), got)
	}
}

func wantValue(t *testing.T, list []impl.Token, want impl.Value) {
	t.Helper()
	if got, is := impl.ReadValue(list); !is || got != want {
		t.Errorf("ReadValue(%s) = %v, %t, want %v", brief(list), got, is, want)
	}
}

func wantNoValue(t *testing.T, list []impl.Token) {
	t.Helper()
	if got, is := impl.ReadValue(list); is || got != (impl.Value{}) {
		t.Errorf("ReadValue(%s) = %v, %t", brief(list), got, is)
	}
}

func wantValueByForm(t *testing.T, s string) {
	t.Helper()
	want, is := valueByForm(s)
	if got, gotIs := impl.ReadValue(impl.TokensOf(s)); gotIs != is || got != want {
		t.Errorf("ReadValue of %q = %v, %t, want %v, %t", s, got, gotIs, want, is)
	}
}

// wantReadAsShown is promise 6 for one value, with spaces around its text as well.
func wantReadAsShown(t *testing.T, v impl.Value) {
	t.Helper()
	shown := impl.ShowValue(v)
	if shown == "" {
		t.Errorf("ShowValue(%v) is empty", v)
	}
	for _, s := range []string{shown, " " + shown, shown + "\n", " \n " + shown + "\n \n"} {
		wantValue(t, impl.TokensOf(s), v)
	}
}

// rightValues are values of each Kind, at the edges of what they may have and in between.
func rightValues() []impl.Value {
	list := []impl.Value{}
	for _, v := range shownValues {
		list = append(list, v)
	}
	for _, kind := range numberKinds {
		for n := int64(leastNumber); n <= mostNumber; n += 9901 {
			list = append(list, impl.Value{Kind: kind, Number: n}, impl.Value{Kind: kind, Number: -n})
		}
		for n := int64(-1100); n <= 1100; n++ {
			list = append(list, impl.Value{Kind: kind, Number: n})
		}
	}
	for place := 1; place <= 4; place++ {
		for n := int64(0); n <= 255; n++ {
			list = append(list, withPlace(colorOf(0, 0, 0, 0), place, n), withPlace(colorOf(255, 255, 255, 255), place, n), withPlace(colorOf(18, 52, 86, 120), place, n))
		}
	}
	for first := byte('a'); first <= 'z'; first++ {
		for many := 0; many < 12; many++ {
			list = append(list, wordOf(string(first)+strings.Repeat("-", many)), wordOf(string(first)+"0123456789z"[:many]))
		}
	}
	return list
}

// oneOfEach is one right value of each Kind, where nothing that it tells is 0.
func oneOfEach() []impl.Value {
	return []impl.Value{plainOf(7), pixelsOf(-7), shareOf(30), colorOf(1, 2, 3, 4), wordOf("plain")}
}

// notValues are of no Kind, tell what is not of their Kind, or have what none of their Kind has.
func notValues() []impl.Value {
	list := []impl.Value{{}, {Number: 5}, {Red: 5}, {Clear: 255}, {Word: "a"}, {Kind: impl.VaWord}}
	for _, kind := range append([]int64{-5, -4, -3, -2, -1, 0, 6, 7, 255, 256, 257, 258, 259, 260, 261}, outliers...) {
		for _, v := range oneOfEach() {
			v.Kind = kind
			list = append(list, v, impl.Value{Kind: kind})
		}
	}
	for _, v := range oneOfEach() {
		for place := 0; place < 5; place++ {
			wrong := append([]int64{leastNumber - 1, mostNumber + 1}, outliers...)
			if v.Kind != impl.VaColor && place > 0 || v.Kind >= impl.VaColor && place == 0 {
				wrong = append(wrong, -1000, -256, -255, -1, 1, 2, 255, 256, 1000)
			} else if v.Kind == impl.VaColor {
				wrong = append(wrong, -256, -255, -1, 256, 257, 511, 512, 1000)
			}
			for _, n := range wrong {
				list = append(list, withPlace(v, place, n))
			}
		}
	}
	for _, v := range oneOfEach()[:4] {
		for _, s := range append([]string{"a", "plain", "px", "abcdefghijkl"}, notWords[1:]...) {
			v.Word = s
			list = append(list, v)
		}
	}
	for _, s := range notWords {
		list = append(list, wordOf(s))
	}
	return list
}

func TestNumbersOfValues(t *testing.T) {
	if !slices.Equal(valueKinds, []int64{1, 2, 3, 4, 5}) {
		t.Fatal(valueKinds)
	}
}

func TestReadValueOfShowValueIsTheValue(t *testing.T) {
	for _, v := range rightValues() {
		wantReadAsShown(t, v)
	}
}

func TestReadValueOfShowValueOfEachNumber(t *testing.T) {
	for n := int64(leastNumber); n <= mostNumber; n += 7 {
		for _, kind := range numberKinds {
			v := impl.Value{Kind: kind, Number: n}
			wantValue(t, impl.TokensOf(impl.ShowValue(v)), v)
		}
	}
}

func TestReadValueOfShowValueOfColors(t *testing.T) {
	edges := []int64{0, 1, 9, 10, 15, 16, 127, 128, 159, 160, 170, 239, 240, 254, 255}
	for _, red := range edges {
		for _, green := range edges {
			for _, blue := range edges {
				for _, clear := range edges {
					v := colorOf(red, green, blue, clear)
					wantValue(t, impl.TokensOf(impl.ShowValue(v)), v)
					wantValueShown(t, v, shownByForm(v))
				}
			}
		}
	}
}

func TestShowValue(t *testing.T) {
	for text, v := range shownValues {
		wantValueShown(t, v, text)
		wantValue(t, impl.TokensOf(text), v)
	}
	for _, v := range rightValues() {
		wantOkOrNot(t, v)
	}
}

func TestShowValueOfEachClear(t *testing.T) {
	for clear := int64(0); clear < 255; clear++ {
		wantValueShown(t, colorOf(171, 205, 239, clear), fmt.Sprintf("#abcdef%02x", clear))
	}
	wantValueShown(t, colorOf(171, 205, 239, 255), "#abcdef")
	wantValueShown(t, colorOf(171, 205, 239, 256), "")
	wantValueShown(t, colorOf(171, 205, 239, -1), "")
}

func TestValueOk(t *testing.T) {
	for _, v := range rightValues() {
		wantValueOk(t, v, true)
	}
}

func TestWhatIsNoValue(t *testing.T) {
	for _, v := range notValues() {
		if valueOkByForm(v) {
			t.Errorf("%v is in the wrong list", v)
		}
		wantValueOk(t, v, false)
		wantValueShown(t, v, "")
		wantSameKind(t, v, v, false)
	}
}

func TestValueOkAtTheLimitsOfItsNumber(t *testing.T) {
	for _, edge := range []int64{-1000000000, leastNumber, -255, 0, 255, mostNumber, 1000000000} {
		for n := edge - 3; n <= edge+3; n++ {
			for kind := int64(-1); kind <= 7; kind++ {
				for _, word := range []string{"", "a", "abcdefghijkl", "abcdefghijklm", "A"} {
					wantOkOrNot(t, impl.Value{Kind: kind, Number: n, Word: word})
				}
			}
		}
	}
	for _, kind := range numberKinds {
		wantValueOk(t, impl.Value{Kind: kind, Number: leastNumber}, true)
		wantValueOk(t, impl.Value{Kind: kind, Number: mostNumber}, true)
		wantValueOk(t, impl.Value{Kind: kind, Number: leastNumber - 1}, false)
		wantValueOk(t, impl.Value{Kind: kind, Number: mostNumber + 1}, false)
	}
}

func TestValueOkAtTheLimitsOfItsColor(t *testing.T) {
	for place := 1; place <= 4; place++ {
		for n := int64(-260); n <= 520; n++ {
			for _, v := range []impl.Value{colorOf(0, 0, 0, 0), colorOf(255, 255, 255, 255), colorOf(1, 2, 3, 4)} {
				wantValueOk(t, withPlace(v, place, n), n >= 0 && n <= 255)
				wantOkOrNot(t, withPlace(v, place, n))
			}
		}
	}
}

// TestValueOkWithMoreThanItTells puts something into each pair of places, for each Kind.
func TestValueOkWithMoreThanItTells(t *testing.T) {
	for kind := int64(-1); kind <= 7; kind++ {
		for first := 0; first < 5; first++ {
			for second := 0; second < 5; second++ {
				for _, n := range []int64{-1, 0, 1, 255} {
					v := withPlace(withPlace(impl.Value{Kind: kind}, first, n), second, 7)
					wantOkOrNot(t, v)
					v.Word = "plain"
					wantOkOrNot(t, v)
				}
			}
		}
	}
}

// TestValueOkOfEachWord has each byte in each place of a Word, for each Kind.
func TestValueOkOfEachWord(t *testing.T) {
	for kind := int64(0); kind <= 6; kind++ {
		for _, s := range []string{"", "a", "a-5", "abcdefghijk", "abcdefghijkl"} {
			for i := 0; i <= len(s); i++ {
				for b := 0; b < 256; b++ {
					wantOkOrNot(t, impl.Value{Kind: kind, Word: s[:i] + byteText(b) + s[i:]})
				}
			}
		}
	}
}

// TestValuesFarOut: an answer at every argument, with the least and the greatest int64 in each place.
func TestValuesFarOut(t *testing.T) {
	for _, far := range outliers {
		for _, kind := range append([]int64{far}, valueKinds...) {
			all := impl.Value{Kind: kind, Number: far, Red: far, Green: far, Blue: far, Clear: far}
			list := []impl.Value{all, {Kind: far, Word: "plain"}, {Kind: kind, Number: far, Word: "plain"}}
			for place := 0; place < 5; place++ {
				list = append(list, withPlace(impl.Value{Kind: kind}, place, far))
			}
			for _, v := range list {
				wantValueOk(t, v, false)
				wantValueShown(t, v, "")
				for _, right := range oneOfEach() {
					wantSameKind(t, v, right, false)
					wantSameKind(t, right, v, false)
				}
			}
		}
		for kind := int64(0); kind <= 8; kind++ {
			wantNoValue(t, []impl.Token{{Kind: kind, Text: "px", Number: far}})
			wantNoValue(t, []impl.Token{{Kind: kind, Number: far}})
		}
		wantNoValue(t, []impl.Token{{Kind: far, Text: "a"}})
	}
}

func TestReadValueOfNoTokens(t *testing.T) {
	wantNoValue(t, nil)
	wantNoValue(t, []impl.Token{})
	wantNoValue(t, []impl.Token{aSpace})
	wantNoValue(t, []impl.Token{aSpace, aSpace, aSpace})
	wantNoValue(t, impl.TokensOf(strings.Repeat("a", impl.MaxSheet+1)))
}

func TestReadValueOfEachKindOfToken(t *testing.T) {
	wantValue(t, []impl.Token{aName("plain")}, wordOf("plain"))
	wantValue(t, []impl.Token{aNumber(-5)}, plainOf(-5))
	wantValue(t, []impl.Token{aUnit(5, "px")}, pixelsOf(5))
	wantValue(t, []impl.Token{aUnit(5, "%")}, shareOf(5))
	wantValue(t, []impl.Token{aColor("ff00aa")}, colorOf(255, 0, 170, 255))
	wantValue(t, []impl.Token{aColor("ff00aa80")}, colorOf(255, 0, 170, 128))
	wantNoValue(t, []impl.Token{aSpace})
	for _, b := range []byte(allSigns) {
		wantNoValue(t, []impl.Token{aSign(string(b))})
	}
	for _, s := range []string{"-", "#", "%", "?", "A", "\x00", "\xff"} {
		wantNoValue(t, []impl.Token{aBad(s)})
	}
}

func TestReadValueOfUnits(t *testing.T) {
	for _, unit := range []string{"p", "x", "pxx", "px-", "px2", "p-x", "xp", "em", "s", "ms", "a", "e5", "deg", "percent", "pxpx", strings.Repeat("px", 2000)} {
		for _, n := range []int64{0, 5, -5, leastNumber, mostNumber} {
			wantNoValue(t, []impl.Token{aUnit(n, unit)})
		}
	}
	for _, s := range []string{"5 px", "5 %", "5px%", "5%px", "5%%", "5PX", "5Px", "5px5", "5px 5px", "- 5px", "+5px", "5.5px", "-0px", "05px", "00%", "%5"} {
		wantNoValue(t, impl.TokensOf(s))
	}
}

func TestReadValueAtTheLimitsOfItsNumber(t *testing.T) {
	for _, edge := range []int64{-999999997, -10000000, leastNumber, 0, mostNumber, 10000000, 999999997} {
		for n := edge - 2; n <= edge+2; n++ {
			for _, one := range []impl.Token{aNumber(n), aUnit(n, "px"), aUnit(n, "%")} {
				v := impl.Value{Kind: map[string]int64{"": impl.VaNumber, "px": impl.VaLength, "%": impl.VaShare}[one.Text], Number: n}
				if n < leastNumber || n > mostNumber {
					wantNoValue(t, []impl.Token{one})
				} else {
					wantValue(t, []impl.Token{one}, v)
				}
			}
		}
	}
	for _, s := range []string{"1000001", "-1000001", "1000001px", "-1000001px", "1000001%", "-1000001%", "999999999", "1000000000", "-1000000000px", "9223372036854775808", "18446744073709551617%"} {
		wantNoValue(t, impl.TokensOf(s))
	}
}

func TestReadValueOfColors(t *testing.T) {
	for n := int64(0); n <= 255; n++ {
		two := fmt.Sprintf("%02x", n)
		wantValue(t, []impl.Token{aColor(two + "1234")}, colorOf(n, 18, 52, 255))
		wantValue(t, []impl.Token{aColor("12" + two + "34")}, colorOf(18, n, 52, 255))
		wantValue(t, []impl.Token{aColor("1234" + two)}, colorOf(18, 52, n, 255))
		wantValue(t, []impl.Token{aColor("123456" + two)}, colorOf(18, 52, 86, n))
		wantValue(t, []impl.Token{aColor(two + "123456")}, colorOf(n, 18, 52, 86))
	}
	for _, s := range []string{"#", "#f", "#ff0", "#ff00a", "#ff00aa8", "#ff00aa801", "#FF00AA", "#ff00aA", "#ff00ag", "##ff00aa", "# ff00aa", "#ff00aa 80", "#ff00aa#ff00aa", "#ff00aa-"} {
		wantNoValue(t, impl.TokensOf(s))
	}
}

// TestReadValueOfAColorThatEndsInFF: both ways to write it are one value, which is shown in the short one.
func TestReadValueOfAColorThatEndsInFF(t *testing.T) {
	for _, s := range []string{"000000", "ff00aa", "ffffff", "0000ff"} {
		short, _ := impl.ReadValue(impl.TokensOf("#" + s))
		if short.Clear != 255 {
			t.Errorf("%s: %v", s, short)
		}
		wantValue(t, impl.TokensOf("#"+s+"ff"), short)
		wantValueShown(t, short, "#"+s)
	}
}

func TestReadValueOfWords(t *testing.T) {
	name := "a-0123456789bcdefgh"
	for many := 1; many <= len(name); many++ {
		if many <= 12 {
			wantValue(t, []impl.Token{aName(name[:many])}, wordOf(name[:many]))
			wantValue(t, impl.TokensOf(" "+name[:many]), wordOf(name[:many]))
		} else {
			wantNoValue(t, []impl.Token{aName(name[:many])})
			wantNoValue(t, impl.TokensOf(" "+name[:many]))
		}
	}
	for _, s := range notWords {
		wantNoValue(t, []impl.Token{aName(s)})
	}
}

func TestReadValueOfSeveralTokens(t *testing.T) {
	ones := []impl.Token{aName("plain"), aNumber(5), aUnit(5, "px"), aUnit(5, "%"), aColor("ff00aa"), aColor("ff00aa80"), aSign(";"), aBad("?")}
	for _, a := range ones {
		for _, b := range ones {
			wantNoValue(t, []impl.Token{a, b})
			wantNoValue(t, []impl.Token{a, aSpace, b})
			wantNoValue(t, []impl.Token{aSpace, a, aSpace, aSpace, b, aSpace})
			wantNoValue(t, []impl.Token{a, b, a})
		}
	}
}

func TestReadValueWithSpacesAround(t *testing.T) {
	for _, v := range oneOfEach() {
		one := impl.TokensOf(impl.ShowValue(v))
		for ahead := 0; ahead <= 4; ahead++ {
			for behind := 0; behind <= 4; behind++ {
				wantValue(t, slices.Concat(slices.Repeat([]impl.Token{aSpace}, ahead), one, slices.Repeat([]impl.Token{aSpace}, behind)), v)
			}
		}
		many := slices.Repeat([]impl.Token{aSpace}, 50000)
		wantValue(t, slices.Concat(many, one, many), v)
		wantNoValue(t, slices.Concat(one, many, one))
		wantNoValue(t, slices.Repeat(one, 50000))
	}
}

// TestReadValueWithOneThatIsNotRight: it stands alone, ahead of a right one and behind it.
func TestReadValueWithOneThatIsNotRight(t *testing.T) {
	for _, wrong := range notTokens() {
		wantNoValue(t, []impl.Token{wrong})
		wantNoValue(t, []impl.Token{aSpace, wrong, aSpace})
		for _, v := range oneOfEach() {
			one := impl.TokensOf(impl.ShowValue(v))[0]
			wantNoValue(t, []impl.Token{wrong, one})
			wantNoValue(t, []impl.Token{one, wrong})
			wantNoValue(t, []impl.Token{one, aSpace, wrong})
		}
	}
}

func TestReadValueIsAsItsForm(t *testing.T) {
	pieces := append([]string{"1000000", "1000001", "-100000", "px", "abcdefghijk", "ff"}, tokenPieces...)
	for many := 0; many <= 3; many++ {
		eachRow(pieces, many, "", func(s string) { wantValueByForm(t, s) })
	}
}

// TestReadValueOneByteOff changes, adds and takes away each byte of texts that are read.
func TestReadValueOneByteOff(t *testing.T) {
	for s := range shownValues {
		for i := 0; i <= len(s); i++ {
			for b := 0; b < 256; b++ {
				wantValueByForm(t, s[:i]+byteText(b)+s[i:])
				if i < len(s) {
					wantValueByForm(t, s[:i]+byteText(b)+s[i+1:])
				}
			}
			wantValueByForm(t, s[:i])
			wantValueByForm(t, s[i:])
			if i < len(s) {
				wantValueByForm(t, s[:i]+s[i+1:])
			}
		}
	}
}

func TestSameKind(t *testing.T) {
	others := []impl.Value{plainOf(mostNumber), pixelsOf(0), shareOf(leastNumber), colorOf(0, 0, 0, 0), wordOf("abcdefghijkl")}
	for i, a := range oneOfEach() {
		for k, b := range others {
			wantSameKind(t, a, b, i == k)
			wantSameKind(t, b, a, i == k)
		}
		wantSameKind(t, a, a, true)
	}
}

func TestSameKindOfWhatIsNotRight(t *testing.T) {
	for _, wrong := range notValues() {
		for _, right := range oneOfEach() {
			wantSameKind(t, wrong, right, false)
			wantSameKind(t, right, wrong, false)
			right.Kind = wrong.Kind
			wantSameKind(t, wrong, right, false)
		}
		for _, kind := range valueKinds {
			other := wrong
			other.Kind = kind
			wantSameKind(t, wrong, other, false)
		}
	}
}

// TestReadValueLeavesItsList, and the spare room behind it, whether there is a value or not.
func TestReadValueLeavesItsList(t *testing.T) {
	for _, s := range []string{"", " ", "5", " 5px ", "\n#ff00aa ", "  plain  ", "5 5", " a  b ", "{", "abcdefghijklm"} {
		for _, wrong := range []impl.Token{aName("spare"), {}, aUnit(5, "")} {
			room := append(impl.TokensOf(s), aSpace, wrong, aBad("?"), aName("spare"))
			before := slices.Clone(room)
			list := room[:len(room)-3]
			first, _ := impl.ReadValue(list)
			impl.ReadValue(room[:len(room)-2])
			if !slices.Equal(room, before) {
				t.Errorf("%q: the list is now %v, was %v", s, room, before)
			}
			if again, _ := impl.ReadValue(list); again != first {
				t.Errorf("%q: %v, then %v", s, first, again)
			}
		}
	}
}
