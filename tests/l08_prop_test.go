package tests

import (
	"slices"
	"strings"
	"testing"

	"loop.example/g00521/impl"
)

// lookNames are the names of the looks, each in the place of its number.
var lookNames = []string{"clear", "wide", "left", "color", "show", "form"}

var allLooks = []int64{impl.PrClear, impl.PrWide, impl.PrLeft, impl.PrColor, impl.PrShow, impl.PrForm}

// notLooks are beside the looks, far outside, or a look's number in less than 64 bits.
var notLooks = append([]int64{-256, -6, -5, -2, -1, 6, 7, 8, 9, 10, 250, 256, 257, 261, 1 << 16, 1 << 32, 1<<32 + 1, -1 << 32, 1<<40 + 5}, outliers...)

// fitsByForm asks as the chapter does, by the form of the value alone.
func fitsByForm(look int64, v impl.Value) bool {
	if !valueOkByForm(v) {
		return false
	}
	isWay := v.Kind == impl.VaLength || v.Kind == impl.VaShare
	switch look {
	case 0:
		return v.Kind == impl.VaNumber && v.Number >= 0 && v.Number <= 1000
	case 1:
		return isWay && v.Number >= 0
	case 2:
		return isWay
	case 3:
		return v.Kind == impl.VaColor
	case 4:
		return v.Kind == impl.VaWord && (v.Word == "shown" || v.Word == "hidden")
	case 5:
		return v.Kind == impl.VaWord
	}
	return false
}

func keptByForm(look int64, v impl.Value) impl.Value {
	if look < 0 || look > 5 {
		return impl.Value{}
	}
	if look < 2 && v.Number < 0 {
		v.Number = 0
	}
	if look == 0 && v.Number > 1000 {
		v.Number = 1000
	}
	return v
}

func wantFits(t *testing.T, look int64, v impl.Value, want bool) {
	t.Helper()
	if got := impl.Fits(look, v); got != want {
		t.Errorf("Fits(%d, %s) = %t", look, brief(v), got)
	}
}

func wantKept(t *testing.T, look int64, v, want impl.Value) {
	t.Helper()
	if got := impl.Kept(look, v); got != want {
		t.Errorf("Kept(%d, %s) = %s, want %s", look, brief(v), brief(got), brief(want))
	}
}

// wantLookByForm holds Fits and Kept of each look, and of what is none, against the form.
func wantLookByForm(t *testing.T, v impl.Value) {
	t.Helper()
	for _, look := range allLooks {
		wantFits(t, look, v, fitsByForm(look, v))
		wantKept(t, look, v, keptByForm(look, v))
	}
	for _, look := range notLooks {
		wantFits(t, look, v, false)
		wantKept(t, look, v, impl.Value{})
	}
}

// wantFitsWhenKept is promise 8 for two values that fit.
func wantFitsWhenKept(t *testing.T, look int64, a, b impl.Value, p int64) {
	t.Helper()
	mixed := impl.Mixed(a, b, p)
	kept := impl.Kept(look, mixed)
	if !impl.Fits(look, kept) || !fitsByForm(look, kept) || kept != keptByForm(look, mixed) {
		t.Errorf("look %d: Mixed(%v, %v, %d) is Kept as %v", look, a, b, p, kept)
	}
	if impl.Kept(look, kept) != kept {
		t.Errorf("look %d: %v is not Kept as it is", look, kept)
	}
}

func numbersOf(kind int64, list ...int64) []impl.Value {
	values := []impl.Value{}
	for _, n := range list {
		values = append(values, impl.Value{Kind: kind, Number: n})
	}
	return values
}

// fitting are values that fit a look, at the edges of what it may have and in between.
func fitting(look int64) []impl.Value {
	fromZero := []int64{0, 1, 2, 99, 100, 1000, 1001, 65536, 500000, mostNumber - 1, mostNumber}
	belowZero := []int64{-1, -2, -100, -1001, -65537, -500000, leastNumber + 1, leastNumber}
	switch look {
	case impl.PrClear:
		return numbersOf(impl.VaNumber, 0, 1, 2, 255, 256, 499, 500, 501, 998, 999, 1000)
	case impl.PrWide:
		return append(numbersOf(impl.VaLength, fromZero...), numbersOf(impl.VaShare, fromZero...)...)
	case impl.PrLeft:
		return slices.Concat(fitting(impl.PrWide), numbersOf(impl.VaLength, belowZero...), numbersOf(impl.VaShare, belowZero...))
	case impl.PrColor:
		list := []impl.Value{colorOf(0, 0, 0, 255), colorOf(0, 0, 0, 0), colorOf(255, 255, 255, 255), colorOf(255, 0, 255, 0), colorOf(1, 2, 3, 4), colorOf(128, 127, 254, 1)}
		for place := 1; place <= 4; place++ {
			list = append(list, withPlace(colorOf(0, 0, 0, 0), place, 255), withPlace(colorOf(255, 255, 255, 255), place, 0))
		}
		return list
	case impl.PrShow:
		return []impl.Value{shown, hidden}
	}
	list := []impl.Value{shown, hidden}
	for _, s := range append([]string{"a", "z", "a-", "a9", "clear", "form", "a-0123456789", "z-----------"}, nearWords...) {
		list = append(list, wordOf(s))
	}
	return list
}

func TestNumbersOfLooks(t *testing.T) {
	if !slices.Equal(allLooks, []int64{0, 1, 2, 3, 4, 5}) {
		t.Fatal(allLooks)
	}
}

func TestLooksAndTheirNames(t *testing.T) {
	for look, name := range lookNames {
		if got := impl.LookOf(name); got != int64(look) {
			t.Errorf("LookOf(%q) = %d, want %d", name, got, look)
		}
		if got := impl.NameOf(int64(look)); got != name {
			t.Errorf("NameOf(%d) = %q, want %q", look, got, name)
		}
	}
}

func wantNoLook(t *testing.T, name string) {
	t.Helper()
	if got := impl.LookOf(name); got != -1 {
		t.Errorf("LookOf(%.100q) = %d", name, got)
	}
}

func TestLookOfWhatIsNone(t *testing.T) {
	for _, name := range []string{"", " ", "\n", "x", "-", "0", "1", "5", "-1", "PrClear", "opacity", "width", "colour", "display", "plain", "shown", "hidden", "clearwide", "clear wide", "clear,wide"} {
		wantNoLook(t, name)
	}
	for i, name := range lookNames {
		for _, near := range []string{strings.ToUpper(name), strings.ToUpper(name[:1]) + name[1:], name + " ", " " + name, " " + name + " ", name + "\n", "\t" + name, name + name, name + "s", "a" + name, name + ":", name + "-", name + "\x00", "\x00" + name, "'" + name + "'", strings.Repeat(name, 10000), name + strings.Repeat(" ", 100000)} {
			wantNoLook(t, near)
		}
		for from := range name {
			for to := from; to <= len(name); to++ {
				if name[from:to] != name {
					wantNoLook(t, name[from:to])
				}
			}
		}
		for _, other := range lookNames[i+1:] {
			wantNoLook(t, name+other)
			wantNoLook(t, other+name)
			wantNoLook(t, name[:2]+other[2:])
		}
	}
}

// TestLookOfOneByteOff changes, adds and takes away each byte of each name.
func TestLookOfOneByteOff(t *testing.T) {
	for _, name := range lookNames {
		for i := 0; i <= len(name); i++ {
			for b := 0; b < 256; b++ {
				wantNoLook(t, name[:i]+byteText(b)+name[i:])
				if i < len(name) && name[i] != byte(b) {
					wantNoLook(t, name[:i]+byteText(b)+name[i+1:])
				}
			}
			if i < len(name) {
				wantNoLook(t, name[:i]+name[i+1:])
			}
		}
	}
}

func TestWhereThereIsNoLook(t *testing.T) {
	for _, look := range notLooks {
		if got := impl.NameOf(look); got != "" {
			t.Errorf("NameOf(%d) = %q", look, got)
		}
		if got := impl.AtFirst(look); got != (impl.Value{}) {
			t.Errorf("AtFirst(%d) = %v", look, got)
		}
		if impl.HandedDown(look) {
			t.Errorf("HandedDown(%d) = true", look)
		}
		for _, v := range append([]impl.Value{{}, shown, hidden, plainOf(0), plainOf(1000), pixelsOf(0)}, oneOfEach()...) {
			wantFits(t, look, v, false)
			wantKept(t, look, v, impl.Value{})
		}
	}
}

func TestAtFirst(t *testing.T) {
	for look, want := range []impl.Value{plainOf(1000), pixelsOf(0), pixelsOf(0), colorOf(0, 0, 0, 255), wordOf("shown"), wordOf("plain")} {
		if got := impl.AtFirst(int64(look)); got != want {
			t.Errorf("AtFirst(%d) = %v, want %v", look, got, want)
		}
	}
	for look, want := range []string{"1000", "0px", "0px", "#000000", "shown", "plain"} {
		if got := impl.ShowValue(impl.AtFirst(int64(look))); got != want {
			t.Errorf("AtFirst(%d) is shown as %q, want %q", look, got, want)
		}
	}
}

func TestAtFirstFits(t *testing.T) {
	for _, look := range allLooks {
		first := impl.AtFirst(look)
		if !impl.Fits(look, first) || !fitsByForm(look, first) || impl.Kept(look, first) != first {
			t.Errorf("look %d is %v at first", look, first)
		}
		for _, v := range fitting(look) {
			for _, p := range wayParts {
				wantFitsWhenKept(t, look, first, v, p)
				wantFitsWhenKept(t, look, v, first, p)
			}
		}
	}
}

func TestHandedDown(t *testing.T) {
	for look, want := range []bool{false, false, false, true, true, false} {
		if got := impl.HandedDown(int64(look)); got != want {
			t.Errorf("HandedDown(%d) = %t", look, got)
		}
	}
}

func TestWhatIsMixedAndKeptFits(t *testing.T) {
	for _, look := range allLooks {
		for _, a := range fitting(look) {
			for _, b := range fitting(look) {
				for _, p := range wayParts {
					wantFitsWhenKept(t, look, a, b, p)
				}
			}
		}
	}
}

// TestWhatIsMixedAndKeptFitsAtEachPart goes, for each look, all the way past both ends.
func TestWhatIsMixedAndKeptFitsAtEachPart(t *testing.T) {
	pairs := [][2]impl.Value{
		{plainOf(1000), plainOf(0)}, {pixelsOf(0), pixelsOf(mostNumber)}, {shareOf(leastNumber), pixelsOf(mostNumber)},
		{colorOf(0, 255, 18, 7), colorOf(255, 0, 52, 7)}, {shown, hidden}, {wordOf("plain"), wordOf("abcdefghijkl")},
	}
	for look, pair := range pairs {
		for p := int64(minReach); p <= maxReach; p++ {
			wantFitsWhenKept(t, int64(look), pair[0], pair[1], p)
		}
	}
}

func TestWhatFitsIsKeptAsItIs(t *testing.T) {
	for _, look := range allLooks {
		for _, v := range append(fitting(look), rightValues()...) {
			if fitsByForm(look, v) {
				wantFits(t, look, v, true)
				wantKept(t, look, v, v)
			}
		}
		for _, v := range fitting(look) {
			if !fitsByForm(look, v) {
				t.Errorf("%v is in the wrong list", v)
			}
		}
	}
}

func TestFitsOfEachKind(t *testing.T) {
	for _, v := range rightValues() {
		wantLookByForm(t, v)
	}
	kinds := [][]int64{{impl.VaNumber}, {impl.VaLength, impl.VaShare}, {impl.VaLength, impl.VaShare}, {impl.VaColor}, {}, {impl.VaWord}}
	for look, may := range kinds {
		for _, v := range append(oneOfEach(), plainOf(0), pixelsOf(0), shareOf(0), colorOf(0, 0, 0, 0), wordOf("a")) {
			if look == impl.PrWide && v.Number < 0 {
				continue
			}
			wantFits(t, int64(look), v, slices.Contains(may, v.Kind))
		}
	}
}

func TestFitsAtTheLimitsOfItsNumber(t *testing.T) {
	for _, edge := range []int64{leastNumber, -1000, 0, 1000, mostNumber} {
		for n := edge - 3; n <= edge+3; n++ {
			for _, kind := range numberKinds {
				wantLookByForm(t, impl.Value{Kind: kind, Number: n})
			}
		}
	}
	wantFits(t, impl.PrClear, plainOf(0), true)
	wantFits(t, impl.PrClear, plainOf(-1), false)
	wantFits(t, impl.PrClear, plainOf(1000), true)
	wantFits(t, impl.PrClear, plainOf(1001), false)
	for _, kind := range []int64{impl.VaLength, impl.VaShare} {
		of := func(n int64) impl.Value { return impl.Value{Kind: kind, Number: n} }
		wantFits(t, impl.PrWide, of(0), true)
		wantFits(t, impl.PrWide, of(-1), false)
		wantFits(t, impl.PrWide, of(mostNumber), true)
		wantFits(t, impl.PrWide, of(mostNumber+1), false)
		wantFits(t, impl.PrLeft, of(-1), true)
		wantFits(t, impl.PrLeft, of(leastNumber), true)
		wantFits(t, impl.PrLeft, of(leastNumber-1), false)
		wantFits(t, impl.PrLeft, of(mostNumber), true)
		wantFits(t, impl.PrLeft, of(mostNumber+1), false)
	}
}

func TestFitsOfWords(t *testing.T) {
	for _, s := range append([]string{"a", "form", "abcdefghijkl"}, nearWords...) {
		wantFits(t, impl.PrShow, wordOf(s), false)
		wantFits(t, impl.PrForm, wordOf(s), true)
		wantLookByForm(t, wordOf(s))
	}
	for _, show := range []impl.Value{shown, hidden} {
		wantFits(t, impl.PrShow, show, true)
		wantFits(t, impl.PrForm, show, true)
		wantLookByForm(t, show)
	}
	for _, s := range append([]string{"Shown", "SHOWN", "shown ", " shown", "hidden\n", "Hidden", "shown\x00"}, notWords...) {
		wantFits(t, impl.PrShow, wordOf(s), false)
		wantFits(t, impl.PrForm, wordOf(s), false)
		wantLookByForm(t, wordOf(s))
	}
}

// TestFitsOfWhatIsNoValue has what tells more than its Kind as well: shown of each other Kind, and shown with a number.
func TestFitsOfWhatIsNoValue(t *testing.T) {
	list := notValues()
	for place := 0; place < 5; place++ {
		for _, n := range []int64{-1, 1, 255, 1000} {
			list = append(list, withPlace(shown, place, n), withPlace(hidden, place, n), withPlace(wordOf("plain"), place, n))
		}
	}
	for _, kind := range append([]int64{0, 6}, valueKinds[:4]...) {
		list = append(list, impl.Value{Kind: kind, Word: "shown"}, impl.Value{Kind: kind, Word: "hidden"})
	}
	for _, v := range list {
		for _, look := range allLooks {
			wantFits(t, look, v, false)
			wantKept(t, look, v, keptByForm(look, v))
		}
	}
}

func TestKept(t *testing.T) {
	for n, want := range map[int64]int64{leastNumber: 0, -1000: 0, -2: 0, -1: 0, 0: 0, 1: 1, 500: 500, 999: 999, 1000: 1000, 1001: 1000, 1002: 1000, mostNumber: 1000} {
		wantKept(t, impl.PrClear, plainOf(n), plainOf(want))
	}
	for _, kind := range []int64{impl.VaLength, impl.VaShare} {
		of := func(n int64) impl.Value { return impl.Value{Kind: kind, Number: n} }
		for n, want := range map[int64]int64{leastNumber: 0, -1001: 0, -2: 0, -1: 0, 0: 0, 1: 1, 1000: 1000, 1001: 1001, mostNumber: mostNumber} {
			wantKept(t, impl.PrWide, of(n), of(want))
		}
		for _, n := range []int64{leastNumber, -1001, -1, 0, 1, 1001, mostNumber} {
			wantKept(t, impl.PrLeft, of(n), of(n))
		}
	}
	for _, v := range []impl.Value{colorOf(0, 0, 0, 0), colorOf(255, 255, 255, 255), colorOf(1, 2, 3, 4)} {
		wantKept(t, impl.PrColor, v, v)
	}
	for _, v := range []impl.Value{shown, hidden} {
		wantKept(t, impl.PrShow, v, v)
		wantKept(t, impl.PrForm, v, v)
	}
	wantKept(t, impl.PrForm, wordOf("abcdefghijkl"), wordOf("abcdefghijkl"))
}

// TestKeptOfWhatDoesNotFit: the look alone says what is held, whatever else the value tells.
func TestKeptOfWhatDoesNotFit(t *testing.T) {
	wantKept(t, impl.PrClear, pixelsOf(-5), pixelsOf(0))
	wantKept(t, impl.PrClear, shareOf(2000), shareOf(1000))
	wantKept(t, impl.PrWide, plainOf(-5), plainOf(0))
	wantKept(t, impl.PrWide, plainOf(2000), plainOf(2000))
	wantKept(t, impl.PrClear, impl.Value{Number: 2000}, impl.Value{Number: 1000})
	wantKept(t, impl.PrWide, impl.Value{Kind: 6, Number: -1, Red: -1, Word: "A"}, impl.Value{Kind: 6, Red: -1, Word: "A"})
	for _, look := range allLooks {
		wantKept(t, look, impl.Value{}, impl.Value{})
		for _, v := range []impl.Value{shown, hidden, wordOf("plain"), wordOf(""), wordOf("A b"), colorOf(-1, 256, 1000, -1000), colorOf(1, 2, 3, 4), plainOf(0), pixelsOf(7), shareOf(1000)} {
			wantKept(t, look, v, v)
		}
		for _, v := range append(oneOfEach(), plainOf(-7), plainOf(1001), pixelsOf(1001), shareOf(-30)) {
			wantKept(t, look, v, keptByForm(look, v))
		}
	}
}

// TestLooksFarOut: an answer at every argument, with the least and the greatest int64 as a look and in each field.
func TestLooksFarOut(t *testing.T) {
	for _, far := range outliers {
		for _, kind := range append([]int64{far}, valueKinds...) {
			wantLookByForm(t, impl.Value{Kind: kind, Number: far, Red: far, Green: far, Blue: far, Clear: far, Word: "shown"})
			for place := 0; place < 5; place++ {
				wantLookByForm(t, withPlace(impl.Value{Kind: kind}, place, far))
				wantLookByForm(t, withPlace(impl.Value{Kind: kind, Word: "shown"}, place, far))
			}
			for _, look := range allLooks {
				wantFits(t, look, impl.Value{Kind: kind, Number: far}, false)
			}
		}
		for _, look := range allLooks {
			wantFits(t, look, impl.Value{Kind: far, Word: "shown"}, false)
			wantFits(t, far, impl.AtFirst(look), false)
			wantKept(t, far, impl.AtFirst(look), impl.Value{})
		}
	}
}

// TestLooksAnswerAlike: an answer is the same again after others were asked for, and what was answered stays as it is.
func TestLooksAnswerAlike(t *testing.T) {
	values := append([]impl.Value{{}, shown, plainOf(-5), pixelsOf(-5), plainOf(1001)}, oneOfEach()...)
	before := slices.Clone(values)
	first := []any{}
	for round := range 2 {
		next := []any{}
		for _, look := range slices.Concat(notLooks, allLooks) {
			next = append(next, impl.NameOf(look), impl.AtFirst(look), impl.HandedDown(look), impl.LookOf(impl.NameOf(look)))
			for _, v := range values {
				next = append(next, impl.Fits(look, v), impl.Kept(look, v))
			}
			mine := impl.AtFirst(look)
			mine.Number, mine.Word = 5, "other"
		}
		if round == 0 {
			first = next
		}
		if !slices.Equal(first, next) || !slices.Equal(values, before) {
			t.Errorf("round %d: %v, then %v", round, first, next)
		}
	}
}
