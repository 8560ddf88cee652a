package tests

import (
	"slices"
	"testing"

	"loop.example/g00521/impl"
)

const half = 32768

var shown = wordOf("shown")
var hidden = wordOf("hidden")

// wayParts are where a way begins, ends, is halved and may reach to, with what is beside each, and some in between.
var wayParts = []int64{
	minReach, minReach + 1, -impl.One - 1, -impl.One, -half, -2, -1, 0, 1, 2, 255, 257, 16384, 21845, half - 2, half - 1, half, half + 1, half + 2,
	43690, 49152, impl.One - 2, impl.One - 1, impl.One, impl.One + 1, impl.One + 2, 98304, 2 * impl.One, maxReach - 1, maxReach,
}

// notOnTheWay are out of the range of p.
var notOnTheWay = append([]int64{minReach - 1, minReach - 2, maxReach + 1, maxReach + 2, 4 * impl.One, -4 * impl.One}, outliers...)

// nearWords are almost shown or hidden, or as such words in another program.
var nearWords = []string{
	"show", "shown-", "showns", "hide", "hidde", "hidden-", "hiddens", "shown1", "hidden0", "shownhidden", "shown-hidden", "visible", "none", "s", "h", "plain", "abcdefghijkl",
}

// canMixByForm asks as the chapter does, by the form of the values alone.
func canMixByForm(a, b impl.Value) bool {
	if !valueOkByForm(a) || !valueOkByForm(b) || a.Kind != b.Kind {
		return false
	}
	isShow := func(v impl.Value) bool { return v.Word == "shown" || v.Word == "hidden" }
	return a.Kind != impl.VaWord || isShow(a) && isShow(b)
}

// heldByForm is a, and b less a, times p, by One, down, no farther than low and high.
func heldByForm(a, b, p, low, high int64) int64 {
	n := a + timesBy(b-a, p, 65536)
	if n < low {
		return low
	}
	if n > high {
		return high
	}
	return n
}

func mixedByForm(a, b impl.Value, p int64) impl.Value {
	switch {
	case !valueOkByForm(a) || !valueOkByForm(b) || p < -131072 || p > 196608:
		return impl.Value{}
	case !canMixByForm(a, b) && p < 32768:
		return a
	case !canMixByForm(a, b):
		return b
	case a.Kind == impl.VaWord && p > 0 && p < 65536 && (a.Word == "shown" || b.Word == "shown"):
		return wordOf("shown")
	case a.Kind == impl.VaWord && p < 65536:
		return a
	case a.Kind == impl.VaWord:
		return b
	case a.Kind == impl.VaColor:
		return colorOf(heldByForm(a.Red, b.Red, p, 0, 255), heldByForm(a.Green, b.Green, p, 0, 255), heldByForm(a.Blue, b.Blue, p, 0, 255), heldByForm(a.Clear, b.Clear, p, 0, 255))
	}
	return impl.Value{Kind: a.Kind, Number: heldByForm(a.Number, b.Number, p, -1000000, 1000000)}
}

func apartByForm(a, b impl.Value) int64 {
	if !canMixByForm(a, b) {
		return -1
	}
	sum := int64(0)
	for i, n := range placesOf(&a) {
		far := *n - *placesOf(&b)[i]
		if far < 0 {
			far = -far
		}
		sum += far
	}
	if a.Word != b.Word {
		sum++
	}
	return sum
}

func wantCanMix(t *testing.T, a, b impl.Value, want bool) {
	t.Helper()
	if got := impl.CanMix(a, b); got != want {
		t.Errorf("CanMix(%s, %s) = %t", brief(a), brief(b), got)
	}
}

func wantMixed(t *testing.T, a, b impl.Value, p int64, want impl.Value) {
	t.Helper()
	if got := impl.Mixed(a, b, p); got != want {
		t.Errorf("Mixed(%s, %s, %d) = %s, want %s", brief(a), brief(b), p, brief(got), brief(want))
	}
}

func wantApart(t *testing.T, a, b impl.Value, want int64) {
	t.Helper()
	if got := impl.Apart(a, b); got != want {
		t.Errorf("Apart(%s, %s) = %d, want %d", brief(a), brief(b), got, want)
	}
	if got := impl.Apart(b, a); got != want {
		t.Errorf("Apart(%s, %s) = %d, want %d", brief(b), brief(a), got, want)
	}
}

// wantMixing holds all three functions against the form, at every one of the parts.
func wantMixing(t *testing.T, a, b impl.Value, list []int64) {
	t.Helper()
	wantCanMix(t, a, b, canMixByForm(a, b))
	wantCanMix(t, b, a, canMixByForm(a, b))
	wantApart(t, a, b, apartByForm(a, b))
	for _, p := range list {
		wantMixed(t, a, b, p, mixedByForm(a, b, p))
	}
}

// wantFitsBetween is promise 7 for two right values.
func wantFitsBetween(t *testing.T, a, b impl.Value, list []int64) {
	t.Helper()
	wantMixed(t, a, b, 0, a)
	wantMixed(t, a, b, impl.One, b)
	apart := impl.Apart(a, b)
	for _, p := range list {
		got := impl.Mixed(a, b, p)
		if !impl.ValueOk(got) || got.Kind != a.Kind && got.Kind != b.Kind {
			t.Errorf("Mixed(%v, %v, %d) = %v", a, b, p, got)
		}
		if !impl.CanMix(a, b) {
			if got != a && got != b {
				t.Errorf("Mixed(%v, %v, %d) = %v", a, b, p, got)
			}
			continue
		}
		if p < 0 || p > impl.One {
			continue
		}
		back, on := impl.Apart(a, got), impl.Apart(got, b)
		if back < 0 || back > apart || on < 0 || on > apart {
			t.Errorf("Mixed(%v, %v, %d) = %v, which is %d and %d from them, who are %d apart", a, b, p, got, back, on, apart)
		}
	}
}

// fewValues are right values of each Kind, few enough to be mixed with one another.
func fewValues() []impl.Value {
	list := []impl.Value{shown, hidden, wordOf("plain"), wordOf("a"), wordOf("abcdefghijkl")}
	for _, kind := range numberKinds {
		for _, n := range []int64{leastNumber, leastNumber + 1, -65537, -256, -7, -1, 0, 1, 2, 10, 20, 255, 256, 1000, 65536, mostNumber - 1, mostNumber} {
			list = append(list, impl.Value{Kind: kind, Number: n})
		}
	}
	for place := 1; place <= 4; place++ {
		for _, n := range []int64{0, 1, 128, 254, 255} {
			list = append(list, withPlace(colorOf(0, 0, 0, 0), place, n), withPlace(colorOf(255, 255, 255, 255), place, n), withPlace(colorOf(18, 52, 86, 120), place, n))
		}
	}
	return list
}

func TestMixedFitsBetween(t *testing.T) {
	for _, a := range fewValues() {
		for _, b := range fewValues() {
			wantFitsBetween(t, a, b, wayParts)
			wantMixing(t, a, b, wayParts)
		}
	}
}

func TestMixedOfRightValuesIsAAtZeroAndBAtOne(t *testing.T) {
	for _, a := range rightValues() {
		for _, b := range append(oneOfEach(), shown, hidden, plainOf(leastNumber), pixelsOf(mostNumber), shareOf(0), colorOf(0, 255, 0, 255)) {
			wantFitsBetween(t, a, b, []int64{minReach, -1, 1, half - 1, half, impl.One - 1, maxReach})
			wantFitsBetween(t, b, a, []int64{minReach, -1, 1, half - 1, half, impl.One - 1, maxReach})
		}
		wantFitsBetween(t, a, a, []int64{minReach, -1, 1, half, impl.One - 1, maxReach})
	}
}

// TestMixedAtEachPart: what is between two of a Kind never turns back on its way.
func TestMixedAtEachPart(t *testing.T) {
	a, b := pixelsOf(-300), pixelsOf(1000)
	c, d := colorOf(0, 255, 18, 7), colorOf(255, 0, 52, 7)
	last, lastColor := a, c
	for p := int64(0); p <= impl.One; p++ {
		v, color := impl.Mixed(a, b, p), impl.Mixed(c, d, p)
		if v.Number < last.Number || color.Red < lastColor.Red || color.Green > lastColor.Green || color.Blue < lastColor.Blue || color.Clear != 7 {
			t.Fatalf("at %d: %v behind %v, %v behind %v", p, v, last, color, lastColor)
		}
		if v != mixedByForm(a, b, p) || color != mixedByForm(c, d, p) {
			t.Fatalf("at %d: %v, %v", p, v, color)
		}
		last, lastColor = v, color
	}
}

func TestMixedOfNumbers(t *testing.T) {
	for _, kind := range numberKinds {
		of := func(n int64) impl.Value { return impl.Value{Kind: kind, Number: n} }
		wantMixed(t, of(10), of(20), half, of(15))
		wantMixed(t, of(10), of(20), half-1, of(14))
		wantMixed(t, of(20), of(10), half, of(15))
		wantMixed(t, of(20), of(10), half+1, of(14))
		wantMixed(t, of(10), of(20), 1, of(10))
		wantMixed(t, of(20), of(10), 1, of(19))
		wantMixed(t, of(10), of(20), -1, of(9))
		wantMixed(t, of(10), of(20), impl.One-1, of(19))
		wantMixed(t, of(10), of(20), impl.One+1, of(20))
		wantMixed(t, of(20), of(10), impl.One+1, of(9))
		wantMixed(t, of(10), of(20), -impl.One, of(0))
		wantMixed(t, of(10), of(20), minReach, of(-10))
		wantMixed(t, of(10), of(20), maxReach, of(40))
		wantMixed(t, of(-3), of(0), half, of(-2))
		wantMixed(t, of(0), of(-3), half, of(-2))
	}
}

func TestMixedNumbersAreHeld(t *testing.T) {
	for _, kind := range numberKinds {
		of := func(n int64) impl.Value { return impl.Value{Kind: kind, Number: n} }
		wantMixed(t, of(leastNumber), of(mostNumber), maxReach, of(mostNumber))
		wantMixed(t, of(leastNumber), of(mostNumber), minReach, of(leastNumber))
		wantMixed(t, of(mostNumber), of(leastNumber), maxReach, of(leastNumber))
		wantMixed(t, of(mostNumber), of(leastNumber), minReach, of(mostNumber))
		wantMixed(t, of(leastNumber), of(mostNumber), -1, of(leastNumber))
		wantMixed(t, of(leastNumber), of(mostNumber), impl.One+1, of(mostNumber))
		wantMixed(t, of(0), of(500000), 2*impl.One, of(mostNumber))
		wantMixed(t, of(0), of(500000), 2*impl.One-1, of(999992))
		wantMixed(t, of(0), of(499999), 2*impl.One, of(999998))
		wantMixed(t, of(0), of(500001), 2*impl.One, of(mostNumber))
		wantMixed(t, of(0), of(-500000), 2*impl.One, of(leastNumber))
		wantMixed(t, of(0), of(-499999), 2*impl.One, of(-999998))
		wantMixed(t, of(0), of(-500001), 2*impl.One, of(leastNumber))
	}
}

// TestMixedColorsByThemselves lets one of the four go its way, past its ends too, while the others stay.
func TestMixedColorsByThemselves(t *testing.T) {
	for place := 1; place <= 4; place++ {
		for _, ground := range []impl.Value{colorOf(0, 0, 0, 0), colorOf(255, 255, 255, 255), colorOf(18, 52, 86, 120)} {
			a, b := withPlace(ground, place, 100), withPlace(ground, place, 200)
			for p, want := range map[int64]int64{
				minReach: 0, -impl.One - 1: 0, -impl.One: 0, 1 - impl.One: 0, -half: 50, -1: 99, 0: 100, 1: 100, half - 1: 149, half: 150, half + 1: 150,
				impl.One - 1: 199, impl.One: 200, impl.One + 1: 200, 98304: 250, 101580: 254, 101581: 255, 102236: 255, 2 * impl.One: 255, maxReach: 255,
			} {
				wantMixed(t, a, b, p, withPlace(ground, place, want))
			}
			wantMixed(t, b, a, half+1, withPlace(ground, place, 149))
			wantMixed(t, b, a, maxReach, withPlace(ground, place, 0))
			wantMixed(t, b, a, minReach, withPlace(ground, place, 255))
		}
	}
	wantMixed(t, colorOf(200, 0, 0, 255), colorOf(0, 100, 0, 255), maxReach, colorOf(0, 255, 0, 255))
	wantMixed(t, colorOf(0, 10, 20, 30), colorOf(10, 20, 30, 40), half, colorOf(5, 15, 25, 35))
}

func TestMixedOfShownAndHidden(t *testing.T) {
	for _, p := range wayParts {
		wantMixed(t, shown, shown, p, shown)
		wantMixed(t, hidden, hidden, p, hidden)
		toHidden, toShown := shown, shown
		if p >= impl.One {
			toHidden = hidden
		}
		if p <= 0 {
			toShown = hidden
		}
		wantMixed(t, shown, hidden, p, toHidden)
		wantMixed(t, hidden, shown, p, toShown)
	}
}

// TestMixedOfWhatCantBeMixed: one of them till the half, the other one from there on.
func TestMixedOfWhatCantBeMixed(t *testing.T) {
	list := append([]impl.Value{shown, hidden, wordOf("plains")}, oneOfEach()...)
	for _, a := range list {
		for _, b := range list {
			if canMixByForm(a, b) {
				continue
			}
			for _, p := range wayParts {
				want := b
				if p < half {
					want = a
				}
				wantMixed(t, a, b, p, want)
			}
		}
	}
}

func TestMixedOutOfRange(t *testing.T) {
	list := append([]impl.Value{shown, hidden}, oneOfEach()...)
	for _, a := range list {
		for _, b := range list {
			for _, p := range notOnTheWay {
				wantMixed(t, a, b, p, impl.Value{})
			}
			for _, p := range []int64{minReach, maxReach} {
				if impl.Mixed(a, b, p) == (impl.Value{}) {
					t.Errorf("Mixed(%v, %v, %d) is none", a, b, p)
				}
			}
		}
	}
}

func TestCanMix(t *testing.T) {
	others := []impl.Value{plainOf(mostNumber), pixelsOf(0), shareOf(leastNumber), colorOf(0, 0, 0, 0), shown}
	ones := append(oneOfEach()[:4], hidden)
	for i, a := range ones {
		for k, b := range others {
			wantCanMix(t, a, b, i == k)
			wantCanMix(t, b, a, i == k)
		}
		wantCanMix(t, a, a, true)
	}
}

func TestCanMixWords(t *testing.T) {
	wantCanMix(t, shown, hidden, true)
	wantCanMix(t, hidden, shown, true)
	wantCanMix(t, shown, shown, true)
	wantCanMix(t, hidden, hidden, true)
	for _, s := range nearWords {
		for _, show := range []impl.Value{shown, hidden} {
			wantCanMix(t, show, wordOf(s), false)
			wantCanMix(t, wordOf(s), show, false)
			wantMixing(t, show, wordOf(s), wayParts)
			wantMixing(t, wordOf(s), show, wayParts)
		}
		for _, other := range nearWords {
			wantCanMix(t, wordOf(s), wordOf(other), false)
			wantApart(t, wordOf(s), wordOf(other), -1)
		}
	}
}

func TestApart(t *testing.T) {
	for _, kind := range numberKinds {
		of := func(n int64) impl.Value { return impl.Value{Kind: kind, Number: n} }
		wantApart(t, of(leastNumber), of(mostNumber), 2000000)
		wantApart(t, of(leastNumber), of(0), 1000000)
		wantApart(t, of(mostNumber), of(mostNumber-1), 1)
		wantApart(t, of(leastNumber), of(leastNumber), 0)
		wantApart(t, of(10), of(20), 10)
		wantApart(t, of(-10), of(20), 30)
		wantApart(t, of(-20), of(-10), 10)
		wantApart(t, of(7), of(7), 0)
	}
	wantApart(t, colorOf(0, 0, 0, 0), colorOf(255, 255, 255, 255), 1020)
	wantApart(t, colorOf(255, 0, 255, 0), colorOf(0, 255, 0, 255), 1020)
	wantApart(t, colorOf(200, 0, 0, 255), colorOf(0, 100, 0, 255), 300)
	wantApart(t, colorOf(1, 20, 3, 40), colorOf(10, 2, 30, 4), 90)
	wantApart(t, colorOf(1, 2, 3, 4), colorOf(1, 2, 3, 4), 0)
	for place := 1; place <= 4; place++ {
		wantApart(t, colorOf(18, 52, 86, 120), withPlace(colorOf(18, 52, 86, 120), place, 255), 255-[]int64{18, 52, 86, 120}[place-1])
		wantApart(t, colorOf(0, 0, 0, 0), withPlace(colorOf(0, 0, 0, 0), place, 255), 255)
		wantApart(t, colorOf(9, 9, 9, 9), withPlace(colorOf(9, 9, 9, 9), place, 8), 1)
	}
	wantApart(t, shown, hidden, 1)
	wantApart(t, shown, shown, 0)
	wantApart(t, hidden, hidden, 0)
}

func TestApartOfWhatCantBeMixed(t *testing.T) {
	ones := append([]impl.Value{shown, hidden}, oneOfEach()...)
	for _, a := range ones {
		for _, b := range ones {
			if a.Kind != b.Kind {
				wantApart(t, a, b, -1)
			}
		}
	}
	wantApart(t, wordOf("plain"), wordOf("plain"), -1)
	wantApart(t, wordOf("plain"), wordOf("other"), -1)
	wantApart(t, wordOf("plain"), shown, -1)
	wantApart(t, wordOf("plain"), hidden, -1)
}

func wantNoMixing(t *testing.T, a, b impl.Value) {
	t.Helper()
	wantCanMix(t, a, b, false)
	wantApart(t, a, b, -1)
	for _, p := range []int64{minReach, -1, 0, 1, half - 1, half, impl.One, maxReach, maxReach + 1} {
		wantMixed(t, a, b, p, impl.Value{})
	}
}

func TestMixingOfWhatIsNoValue(t *testing.T) {
	rights := append([]impl.Value{shown, hidden, plainOf(0), colorOf(255, 255, 255, 255)}, oneOfEach()...)
	for _, wrong := range notValues() {
		for _, right := range rights {
			wantNoMixing(t, wrong, right)
			wantNoMixing(t, right, wrong)
		}
		wantNoMixing(t, wrong, wrong)
	}
	for _, show := range []impl.Value{shown, hidden} {
		for place := 0; place < 5; place++ {
			wantNoMixing(t, withPlace(show, place, 1), show)
			wantNoMixing(t, show, withPlace(show, place, 1))
		}
	}
}

func TestMixingOfTwoThatAreNoValues(t *testing.T) {
	list := notValues()
	for i, a := range list {
		for k := i % 7; k < len(list); k += 7 {
			wantCanMix(t, a, list[k], false)
			wantApart(t, a, list[k], -1)
			wantMixed(t, a, list[k], half, impl.Value{})
		}
	}
}

// TestMixingFarOut: an answer at every argument, with the least and the greatest int64 in each place and at p.
func TestMixingFarOut(t *testing.T) {
	for _, far := range outliers {
		for _, other := range outliers {
			for _, kind := range append([]int64{far}, valueKinds...) {
				a := impl.Value{Kind: kind, Number: far, Red: far, Green: far, Blue: far, Clear: far, Word: "shown"}
				b := impl.Value{Kind: kind, Number: other, Red: other, Green: other, Blue: other, Clear: other, Word: "hidden"}
				wantNoMixing(t, a, b)
				wantMixed(t, a, b, far, impl.Value{})
				for place := 0; place < 5; place++ {
					one, two := withPlace(impl.Value{Kind: kind}, place, far), withPlace(impl.Value{Kind: kind}, place, other)
					wantNoMixing(t, one, two)
					wantMixed(t, one, two, other, impl.Value{})
				}
			}
		}
	}
}

// TestMixingAnswersAlike: an answer is the same again after others were asked for.
func TestMixingAnswersAlike(t *testing.T) {
	list := append(oneOfEach(), shown, hidden, colorOf(9, 8, 7, 6))
	before := slices.Clone(list)
	first := []impl.Value{}
	for round := range 2 {
		next := []impl.Value{}
		for _, a := range list {
			for _, b := range list {
				next = append(next, impl.Mixed(a, b, 20000), impl.Mixed(b, a, maxReach))
				impl.CanMix(a, b)
				impl.Apart(a, b)
			}
		}
		if round == 0 {
			first = next
		}
		if !slices.Equal(first, next) || !slices.Equal(list, before) {
			t.Errorf("round %d: %v, then %v", round, first, next)
		}
	}
}
