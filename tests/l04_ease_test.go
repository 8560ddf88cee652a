package tests

import (
	"regexp"
	"strconv"
	"strings"
	"testing"

	"loop.example/g00521/impl"
)

var theLine = impl.Ease{Kind: impl.EsLine}

// shownEases are eases of every Kind, each with the one text that shows it.
var shownEases = map[string]impl.Ease{
	"line":                  theLine,
	"curve 0 0 0 0":         curveEase(0, 0, 0, 0),
	"curve 25 10 25 100":    curveEase(25, 10, 25, 100),
	"curve 1 2 3 4":         curveEase(1, 2, 3, 4),
	"curve 0 -100 100 200":  curveEase(0, -100, 100, 200),
	"curve 100 200 0 -100":  curveEase(100, 200, 0, -100),
	"curve 7 -1 93 101":     curveEase(7, -1, 93, 101),
	"curve 10 -10 99 -99":   curveEase(10, -10, 99, -99),
	"curve 100 199 100 109": curveEase(100, 199, 100, 109),
	"steps 1 start":         stepsEase(1, impl.JpStart),
	"steps 4 start":         stepsEase(4, impl.JpStart),
	"steps 100 start":       stepsEase(100, impl.JpStart),
	"steps 1 end":           stepsEase(1, impl.JpEnd),
	"steps 4 end":           stepsEase(4, impl.JpEnd),
	"steps 100 end":         stepsEase(100, impl.JpEnd),
	"steps 2 none":          stepsEase(2, impl.JpNone),
	"steps 10 none":         stepsEase(10, impl.JpNone),
	"steps 100 none":        stepsEase(100, impl.JpNone),
	"steps 1 both":          stepsEase(1, impl.JpBoth),
	"steps 99 both":         stepsEase(99, impl.JpBoth),
	"steps 100 both":        stepsEase(100, impl.JpBoth),
}

// namedEases are read, but shown as what they stand for.
var namedEases = map[string]string{
	"slow":  "curve 42 0 100 100",
	"quick": "curve 0 0 58 100",
	"soft":  "curve 25 10 25 100",
}

const formX = ` (0|[1-9][0-9]?|100)`
const formY = ` (-100|-[1-9][0-9]?|0|[1-9][0-9]?|1[0-9][0-9]|200)`

// easeForm tells the texts that are to be read by their form alone, without reading them.
var easeForm = regexp.MustCompile(`\A(line|slow|quick|soft|curve` + formX + formY + formX + formY +
	`|steps ([1-9][0-9]?|100) (start|end|both)|steps ([2-9]|[1-9][0-9]|100) none)\z`)

func curveEase(x1, y1, x2, y2 int64) impl.Ease {
	return impl.Ease{Kind: impl.EsCurve, Curve: impl.Curve{X1: x1, Y1: y1, X2: x2, Y2: y2}}
}

func stepsEase(count, jump int64) impl.Ease {
	return impl.Ease{Kind: impl.EsSteps, Steps: impl.Steps{Count: count, Jump: jump}}
}

func someEases() []impl.Ease {
	list := []impl.Ease{theLine}
	for _, e := range shownEases {
		list = append(list, e)
	}
	for _, c := range allCurves() {
		list = append(list, impl.Ease{Kind: impl.EsCurve, Curve: c})
	}
	for _, s := range someSteps() {
		list = append(list, impl.Ease{Kind: impl.EsSteps, Steps: s})
	}
	return list
}

// notEases are of no Kind, tell what is not of their Kind, or have a Curve or Steps that are not right.
func notEases() []impl.Ease {
	list := []impl.Ease{}
	for _, kind := range append([]int64{-3, -2, -1, 0, 4, 5, 255, 257, 258, 259}, outliers...) {
		for _, e := range []impl.Ease{theLine, curveEase(25, 10, 25, 100), stepsEase(4, impl.JpEnd)} {
			e.Kind = kind
			list = append(list, e, impl.Ease{Kind: kind})
		}
	}
	for _, much := range append([]int64{-1, 1, 2, 100}, outliers...) {
		list = append(list, tellsMore(much)...)
	}
	for _, c := range notCurves() {
		list = append(list, impl.Ease{Kind: impl.EsCurve, Curve: c}, impl.Ease{Kind: impl.EsLine, Curve: c}, impl.Ease{Kind: impl.EsSteps, Curve: c})
	}
	for _, s := range notSteps() {
		list = append(list, impl.Ease{Kind: impl.EsSteps, Steps: s})
		if (s != impl.Steps{}) {
			list = append(list, impl.Ease{Kind: impl.EsLine, Steps: s}, impl.Ease{Kind: impl.EsCurve, Steps: s})
		}
	}
	return append(list, swappedEases()...)
}

// tellsMore puts much (not 0) into each place that is not of the Kind.
func tellsMore(much int64) []impl.Ease {
	list := []impl.Ease{}
	for _, c := range []impl.Curve{{X1: much}, {Y1: much}, {X2: much}, {Y2: much}} {
		list = append(list, impl.Ease{Kind: impl.EsLine, Curve: c},
			impl.Ease{Kind: impl.EsSteps, Curve: c, Steps: impl.Steps{Count: 4, Jump: impl.JpEnd}})
	}
	for _, s := range []impl.Steps{{Count: much}, {Jump: much}} {
		list = append(list, impl.Ease{Kind: impl.EsLine, Steps: s},
			impl.Ease{Kind: impl.EsCurve, Curve: impl.Curve{X1: 25, Y1: 10, X2: 25, Y2: 100}, Steps: s})
	}
	return list
}

// swappedEases have a right Curve or right Steps, or both, beside a Kind that has them not.
func swappedEases() []impl.Ease {
	curve, steps := impl.Curve{X1: 25, Y1: 10, X2: 25, Y2: 100}, impl.Steps{Count: 4, Jump: impl.JpEnd}
	return []impl.Ease{
		{}, {Curve: curve}, {Steps: steps},
		{Kind: impl.EsLine, Curve: curve}, {Kind: impl.EsLine, Steps: steps}, {Kind: impl.EsLine, Curve: curve, Steps: steps},
		{Kind: impl.EsCurve, Steps: steps}, {Kind: impl.EsCurve, Curve: curve, Steps: steps},
		{Kind: impl.EsSteps}, {Kind: impl.EsSteps, Curve: curve}, {Kind: impl.EsSteps, Curve: curve, Steps: steps},
	}
}

func wantEaseOk(t *testing.T, e impl.Ease, want bool) {
	t.Helper()
	if got := impl.EaseOk(e); got != want {
		t.Errorf("EaseOk(%v) = %t", e, got)
	}
}

func wantEased(t *testing.T, e impl.Ease, p, want int64) {
	t.Helper()
	if got := impl.EasedBy(e, p); got != want {
		t.Errorf("EasedBy(%v, %d) = %d, want %d", e, p, got, want)
	}
}

func wantShown(t *testing.T, e impl.Ease, want string) {
	t.Helper()
	if got := impl.ShowEase(e); got != want {
		t.Errorf("ShowEase(%v) = %q, want %q", e, got, want)
	}
}

func wantRead(t *testing.T, s string, want impl.Ease) {
	t.Helper()
	if got, is := impl.ReadEase(s); !is || got != want {
		t.Errorf("ReadEase(%q) = %v, %t, want %v", s, got, is, want)
	}
}

func wantNoEase(t *testing.T, s string) {
	t.Helper()
	if got, is := impl.ReadEase(s); is || got != (impl.Ease{}) {
		t.Errorf("ReadEase(%q) = %v, %t", s, got, is)
	}
}

// wantByForm: what looks like an ease is read and shown as it was written, but for the names; nothing else is read.
func wantByForm(t *testing.T, s string) {
	t.Helper()
	if !easeForm.MatchString(s) {
		wantNoEase(t, s)
		return
	}
	shown := s
	if long, is := namedEases[s]; is {
		shown = long
	}
	e, is := impl.ReadEase(s)
	if !is || impl.ShowEase(e) != shown {
		t.Errorf("ReadEase(%q) = %v, %t", s, e, is)
	}
}

func TestNumbersOfEases(t *testing.T) {
	if impl.EsLine != 1 || impl.EsCurve != 2 || impl.EsSteps != 3 {
		t.Fatal(impl.EsLine, impl.EsCurve, impl.EsSteps)
	}
}

func TestEaseOk(t *testing.T) {
	for _, e := range someEases() {
		wantEaseOk(t, e, true)
	}
	for _, e := range notEases() {
		wantEaseOk(t, e, false)
	}
}

func TestEaseOkAtTheLimitsOfItsCurve(t *testing.T) {
	for n := int64(-103); n <= 203; n++ {
		isX, isY := n >= 0 && n <= 100, n >= -100 && n <= 200
		wantEaseOk(t, curveEase(n, 0, 0, 0), isX)
		wantEaseOk(t, curveEase(0, n, 0, 0), isY)
		wantEaseOk(t, curveEase(0, 0, n, 0), isX)
		wantEaseOk(t, curveEase(0, 0, 0, n), isY)
	}
}

func TestEaseOkAtTheLimitsOfItsSteps(t *testing.T) {
	for jump := int64(-1); jump <= 6; jump++ {
		for count := int64(-2); count <= maxSteps+2; count++ {
			want := jump >= 1 && jump <= 4 && count >= 1 && count <= 100 && (jump != impl.JpNone || count > 1)
			wantEaseOk(t, stepsEase(count, jump), want)
		}
	}
}

func TestEasedByOneIsOne(t *testing.T) {
	for _, e := range someEases() {
		wantEased(t, e, impl.One, impl.One)
	}
	for s := range namedEases {
		e, _ := impl.ReadEase(s)
		wantEased(t, e, impl.One, impl.One)
	}
}

func TestLineIsThePart(t *testing.T) {
	for p := int64(0); p <= impl.One; p++ {
		wantEased(t, theLine, p, p)
	}
}

func TestEasedIsCurveAtAndStepsAt(t *testing.T) {
	for p := int64(0); p <= impl.One; p += 61 {
		for _, c := range allCurves() {
			wantEased(t, impl.Ease{Kind: impl.EsCurve, Curve: c}, p, impl.CurveAt(c, p))
		}
		for _, s := range someSteps() {
			wantEased(t, impl.Ease{Kind: impl.EsSteps, Steps: s}, p, impl.StepsAt(s, p))
		}
	}
}

func TestEasedOnItsWay(t *testing.T) {
	wantEased(t, curveEase(25, 10, 25, 100), 32768, 52633)
	wantEased(t, curveEase(50, -100, 50, -100), 32768, -40960)
	wantEased(t, curveEase(50, 200, 50, 200), 32768, 106496)
	wantEased(t, stepsEase(4, impl.JpStart), 0, 16384)
	wantEased(t, stepsEase(4, impl.JpEnd), 20000, 16384)
	wantEased(t, stepsEase(4, impl.JpNone), 16384, 21845)
	wantEased(t, stepsEase(4, impl.JpBoth), 0, 13107)
}

func TestEasedByWhatIsNotRight(t *testing.T) {
	for _, e := range someEases() {
		for _, p := range append([]int64{-1, impl.One + 1}, outliers...) {
			wantEased(t, e, p, 0)
		}
	}
	for _, e := range notEases() {
		for _, p := range append([]int64{-1, 0, 1, 32768, impl.One, impl.One + 1}, outliers...) {
			wantEased(t, e, p, 0)
		}
	}
}

func TestShowEase(t *testing.T) {
	for text, e := range shownEases {
		wantShown(t, e, text)
		wantRead(t, text, e)
	}
}

func TestShowEaseOfWhatIsNotRight(t *testing.T) {
	for _, e := range notEases() {
		wantShown(t, e, "")
	}
}

func TestReadEaseOfShowEaseIsTheEase(t *testing.T) {
	for _, e := range someEases() {
		wantRead(t, impl.ShowEase(e), e)
	}
	for x := int64(0); x <= 100; x++ {
		for y := int64(-100); y <= 200; y++ {
			first, second := curveEase(x, y, 100-x, 0), curveEase(x, 0, 100-x, y)
			wantRead(t, impl.ShowEase(first), first)
			wantRead(t, impl.ShowEase(second), second)
		}
	}
	for _, jump := range jumpKinds {
		for count := int64(2); count <= maxSteps; count++ {
			wantRead(t, impl.ShowEase(stepsEase(count, jump)), stepsEase(count, jump))
		}
	}
}

func TestNamesOfCurves(t *testing.T) {
	wantRead(t, "slow", curveEase(42, 0, 100, 100))
	wantRead(t, "quick", curveEase(0, 0, 58, 100))
	wantRead(t, "soft", curveEase(25, 10, 25, 100))
	for name, long := range namedEases {
		e, _ := impl.ReadEase(name)
		wantShown(t, e, long)
		wantRead(t, long, e)
	}
}

func TestReadEaseOfNearlyOne(t *testing.T) {
	for _, s := range []string{
		"", " ", "  ", "    ", "1", "0", "curve", "steps", "curve ", "steps ", "end", "none", "start 4", "4", "25 10 25 100", "4 end",
		"line ", " line", "line line", "line 0", "line 1", "lines", "lin", "Line", "LINE", "line\n", "line\x00", "line 0 0 0 0", "line 4 end",
		"slow ", " slow", "Slow", "slow 1", "slowly", "slo", "quick ", " quick", "Quick", "soft ", " soft", "SOFT", "soft soft", "fast", "ease",
		"slow 42 0 100 100", "quick 4 end", "curve slow", "curve 25 10 25", "curve 25 10 25 100 5", "curve 25 10 25 100 ", " curve 25 10 25 100",
		"curve  25 10 25 100", "curve 25  10 25 100", "curve 25 10 25  100", "curve 25 10 25 ", "curve 25 10  100", "Curve 25 10 25 100",
		"CURVE 25 10 25 100", "curve 025 10 25 100", "curve 25 010 25 100", "curve 25 10 00 100", "curve -0 10 25 100", "curve 25 -0 25 100",
		"curve +25 10 25 100", "curve 25 +10 25 100", "curve 25 10 25 0100", "curve 25 10 25 +100", "curve 25 - 25 100", "curve 25 --1 25 100",
		"curve 25 10 25 1e2", "curve 25 10.0 25 100", "curve 25 1_0 25 100", "curve 25 0x10 25 100", "curve 25,10,25,100", "curve\t25 10 25 100",
		"curve 25 10 25 100\n", "curve25 10 25 100", "curve -1 10 25 100", "curve 101 10 25 100", "curve 25 -101 25 100", "curve 25 201 25 100",
		"curve 25 10 -1 100", "curve 25 10 101 100", "curve 25 10 25 -101", "curve 25 10 25 201", "curve a b c d", "steps 25 10 25 100",
		"curve 25 10 25 1000000000", "curve 0000000000 10 25 100", "curve 25 -1000000000 25 100", "curve 999999999 10 25 100",
		"curve 18446744073709551641 10 25 100", "curve 25 9223372036854775807 25 100", "curve 25 -9223372036854775808 25 100",
		"curve 4294967321 10 25 100", "curve 25 99999999999999999999999999 25 100", "curve 4 end",
		"steps 4", "steps 4 ", "steps end", "steps  end", "steps end 4", "steps 4 end ", " steps 4 end", "steps  4 end", "steps 4  end",
		"steps 4 end end", "steps 4 4 end", "steps 4 end 1", "Steps 4 end", "steps 4 End", "steps 4 END", "steps 4 ends", "steps 4 en",
		"steps 4 stop", "steps 4 jump", "steps 4 1", "steps 4 2", "steps 4 none ", "steps 4 all", "steps 4 begin", "steps 4 middle", "step 4 end",
		"steps 04 end", "steps 0 end", "steps -0 end", "steps +4 end", "steps -4 end", "steps 101 end", "steps 101 both", "steps 1 none",
		"steps 0 none", "steps 101 none", "steps 101 start", "steps 0 start", "steps 0 both", "steps four end", "steps 4.0 end", "steps 4px end",
		"steps 1000000000 end", "steps 0000000004 end", "steps 999999999 end", "steps 18446744073709551620 end", "steps 4294967300 end",
		"steps 4end", "steps4 end", "steps 4 end\n", "steps\n4 end", "steps 4\tend", "steps 4 end\x00", "steps \u0664 end", "steps 4 \uff45nd",
		"steps\u00a04 end", "line\xff", "\xffline", "\ufeffline", "l\u00ecne",
	} {
		wantNoEase(t, s)
		if easeForm.MatchString(s) {
			t.Errorf("%q is in the wrong list", s)
		}
	}
}

func TestReadEaseOfEachNumber(t *testing.T) {
	for n := int64(-320); n <= 320; n++ {
		for _, ahead := range []string{"", "0", "-", "+", "-0", " "} {
			word := ahead + strconv.FormatInt(n, 10)
			wantByForm(t, "curve "+word+" 0 0 0")
			wantByForm(t, "curve 0 "+word+" 0 0")
			wantByForm(t, "curve 0 0 "+word+" 0")
			wantByForm(t, "curve 0 0 0 "+word)
			for _, jump := range []string{"start", "end", "none", "both", "", "at"} {
				wantByForm(t, "steps "+word+" "+jump)
			}
		}
	}
}

// TestReadEaseOneByteOff changes, adds and takes away each byte of texts that are read.
func TestReadEaseOneByteOff(t *testing.T) {
	for _, s := range []string{"line", "slow", "quick", "soft", "curve 25 -10 0 100", "steps 4 end", "steps 10 start", "steps 2 none", "steps 99 both"} {
		for i := 0; i <= len(s); i++ {
			for b := 0; b < 256; b++ {
				one := string([]byte{byte(b)})
				wantByForm(t, s[:i]+one+s[i:])
				if i < len(s) {
					wantByForm(t, s[:i]+one+s[i+1:])
				}
			}
			wantByForm(t, s[:i])
			wantByForm(t, s[i:])
			if i < len(s) {
				wantByForm(t, s[:i]+s[i+1:])
			}
		}
	}
}

func TestReadEaseOfLongTexts(t *testing.T) {
	for _, piece := range []string{" ", "line ", "line", "curve 25 10 25 100 ", "steps 4 end ", "9", "-", "\x00", "\xff", "soft\n"} {
		long := strings.Repeat(piece, 50000)
		for _, s := range []string{long, "line" + long, "curve " + long, "steps 4 " + long, "steps " + long + " end", long + "line"} {
			wantNoEase(t, s)
		}
	}
}

// TestEaseFarOut: an answer at every argument, with the least and the greatest int64 in each place.
func TestEaseFarOut(t *testing.T) {
	for _, far := range outliers {
		for _, kind := range []int64{impl.EsLine, impl.EsCurve, impl.EsSteps, far} {
			for place := 0; place < 6; place++ {
				n := [6]int64{}
				n[place] = far
				e := impl.Ease{Kind: kind, Curve: impl.Curve{X1: n[0], Y1: n[1], X2: n[2], Y2: n[3]}, Steps: impl.Steps{Count: n[4], Jump: n[5]}}
				wantEaseOk(t, e, false)
				wantShown(t, e, "")
				for _, p := range append([]int64{0, impl.One}, outliers...) {
					wantEased(t, e, p, 0)
				}
			}
		}
	}
}
