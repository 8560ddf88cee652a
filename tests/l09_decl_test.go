package tests

import (
	"fmt"
	"math"
	"regexp"
	"slices"
	"strings"
	"testing"

	"loop.example/g00521/impl"
)

// noteForm tells a piece of a text by its form alone, without the spaces at its ends.
var noteForm = regexp.MustCompile(`\A(clear|wide|left|color|show|form)[ \n]*:([^!]*)(!strong)?\z`)

// shownNotes are notes of every look, each with the one text that shows it.
var shownNotes = map[string]impl.Note{
	"clear: 0": weak(0, plainOf(0)), "clear: 500": weak(0, plainOf(500)), "clear: 1000 !strong": strong(0, plainOf(1000)),
	"wide: 0px": weak(1, pixelsOf(0)), "wide: 7px": weak(1, pixelsOf(7)), "wide: 30%": weak(1, shareOf(30)), "wide: 1000000% !strong": strong(1, shareOf(mostNumber)),
	"left: -5px": weak(2, pixelsOf(-5)), "left: -1000000%": weak(2, shareOf(leastNumber)), "left: 0px !strong": strong(2, pixelsOf(0)),
	"color: #000000": weak(3, colorOf(0, 0, 0, 255)), "color: #ff00aa80": weak(3, colorOf(255, 0, 170, 128)), "color: #01020304 !strong": strong(3, colorOf(1, 2, 3, 4)),
	"show: shown": weak(4, shown), "show: hidden": weak(4, hidden), "show: hidden !strong": strong(4, hidden),
	"form: plain": weak(5, wordOf("plain")), "form: strong": weak(5, wordOf("strong")), "form: strong !strong": strong(5, wordOf("strong")), "form: abcdefghijkl": weak(5, wordOf("abcdefghijkl")),
}

// notNotes are pieces without a ; of which none is a note.
var notNotes = []string{
	"", " ", "\n", " \n ", "?", "-", "5", "wide", "wide 7px", "7px", ": 7px", " : 7px", "what: 5", "what: 7px !strong", "plain", "strong", "!strong", "! strong", "!", ":", "::", "!!",
	"wide:", "wide: ", "wide :\n", "wide: !strong", "wide:!strong", "wide: !", "wide: :7px", "wide:: 7px", "wide: 7px:", "wide: wide: 7px", "wide: 7px wide: 7px", "wide, 7px", "wide= 7px",
	"wide: 7px 7px", "wide: 7px7px", "wide: 7px, 7px", "wide: 7px 7px !strong", "wide wide: 7px", "wide left: 7px", "5wide: 7px", "5 wide: 7px", "-wide: 7px", "%wide: 7px", ".wide: 7px", "wide-: 7px", "wides: 7px", "wid: 7px", "WIDE: 7px", "Wide: 7px", "#wide: 7px", "wide?: 7px", "?wide: 7px", "wide ?: 7px", "wide ? : 7px", "wide\t: 7px", "wide:\t7px", "\twide: 7px", "wide: 7px\t", "wide\r: 7px",
	"#ff00aa: 7px", "color #ff00aa: #ff00aa", "7px: 7px", "7: 7px", "{wide: 7px}", "{ wide: 7px", "wide: 7px }", "(wide: 7px)",
	"wide: 7", "wide: -7px", "wide: -1%", "wide: #ff00aa", "wide: shown", "wide: plain", "wide: 7em", "wide: 7 px", "wide: 7 %", "wide: 07px", "wide: -0px", "wide: 7.5px", "wide: +7px", "wide: 1000001px", "wide: 1000000000px", "wide: 7PX",
	"clear: -1", "clear: 1001", "clear: 5px", "clear: 5%", "clear: half", "clear: #000000", "clear: 0.5", "left: 5", "left: 1000001px", "left: -1000001%", "left: right",
	"color: 5", "color: #fff", "color: #ff00a", "color: #ff00aa8", "color: #FF00AA", "color: red", "color: ff00aa", "color: # ff00aa", "show: 1", "show: show", "show: visible", "show: Shown", "show: shown hidden", "show: shown-",
	"form: 5", "form: a b", "form: abcdefghijklm", "form: -a", "form: A", "form: #ff00aa", "form: a.b", "form: a, b", "form: \"a\"", "form: a\x00", "form: n\u00e9",
	"wide: 7px !", "wide: 7px ! ", "wide: 7px!", "wide: 7px ! strong", "wide: 7px !\nstrong", "wide: 7px! strong", "wide: 7px !weak", "wide: 7px !wide", "wide: 7px !strongs", "wide: 7px !stron", "wide: 7px !strong-", "wide: 7px !strong1", "wide: 7px !Strong", "wide: 7px !STRONG", "wide: 7px !5strong", "wide: 7px !-strong", "wide: 7px !5", "wide: 7px !7px", "wide: 7px !#ff00aa", "wide: 7px !?", "wide: 7px !important",
	"wide: 7px !strong !strong", "wide: 7px !strong!strong", "wide: 7px !!strong", "wide: 7px ! !strong", "wide: 7px !strong!", "wide: 7px !strong !", "wide: 7px !strong strong", "wide: 7px !strong 7px", "wide: 7px !strong,", "wide: 7px !strong :", "wide: 7px !strong ?", "wide: 7px !strong }", "wide: 7px !strong wide: 7px", "wide: 7px !strong: 7px",
	"wide: 7px strong", "wide: 7px strong!", "wide: strong! 7px", "wide: !strong 7px", "wide !strong: 7px", "wide! strong: 7px", "wide!: 7px", "!strong wide: 7px", "!wide: 7px", "!strong: 7px", "strong: 7px", "strong wide: 7px", "wide: 7px.strong", "wide: 7px*strong", "wide: 7px @strong",
}

func weak(look int64, v impl.Value) impl.Note { return impl.Note{Look: look, Value: v} }

func strong(look int64, v impl.Value) impl.Note {
	return impl.Note{Look: look, Value: v, Strong: true}
}

func bothNotes(look int64, v impl.Value) []impl.Note {
	return []impl.Note{weak(look, v), strong(look, v)}
}

func noteShownByForm(n impl.Note) string {
	text := fmt.Sprintf("%s: %s", lookNames[n.Look], shownByForm(n.Value))
	if n.Strong {
		return text + " !strong"
	}
	return text
}

func notesShownByForm(list []impl.Note) string {
	texts := []string{}
	for _, n := range list {
		texts = append(texts, noteShownByForm(n))
	}
	return strings.Join(texts, "; ")
}

func noteByForm(piece string) (impl.Note, bool) {
	m := noteForm.FindStringSubmatch(strings.Trim(piece, " \n"))
	if m == nil {
		return impl.Note{}, false
	}
	look := int64(slices.Index(lookNames, m[1]))
	v, is := valueByForm(m[2])
	if !is || !fitsByForm(look, v) {
		return impl.Note{}, false
	}
	return impl.Note{Look: look, Value: v, Strong: m[3] != ""}, true
}

// notesByForm cuts the text itself: no token but the ; has such a byte.
func notesByForm(s string) []impl.Note {
	notes := []impl.Note{}
	for _, piece := range strings.Split(s, ";") {
		if n, is := noteByForm(piece); is && len(notes) < 12 {
			notes = append(notes, n)
		}
	}
	return notes
}

func wantNoteOk(t *testing.T, n impl.Note, want bool) {
	t.Helper()
	if got := impl.NoteOk(n); got != want {
		t.Errorf("NoteOk(%s) = %t", brief(n), got)
	}
}

func wantShownNotes(t *testing.T, list []impl.Note, want string) {
	t.Helper()
	if got := impl.ShowNotes(list); got != want {
		t.Errorf("ShowNotes(%s) = %q, want %q", brief(list), got, want)
	}
}

func wantNotesOf(t *testing.T, list []impl.Token, want ...impl.Note) {
	t.Helper()
	if got := impl.ReadNotes(list); !slices.Equal(got, want) {
		t.Errorf("ReadNotes(%s) = %s, want %s", brief(list), brief(got), brief(want))
	}
}

func wantNotes(t *testing.T, s string, want ...impl.Note) {
	t.Helper()
	if got := impl.ReadNotes(impl.TokensOf(s)); !slices.Equal(got, want) {
		t.Errorf("ReadNotes of %.200q = %s, want %s", s, brief(got), brief(want))
	}
}

func wantNotesByForm(t *testing.T, s string) {
	t.Helper()
	wantNotes(t, s, notesByForm(s)...)
}

func wantNoteFor(t *testing.T, list []impl.Note, look int64, want impl.Note) {
	t.Helper()
	if got, is := impl.NoteFor(list, look); !is || got != want {
		t.Errorf("NoteFor(%s, %d) = %s, %t, want %s", brief(list), look, brief(got), is, brief(want))
	}
}

func wantNoNoteFor(t *testing.T, list []impl.Note, look int64) {
	t.Helper()
	if got, is := impl.NoteFor(list, look); is || got != (impl.Note{}) {
		t.Errorf("NoteFor(%s, %d) = %s, %t", brief(list), look, brief(got), is)
	}
}

// wantNotesAsShown is promise 9 for one list.
func wantNotesAsShown(t *testing.T, list []impl.Note) {
	t.Helper()
	wantShownNotes(t, list, notesShownByForm(list))
	wantNotes(t, impl.ShowNotes(list), list...)
}

// wantNoNote is promise 9 for one piece: none alone, and none other is changed by it wherever it stands.
func wantNoNote(t *testing.T, piece string) {
	t.Helper()
	wantNotes(t, piece)
	wantNotes(t, piece+";"+piece)
	for _, list := range fewNotes() {
		texts := []string{}
		for _, n := range list {
			texts = append(texts, noteShownByForm(n))
		}
		for at := 0; at <= len(texts); at++ {
			wantNotes(t, strings.Join(slices.Insert(slices.Clone(texts), at, piece), ";"), list...)
			wantNotes(t, strings.Join(slices.Insert(slices.Clone(texts), at, piece, piece), " ; "), list...)
		}
	}
}

// eachNote is every look with each of the values that its tests of chapter 8 have, Strong and not.
func eachNote() []impl.Note {
	list := []impl.Note{}
	for _, look := range allLooks {
		for _, v := range fitting(look) {
			list = append(list, bothNotes(look, v)...)
		}
	}
	return list
}

// fewNotes are lists of one, of three and of all looks, twice.
func fewNotes() [][]impl.Note {
	all := []impl.Note{}
	for _, look := range allLooks {
		all = append(all, bothNotes(look, impl.AtFirst(look))...)
	}
	return [][]impl.Note{{weak(5, wordOf("plain"))}, {weak(1, pixelsOf(7)), strong(0, plainOf(500)), weak(1, shareOf(30))}, all}
}

// notRightNotes are notes that are not right: a look that there is not, a value that is none or does not fit.
func notRightNotes() []impl.Note {
	list := []impl.Note{{}, {Strong: true}}
	for _, look := range notLooks {
		for _, v := range append(oneOfEach(), impl.Value{}, plainOf(0), pixelsOf(0), shown) {
			list = append(list, bothNotes(look, v)...)
		}
	}
	for _, look := range allLooks {
		for _, v := range append(oneOfEach(), plainOf(-1), plainOf(1000), plainOf(1001), pixelsOf(0), pixelsOf(-1), shareOf(-1), shown, impl.Value{}, impl.Value{Kind: impl.VaLength, Number: mostNumber + 1}, colorOf(0, 0, 256, 0), wordOf("A"), wordOf("")) {
			if !fitsByForm(look, v) {
				list = append(list, bothNotes(look, v)...)
			}
		}
	}
	return list
}

func TestNumberOfNotes(t *testing.T) {
	if impl.MaxNotes != 12 {
		t.Fatal(impl.MaxNotes)
	}
}

func TestNoteOk(t *testing.T) {
	for _, n := range eachNote() {
		wantNoteOk(t, n, true)
	}
	for _, n := range shownNotes {
		wantNoteOk(t, n, true)
	}
	for _, n := range notRightNotes() {
		wantNoteOk(t, n, false)
	}
	for _, v := range append(rightValues(), notValues()...) {
		for look := int64(-1); look <= 6; look++ {
			wantNoteOk(t, weak(look, v), fitsByForm(look, v))
			wantNoteOk(t, strong(look, v), fitsByForm(look, v))
		}
	}
}

func TestShowNotesOfOne(t *testing.T) {
	for text, n := range shownNotes {
		wantShownNotes(t, []impl.Note{n}, text)
		wantNotes(t, text, n)
	}
	for _, n := range eachNote() {
		wantShownNotes(t, []impl.Note{n}, noteShownByForm(n))
	}
}

func TestShowNotesOfSeveral(t *testing.T) {
	wantShownNotes(t, nil, "")
	wantShownNotes(t, []impl.Note{}, "")
	list := []impl.Note{weak(1, pixelsOf(7)), strong(0, plainOf(500)), strong(4, hidden), weak(4, shown)}
	wantShownNotes(t, list, "wide: 7px; clear: 500 !strong; show: hidden !strong; show: shown")
	wantShownNotes(t, list[1:], "clear: 500 !strong; show: hidden !strong; show: shown")
	wantShownNotes(t, slices.Repeat(list[:1], 3), "wide: 7px; wide: 7px; wide: 7px")
}

func TestShowNotesAtMaxNotes(t *testing.T) {
	for _, n := range eachNote() {
		for many := 10; many <= 12; many++ {
			list := slices.Repeat([]impl.Note{n}, many)
			wantShownNotes(t, list, strings.Repeat(noteShownByForm(n)+"; ", many-1)+noteShownByForm(n))
		}
		for _, many := range []int{13, 14, 24, 256, 268} {
			wantShownNotes(t, slices.Repeat([]impl.Note{n}, many), "")
		}
	}
	wantShownNotes(t, slices.Repeat([]impl.Note{weak(5, wordOf("a"))}, 100000), "")
}

// TestShowNotesOfOneThatIsNotRight has it in each place of lists of right ones.
func TestShowNotesOfOneThatIsNotRight(t *testing.T) {
	for _, wrong := range notRightNotes() {
		wantShownNotes(t, []impl.Note{wrong}, "")
		for _, list := range fewNotes() {
			for at := range list {
				changed := slices.Clone(list)
				changed[at] = wrong
				wantShownNotes(t, changed, "")
			}
		}
		wantShownNotes(t, slices.Repeat([]impl.Note{wrong}, 13), "")
	}
}

func TestReadNotesOfShowNotesAreTheNotes(t *testing.T) {
	wantNotesAsShown(t, nil)
	wantNotesAsShown(t, []impl.Note{})
	all := eachNote()
	for i, n := range all {
		wantNotesAsShown(t, []impl.Note{n})
		for many := 2; many <= impl.MaxNotes; many++ {
			list := []impl.Note{}
			for k := range many {
				list = append(list, all[(i+k*(many+17))%len(all)])
			}
			wantNotesAsShown(t, list)
			wantNotesAsShown(t, slices.Repeat([]impl.Note{n}, many))
		}
	}
	for _, list := range fewNotes() {
		wantNotesAsShown(t, list)
	}
}

// TestReadNotesOfShowNotesOfPairs has each look beside each other one, Strong and not.
func TestReadNotesOfShowNotesOfPairs(t *testing.T) {
	for _, a := range fewNotes()[2] {
		for _, b := range fewNotes()[2] {
			wantNotesAsShown(t, []impl.Note{a, b})
			wantNotesAsShown(t, []impl.Note{a, b, a})
		}
	}
}

func TestReadNotesOfEachValue(t *testing.T) {
	for _, v := range rightValues() {
		for look, name := range lookNames {
			for _, mark := range []string{"", " !strong"} {
				want := []impl.Note{}
				if fitsByForm(int64(look), v) {
					want = append(want, impl.Note{Look: int64(look), Value: v, Strong: mark != ""})
				}
				wantNotes(t, name+": "+shownByForm(v)+mark, want...)
			}
		}
	}
}

func TestReadNotesOfNothing(t *testing.T) {
	wantNotesOf(t, nil)
	wantNotesOf(t, []impl.Token{})
	wantNotesOf(t, []impl.Token{aSpace})
	wantNotesOf(t, []impl.Token{aSpace, aSpace})
	wantNotesOf(t, []impl.Token{aSign(";")})
	wantNotes(t, "wide: 7px"+strings.Repeat(" ", impl.MaxSheet))
	if got := impl.ReadNotes(nil); len(got) != 0 {
		t.Error(got)
	}
}

func TestReadNotesWithSpaces(t *testing.T) {
	spaces := []string{"", " ", "\n", "  ", " \n \n"}
	for _, ahead := range spaces {
		for _, colon := range spaces {
			for _, value := range spaces {
				for _, end := range spaces {
					wide := ahead + "wide" + colon + ":" + value + "7px" + end
					wantNotes(t, wide, weak(1, pixelsOf(7)))
					wantNotes(t, wide+"!strong", strong(1, pixelsOf(7)))
					wantNotes(t, wide+"!strong"+end+";"+wide, strong(1, pixelsOf(7)), weak(1, pixelsOf(7)))
					if end != "" {
						wantNotes(t, wide+"!"+end+"strong")
						wantNotes(t, "wide"+colon+":"+value+"7"+end+"px")
						wantNotes(t, "wi"+end+"de"+colon+":"+value+"7px")
					}
				}
			}
		}
	}
}

// TestReadNotesWithSpacesSideBySide has tokens that come out of no text.
func TestReadNotesWithSpacesSideBySide(t *testing.T) {
	for many := range 4 {
		gap := slices.Repeat([]impl.Token{aSpace}, many)
		wide := slices.Concat(gap, []impl.Token{aName("wide")}, gap, []impl.Token{aSign(":")}, gap, []impl.Token{aUnit(7, "px")}, gap)
		wantNotesOf(t, wide, weak(1, pixelsOf(7)))
		mark := slices.Concat([]impl.Token{aSign("!"), aName("strong")}, gap)
		wantNotesOf(t, slices.Concat(wide, mark), strong(1, pixelsOf(7)))
		wantNotesOf(t, slices.Concat(wide, []impl.Token{aSign(";")}, wide, mark), weak(1, pixelsOf(7)), strong(1, pixelsOf(7)))
		if many > 0 {
			wantNotesOf(t, slices.Concat(wide, []impl.Token{aSign("!")}, gap, []impl.Token{aName("strong")}))
		}
	}
}

// TestReadNotesWithNamesSideBySide has tokens that come out of no text either.
func TestReadNotesWithNamesSideBySide(t *testing.T) {
	colon, mark := aSign(":"), aSign("!")
	wantNotesOf(t, []impl.Token{aName("form"), colon, aName("a"), aName("b")})
	wantNotesOf(t, []impl.Token{aName("wi"), aName("de"), colon, aUnit(7, "px")})
	wantNotesOf(t, []impl.Token{aName("wide"), aName("wide"), colon, aUnit(7, "px")})
	wantNotesOf(t, []impl.Token{aName("wide"), colon, aNumber(7), aName("px")})
	wantNotesOf(t, []impl.Token{aName("form"), colon, aName("a"), mark, aName("strong"), aName("strong")})
	wantNotesOf(t, []impl.Token{aName("form"), colon, aName("a"), mark, aName("str"), aName("ong")})
	wantNotesOf(t, []impl.Token{aName("form"), colon, aName("a"), mark, aName("strong")}, strong(5, wordOf("a")))
	wantNotesOf(t, []impl.Token{aUnit(7, "form"), colon, aName("a")})
	wantNotesOf(t, []impl.Token{aName("form"), colon, aName("a"), mark, aUnit(7, "strong")})
	wantNotesOf(t, []impl.Token{aName("form"), colon, aUnit(7, "a")})
}

func TestReadNotesOfWhatIsNoNote(t *testing.T) {
	for _, piece := range notNotes {
		if _, is := noteByForm(piece); is {
			t.Errorf("%q is in the wrong list", piece)
		}
		wantNoNote(t, piece)
	}
}

// TestReadNotesOfTwoThatAreNone puts each of them beside many others, ahead of a note, between two and behind.
func TestReadNotesOfTwoThatAreNone(t *testing.T) {
	wide, clear := weak(1, pixelsOf(7)), strong(0, plainOf(500))
	for i, a := range notNotes {
		for k := i % 5; k < len(notNotes); k += 5 {
			b := notNotes[k]
			wantNotes(t, a+";"+b+"; wide: 7px;"+b+";"+a+"; clear: 500 !strong;"+a+";"+b, wide, clear)
		}
	}
}

func TestReadNotesWithSeparators(t *testing.T) {
	wide, left := weak(1, pixelsOf(7)), strong(2, pixelsOf(-5))
	for _, s := range []string{
		"wide:7px;left:-5px!strong", ";wide:7px;left:-5px!strong", "wide:7px;left:-5px!strong;", "wide:7px;;left:-5px!strong", ";;wide:7px;;;left:-5px!strong;;",
		" ; wide: 7px ; ; left: -5px !strong ; ", "\n;\nwide: 7px;\n\nleft: -5px !strong;\n", "wide: 7px\n;\nleft: -5px !strong\n",
	} {
		wantNotes(t, s, wide, left)
	}
	for _, s := range []string{";", ";;", " ; ", ";\n;", strings.Repeat(";", impl.MaxSheet), strings.Repeat(" ;", impl.MaxSheet/2)} {
		wantNotes(t, s)
	}
	wantNotes(t, "wide: 7px, left: -5px !strong")
	wantNotes(t, "wide: 7px left: -5px !strong")
	wantNotes(t, "wide: 7px\nleft: -5px !strong")
	wantNotes(t, "wide: ;7px;left: -5px !;strong")
	wantNotes(t, "wide: 7px; !strong", wide)
	wantNotes(t, strings.Repeat(";", impl.MaxSheet-len("wide:7px"))+"wide:7px", wide)
}

// TestReadNotesAtMaxNotes: only pieces that are notes count, wherever others stand between them.
func TestReadNotesAtMaxNotes(t *testing.T) {
	for _, many := range []int{0, 1, 2, 11, 12, 13, 14, 23, 24, 25, 100} {
		for _, other := range []string{"", ";", "what: 5;", " ; wide: ;;", "wide: 7px !;form: a b;"} {
			text, want := strings.Builder{}, []impl.Note{}
			for i := range many {
				text.WriteString(other + fmt.Sprintf("clear: %d", i))
				n := weak(0, plainOf(int64(i)))
				if i%3 == 1 {
					text.WriteString(" !strong")
					n.Strong = true
				}
				text.WriteString(";")
				if i < 12 {
					want = append(want, n)
				}
			}
			wantNotes(t, text.String()+other, want...)
		}
	}
	twelve := strings.Repeat("form: a;", 12)
	want := slices.Repeat([]impl.Note{weak(5, wordOf("a"))}, 12)
	wantNotes(t, twelve+"form: b !strong", want...)
	wantNotes(t, twelve+"wide: 7px; left: 5px", want...)
	wantNotes(t, strings.Repeat("form: a b;", 100)+twelve+"form: c", want...)
	wantNotesOf(t, impl.TokensOf(strings.Repeat("what: 5;", 400)))
}

// TestReadNotesOfLongLists: MaxSheet is a limit of TokensOf alone.
func TestReadNotesOfLongLists(t *testing.T) {
	wide := impl.TokensOf("wide: 7px;")
	wantNotesOf(t, slices.Repeat(wide, 20000), slices.Repeat([]impl.Note{weak(1, pixelsOf(7))}, 12)...)
	none := slices.Repeat(impl.TokensOf("what: 5;"), 20000)
	wantNotesOf(t, none)
	wantNotesOf(t, slices.Concat(none, wide, none), weak(1, pixelsOf(7)))
	many := slices.Repeat([]impl.Token{aSpace}, 50000)
	wantNotesOf(t, slices.Concat(many, wide, many, wide[:len(wide)-1], many), weak(1, pixelsOf(7)), weak(1, pixelsOf(7)))
	wantNotesOf(t, slices.Concat(none, wide, []impl.Token{aName("")}))
	long := aName(strings.Repeat("a", 100000))
	wantNotesOf(t, slices.Concat([]impl.Token{aName("form"), aSign(":"), long, aSign(";")}, wide), weak(1, pixelsOf(7)))
	wantNotesOf(t, slices.Concat([]impl.Token{long, aSign(":"), aName("a"), aSign(";")}, wide), weak(1, pixelsOf(7)))
}

// TestReadNotesWithOneTokenThatIsNotRight: it takes all notes with it, wherever it stands, past the first MaxNotes too.
func TestReadNotesWithOneTokenThatIsNotRight(t *testing.T) {
	list := impl.TokensOf("what: 5; wide: 7px; clear: 500 !strong;;")
	wantNotesOf(t, list, weak(1, pixelsOf(7)), strong(0, plainOf(500)))
	full := impl.TokensOf(strings.Repeat("form: a;", 12))
	for _, wrong := range notTokens() {
		wantNotesOf(t, []impl.Token{wrong})
		for at := range list {
			wantNotesOf(t, slices.Insert(slices.Clone(list), at, wrong))
			changed := slices.Clone(list)
			changed[at] = wrong
			wantNotesOf(t, changed)
		}
		wantNotesOf(t, append(slices.Clone(list), wrong))
		wantNotesOf(t, append(slices.Clone(full), wrong))
		wantNotesOf(t, append(slices.Clone(full), aName("what"), aSign(";"), wrong, aSign(";")))
	}
}

// eachOneByteOff changes, adds and takes away each byte of a text, and puts the text into itself.
func eachOneByteOff(s string, bytes []string, do func(string)) {
	for i := 0; i <= len(s); i++ {
		for _, b := range bytes {
			do(s[:i] + b + s[i:])
			if i < len(s) {
				do(s[:i] + b + s[i+1:])
			}
		}
		do(s[:i])
		do(s[i:])
		do(s[:i] + s + s[i:])
		if i < len(s) {
			do(s[:i] + s[i+1:])
		}
	}
}

func allBytes() []string {
	all := []string{}
	for b := range 256 {
		all = append(all, byteText(b))
	}
	return all
}

func TestReadNotesOneByteOff(t *testing.T) {
	wantByForm := func(s string) { wantNotesByForm(t, s) }
	for _, s := range []string{"wide : 7px ;clear:9!strong", "color:#ff00aa80 !strong ; form : a", "show:hidden;left: -5%;what:1"} {
		eachOneByteOff(s, allBytes(), wantByForm)
	}
	for s := range shownNotes {
		eachOneByteOff(s, strings.Split("{:;.,!=a-09%# \nA\x00", ""), wantByForm)
	}
}

// TestReadNotesAreAsTheirForm goes through all rows of a few pieces, behind beginnings of notes and alone.
func TestReadNotesAreAsTheirForm(t *testing.T) {
	pieces := []string{"wide", "form", "7px", "a", ":", "!", "strong", ";", " ", "\n", "?", "5"}
	for _, ahead := range []string{"", "wide:", "form: a", "wide: 7px !", "wide: 7px; form"} {
		for many := 0; many <= 4; many++ {
			eachRow(pieces, many, ahead, func(s string) { wantNotesByForm(t, s) })
		}
	}
	long := []string{"clear: 5", "left: -5px ", "color:#ff00aa", "show :hidden", "form: plain", " !strong", "!", ";", " ", ": 7", "what: 5"}
	for many := 0; many <= 4; many++ {
		eachRow(long, many, "", func(s string) { wantNotesByForm(t, s) })
	}
}

func TestNoteForWhereThereIsNone(t *testing.T) {
	for _, look := range slices.Concat(allLooks, notLooks) {
		wantNoNoteFor(t, nil, look)
		wantNoNoteFor(t, []impl.Note{}, look)
		others := []impl.Note{}
		for _, n := range eachNote() {
			if n.Look != look {
				others = append(others, n)
			}
		}
		wantNoNoteFor(t, others, look)
	}
}

func TestNoteForOfOne(t *testing.T) {
	for _, n := range eachNote() {
		wantNoteFor(t, []impl.Note{n}, n.Look, n)
		for _, look := range slices.Concat(allLooks, notLooks) {
			if look != n.Look {
				wantNoNoteFor(t, []impl.Note{n}, look)
			}
		}
	}
}

// TestNoteForOfSeveral has each row of Strong ones and others, with those of another look between them.
func TestNoteForOfSeveral(t *testing.T) {
	for many := 1; many <= 7; many++ {
		for row := range 1 << many {
			list, lastStrong, last := []impl.Note{}, -1, many-1
			for i := range many {
				n := weak(impl.PrClear, plainOf(int64(i)))
				if row>>i&1 == 1 {
					n.Strong, lastStrong = true, i
				}
				list = append(list, strong(impl.PrLeft, pixelsOf(int64(-i))), n, weak(impl.PrWide, pixelsOf(int64(i))))
			}
			want := weak(impl.PrClear, plainOf(int64(last)))
			if lastStrong >= 0 {
				want = strong(impl.PrClear, plainOf(int64(lastStrong)))
			}
			wantNoteFor(t, list, impl.PrClear, want)
			wantNoteFor(t, list, impl.PrLeft, strong(impl.PrLeft, pixelsOf(int64(-last))))
			wantNoteFor(t, list, impl.PrWide, weak(impl.PrWide, pixelsOf(int64(last))))
			wantNoNoteFor(t, list, impl.PrForm)
		}
	}
}

func TestNoteForOfEachLook(t *testing.T) {
	for _, look := range allLooks {
		values := fitting(look)
		list := []impl.Note{}
		for _, v := range values {
			list = append(list, weak(look, v))
		}
		wantNoteFor(t, list, look, list[len(list)-1])
		for i := range list {
			changed := slices.Clone(list)
			changed[i].Strong = true
			wantNoteFor(t, changed, look, strong(look, values[i]))
			wantNoteFor(t, append(changed, list...), look, strong(look, values[i]))
			wantNoteFor(t, append(list[:i:i], changed...), look, strong(look, values[i]))
		}
	}
	wantNoteFor(t, slices.Repeat([]impl.Note{weak(5, wordOf("a"))}, 100000), impl.PrForm, weak(5, wordOf("a")))
}

// TestNoteForOfWhatIsNotRight: the look alone says for which one a note is.
func TestNoteForOfWhatIsNotRight(t *testing.T) {
	for _, wrong := range notRightNotes() {
		right := weak(wrong.Look, wordOf("a"))
		wantNoteFor(t, []impl.Note{wrong}, wrong.Look, wrong)
		wantNoteFor(t, []impl.Note{right, wrong}, wrong.Look, wrong)
		if wrong.Strong {
			wantNoteFor(t, []impl.Note{wrong, right}, wrong.Look, wrong)
		} else {
			wantNoteFor(t, []impl.Note{wrong, right}, wrong.Look, right)
		}
		for _, look := range slices.Concat(allLooks, notLooks) {
			if look != wrong.Look {
				wantNoNoteFor(t, []impl.Note{wrong}, look)
			}
		}
	}
}

// TestNotesFarOut: an answer at every argument, with the least and the greatest int64 in each number.
func TestNotesFarOut(t *testing.T) {
	for _, far := range outliers {
		for _, look := range append([]int64{far}, allLooks...) {
			for _, kind := range append([]int64{far}, valueKinds...) {
				all := impl.Value{Kind: kind, Number: far, Red: far, Green: far, Blue: far, Clear: far, Word: "shown"}
				list := []impl.Value{all, {Kind: kind, Number: far}, {Kind: kind, Number: far, Word: "plain"}, {Kind: far, Word: "plain"}}
				for place := range 5 {
					list = append(list, withPlace(impl.Value{Kind: kind}, place, far))
				}
				for _, v := range list {
					wantNoteOk(t, weak(look, v), false)
					wantNoteOk(t, strong(look, v), false)
					wantShownNotes(t, bothNotes(look, v), "")
				}
			}
			wantNoNoteFor(t, fewNotes()[2], far)
		}
		for _, look := range allLooks {
			wantNoteOk(t, weak(far, impl.AtFirst(look)), false)
		}
		for kind := int64(0); kind <= 8; kind++ {
			wantNotesOf(t, []impl.Token{aName("wide"), aSign(":"), {Kind: kind, Text: "px", Number: far}})
			wantNotesOf(t, []impl.Token{aName("clear"), aSign(":"), {Kind: kind, Number: far}})
		}
		wantNotesOf(t, []impl.Token{{Kind: far, Text: "wide"}, aSign(":"), aUnit(7, "px")})
	}
	wantNoteFor(t, []impl.Note{{Look: math.MinInt64}, {Look: math.MaxInt64}}, math.MinInt64, impl.Note{Look: math.MinInt64})
}

// TestReadNotesLeavesItsList, and the spare room behind it, whether there are notes or not.
func TestReadNotesLeavesItsList(t *testing.T) {
	for _, s := range []string{"", ";", "  wide  :  7px  ", "wide: 7px; clear : 500 !strong ;form:a b", "what: 5", " ; ; ", "wide: 7px !strong !strong", strings.Repeat("form: a;", 13)} {
		room := append(slices.Insert(impl.TokensOf(s), 0, aSpace, aSpace), aSpace, aSpace, aSign(";"), impl.Token{}, aName("spare"))
		before := slices.Clone(room)
		for end := range len(room) + 1 {
			first := impl.ReadNotes(room[:end])
			kept := slices.Clone(first)
			if again := impl.ReadNotes(room[:end]); !slices.Equal(first, again) {
				t.Errorf("%q: %v, then %v", s, first, again)
			} else if len(again) > 0 {
				again[0] = impl.Note{}
			}
			if !slices.Equal(room, before) || !slices.Equal(first, kept) {
				t.Errorf("%q: the list is now %v, was %v", s, room, before)
			}
		}
	}
}

// TestNotesLeaveTheirList: ShowNotes and NoteFor write nothing into it, nor into the room behind it.
func TestNotesLeaveTheirList(t *testing.T) {
	for _, list := range append(fewNotes(), notRightNotes()) {
		room := append(slices.Clone(list), weak(5, wordOf("spare")), impl.Note{})
		before := slices.Clone(room)
		text := impl.ShowNotes(room[:len(list)])
		for _, look := range slices.Concat(allLooks, notLooks) {
			n, _ := impl.NoteFor(room[:len(list)], look)
			n.Look, n.Value.Word = 7, "other"
			if again, is := impl.NoteFor(room[:len(list)], look); is && again.Look != look {
				t.Errorf("look %d: %v", look, again)
			}
		}
		if again := impl.ShowNotes(room[:len(list)]); again != text || !slices.Equal(room, before) {
			t.Errorf("%q, then %q: the list is now %s, was %s", text, again, brief(room), brief(before))
		}
	}
}
