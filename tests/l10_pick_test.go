package tests

import (
	"fmt"
	"regexp"
	"slices"
	"strings"
	"testing"

	"loop.example/g00521/impl"
)

const formShort = `[a-z][a-z0-9-]{0,7}`

var shortForm = regexp.MustCompile(`\A` + formShort + `\z`)

// partForm tells a part of a text by its form alone, linkForm what stands between two of them.
var partForm = regexp.MustCompile(`\A(` + formShort + `)?((?:[=.]` + formShort + `)*)\z`)
var markForm = regexp.MustCompile(`[=.][^=.]*`)
var linkForm = regexp.MustCompile(`[ \n]*>[ \n]*|[ \n]+`)

// shortNames are names as a Tag, an Id or a Badge may be, notShort are none.
var shortNames = []string{"a", "z", "a-", "a9", "box", "on", "strong", "wide", "abcdefgh", "z-------", "a0123456"}
var notShort = []string{
	"abcdefghi", "z--------", "a01234567", "abcdefghijklm", "5", "5a", "0", "-", "-a", "--", "A", "Box", "bOx", "boX", "a b", " a", "a ", " ", "\n", "a\n", "a.b", ".a", "a.", "=a", "a=", ".", "=", ">", "a>", ">a", "a>b", "*", "a*", "@a", "a,b", "a:", "{", "}", "!", "#", "#ff00aa", "a#", "5px", "5%", "a%", "a_b", "a\x00", "\x00", "\xff", "n\u00e9", "\u00e9",
}

// shownPicks are picks, each with the one text that shows it.
var shownPicks = map[string][]impl.Part{
	"a": {aPart("a", "")}, "box": {aPart("box", "")}, "abcdefgh": {aPart("abcdefgh", "")}, "=hero": {aPart("", "hero")}, "=abcdefgh": {aPart("", "abcdefgh")}, ".on": {aPart("", "", "on")}, ".abcdefgh": {aPart("", "", "abcdefgh")},
	"box=hero": {aPart("box", "hero")}, "box.on": {aPart("box", "", "on")}, "=hero.on": {aPart("", "hero", "on")}, "box=hero.on": {aPart("box", "hero", "on")}, "on=on.on": {aPart("on", "on", "on")},
	"box.off.on": {aPart("box", "", "off", "on")}, "box.off.on.up": {aPart("box", "", "off", "on", "up")}, ".a.a-.a0": {aPart("", "", "a", "a-", "a0")}, "=a-.a.aa.b": {aPart("", "a-", "a", "aa", "b")},
	"box man": {aPart("box", ""), aPart("man", "")}, "box > man": {aPart("box", ""), near("man", "")}, "box=a.on.up > man .red": {aPart("box", "a", "on", "up"), near("man", ""), aPart("", "", "red")},
	"a > a > a > a": {aPart("a", ""), near("a", ""), near("a", ""), near("a", "")}, "a a a a": {aPart("a", ""), aPart("a", ""), aPart("a", ""), aPart("a", "")}, "=a > .b c > =d": {aPart("", "a"), near("", "", "b"), aPart("c", ""), near("", "d")},
	"abcdefgh=abcdefgh.aaaaaaaa.bbbbbbbb.cccccccc > =a": {aPart("abcdefgh", "abcdefgh", "aaaaaaaa", "bbbbbbbb", "cccccccc"), near("", "a")},
}

// notPicks are texts of which none is a pick.
var notPicks = []string{
	"", " ", "\n", " \n ", ">", " > ", ">>", "> >", "=", ".", "= =", ". .", "*", "* a", "a *", "a > *", "a*", "*a", "*.a", "?", "a?", "?a", "a ?", "5", "5a", "a 5", "5px", "5%", "#ff00aa", "a#ff00aa", "-", "-a", "a -b", "A", "Box", "bOx", "boX", "a\x00", "a\xff", "\u00e9", "n\u00e9", "a\tb", "a\t", "\ta", "a\rb",
	"> a", ">a", " > a", "\n>\na", "a >", "a>", "a > ", "a>\n", "> a >", "a > > b", "a >> b", "a>>b", "a> >b", "a >\n> b", "a > > > b", "a >>> b", "a > b >", "> a > b", "a > b > > c", "a b >", "> a b",
	"=a=b", "a=b=c", "a=b=b", "a=b.c=d", "a.b=c=d", "=a.b=a", "a =b=c", "a > =b=c", "=a=b > c", "==a", "a==b", "=a=", "=a= =b",
	"..a", "a..b", ".=a", "=.a", "a.=b", "a=.b", ".a.", "a.", "a=", "a. ", "a= ", ".a=", "=a.", "a.b.", "a.b=", "a. b", "a= b", "a.\nb", "a=\nb", ". a", "= a", "a > .", "a > =", ". > a", "= > a", "a .", "a =", "a . b", "a = b", "a. > b", "a= > b", "a.>b", "a=>b", "a>.", "a>=", "a >= b", ".a. b", ".a= b", ".>a", "=>a", "a . > b",
	"abcdefghi", "=abcdefghi", ".abcdefghi", "a=abcdefghi", "a.abcdefghi", "a.b.abcdefghi", "abcdefghi=a", "abcdefghi.a", "a abcdefghi", "a > abcdefghi", "abcdefghi > a", "a > b > c > abcdefghi", "a=b.c.d abcdefghi",
	"=5", "=-a", "=A", ".5", ".-a", ".A", ".5a", "=5a", ".5px", "=5%", "a.5", "a=5", "a.-5", "a.b5 .5", "a.#ff00aa", "a=#ff00aa", "a.B", "a=B", "a.b.C", "a.*", "a=*", "a.>", "a.\u00e9",
	"a.b.c.d.e", ".a.b.c.d", "a=b.c.d.e.f", ".d.c.b.a", ".a.b.a.c.a.d", "a > .a.b.c.d", ".a.b.c.d > a", "a.b.c=d.e.f",
	"a b c d e", "a > b > c > d > e", "a b c d > e", "a > b c d e", "a b c d e f", ".a .b .c .d .e", "a > b > c > d >", "a b c d .", "a a a a a a a a a",
	"a, b", "a,b", "a;b", "a; ", "a:b", "a: b", "a!", "a !b", "a@b", "@a", "@row a", "{a}", "a { }", "a {", "a }", "{ a", "a + b", "a+b", "a ~ b", "a~b", "a < b", "a<b", "a|b", "a/b", "(a)", "[a]", "a[b]", "\"a\"", "a\\b", "a_b", "a&b", "$a", "a%", "a'",
}

func aPart(tag, id string, badges ...string) impl.Part {
	return impl.Part{Tag: tag, Id: id, Badges: badges}
}

func near(tag, id string, badges ...string) impl.Part {
	return impl.Part{Tag: tag, Id: id, Badges: badges, Near: true}
}

func samePart(a, b impl.Part) bool {
	return a.Tag == b.Tag && a.Id == b.Id && a.Near == b.Near && slices.Equal(a.Badges, b.Badges)
}

func samePick(a, b []impl.Part) bool { return slices.EqualFunc(a, b, samePart) }

func clonePick(p []impl.Part) []impl.Part {
	list := slices.Clone(p)
	for i := range list {
		list[i].Badges = slices.Clone(p[i].Badges)
	}
	return list
}

func spellPick(p []impl.Part) string { return fmt.Sprintf("%.300s", fmt.Sprintf("%+v", p)) }

// badgesByForm has no limit: a Figure may have more of them than a Part.
func badgesByForm(badges []string) bool {
	for i, one := range badges {
		if !shortForm.MatchString(one) || i > 0 && strings.Compare(badges[i-1], one) >= 0 {
			return false
		}
	}
	return true
}

func partOkByForm(p impl.Part) bool {
	for _, name := range []string{p.Tag, p.Id} {
		if name != "" && !shortForm.MatchString(name) {
			return false
		}
	}
	return len(p.Badges) <= 3 && badgesByForm(p.Badges) && p.Tag+p.Id+strings.Join(p.Badges, "") != ""
}

func pickOkByForm(p []impl.Part) bool {
	for i, part := range p {
		if !partOkByForm(part) || i == 0 && part.Near {
			return false
		}
	}
	return len(p) == 1 || len(p) == 2 || len(p) == 3 || len(p) == 4
}

func partShownByForm(p impl.Part) string {
	text := p.Tag
	if p.Id != "" {
		text += "=" + p.Id
	}
	for _, badge := range p.Badges {
		text += fmt.Sprintf(".%s", badge)
	}
	return text
}

// pickShownByForm wants a pick of at least one part.
func pickShownByForm(p []impl.Part) string {
	text := partShownByForm(p[0])
	for _, part := range p[1:] {
		if part.Near {
			text += " >"
		}
		text += " " + partShownByForm(part)
	}
	return text
}

func partByForm(s string) (impl.Part, bool) {
	m := partForm.FindStringSubmatch(s)
	if m == nil {
		return impl.Part{}, false
	}
	part, once := aPart(m[1], ""), map[string]bool{}
	for _, mark := range markForm.FindAllString(m[2], -1) {
		switch {
		case mark[0] == '.':
			once[mark[1:]] = true
		case part.Id != "":
			return impl.Part{}, false
		default:
			part.Id = mark[1:]
		}
	}
	for badge := range once {
		part.Badges = append(part.Badges, badge)
	}
	slices.Sort(part.Badges)
	return part, partOkByForm(part)
}

// pickByForm cuts the text itself: no token but a > or a TkSpace has such bytes.
func pickByForm(s string) ([]impl.Part, bool) {
	s = strings.Trim(s, " \n")
	pick, from, isNear := []impl.Part{}, 0, false
	for _, link := range append(linkForm.FindAllStringIndex(s, -1), []int{len(s), len(s)}) {
		part, is := partByForm(s[from:link[0]])
		if !is {
			return nil, false
		}
		part.Near = isNear
		pick = append(pick, part)
		from, isNear = link[1], strings.Contains(s[link[0]:link[1]], ">")
	}
	return pick, len(pick) <= 4
}

func weightByForm(p []impl.Part) int64 {
	weight := int64(0)
	for _, part := range p {
		if part.Tag != "" {
			weight++
		}
		if part.Id != "" {
			weight += 10000
		}
		for range part.Badges {
			weight += 100
		}
	}
	return weight
}

func wantPickOk(t *testing.T, p []impl.Part, want bool) {
	t.Helper()
	if got := impl.PickOk(p); got != want {
		t.Errorf("PickOk(%s) = %t", spellPick(p), got)
	}
}

func wantShownPick(t *testing.T, p []impl.Part, want string) {
	t.Helper()
	if got := impl.ShowPick(p); got != want {
		t.Errorf("ShowPick(%s) = %.300q, want %q", spellPick(p), got, want)
	}
}

func wantWeight(t *testing.T, p []impl.Part, want int64) {
	t.Helper()
	if got := impl.WeightOf(p); got != want {
		t.Errorf("WeightOf(%s) = %d, want %d", spellPick(p), got, want)
	}
}

func wantPickOf(t *testing.T, list []impl.Token, want ...impl.Part) {
	t.Helper()
	if got, is := impl.ReadPick(list); !is || !samePick(got, want) {
		t.Errorf("ReadPick(%s) = %s, %t, want %s", brief(list), spellPick(got), is, spellPick(want))
	}
}

func wantNoPickOf(t *testing.T, list []impl.Token) {
	t.Helper()
	if got, is := impl.ReadPick(list); is || len(got) != 0 {
		t.Errorf("ReadPick(%s) = %s, %t", brief(list), spellPick(got), is)
	}
}

func wantPick(t *testing.T, s string, want ...impl.Part) {
	t.Helper()
	if got, is := impl.ReadPick(impl.TokensOf(s)); !is || !samePick(got, want) {
		t.Errorf("ReadPick of %.200q = %s, %t, want %s", s, spellPick(got), is, spellPick(want))
	}
}

func wantNoPick(t *testing.T, s string) {
	t.Helper()
	if got, is := impl.ReadPick(impl.TokensOf(s)); is || len(got) != 0 {
		t.Errorf("ReadPick of %.200q = %s, %t", s, spellPick(got), is)
	}
}

func wantPickByForm(t *testing.T, s string) {
	t.Helper()
	if want, is := pickByForm(s); is {
		wantPick(t, s, want...)
	} else {
		wantNoPick(t, s)
	}
}

// wantPickAsShown is promise 10 for one pick, with what the other calls tell of it.
func wantPickAsShown(t *testing.T, p []impl.Part) {
	t.Helper()
	wantPickOk(t, p, true)
	wantShownPick(t, p, pickShownByForm(p))
	wantPick(t, impl.ShowPick(p), p...)
	wantWeight(t, p, weightByForm(p))
}

// wantNotRight is for parts that are no pick.
func wantNotRight(t *testing.T, p []impl.Part) {
	t.Helper()
	wantPickOk(t, p, false)
	wantShownPick(t, p, "")
	wantWeight(t, p, -1)
}

func wantRightOrNot(t *testing.T, p []impl.Part) {
	t.Helper()
	if pickOkByForm(p) {
		wantPickAsShown(t, p)
	} else {
		wantNotRight(t, p)
	}
}

// manyParts are right ones with and without each of Tag, Id and Badges, none Near.
func manyParts() []impl.Part {
	list := []impl.Part{}
	for _, tag := range []string{"", "a", "box", "abcdefgh"} {
		for _, id := range []string{"", "a", "box", "z-------"} {
			for _, badges := range [][]string{nil, {"a"}, {"box"}, {"a", "a-"}, {"a", "box"}, {"off", "on", "up"}, {"a", "a-", "abcdefgh"}} {
				if tag+id != "" || badges != nil {
					list = append(list, aPart(tag, id, badges...))
				}
			}
		}
	}
	return list
}

// fewParts are one with each row of Tag, Id and Badges, all of the same name, Near and not.
func fewParts() []impl.Part {
	list := []impl.Part{}
	for row := 1; row < 8; row++ {
		p := impl.Part{}
		if row&1 > 0 {
			p.Tag = "a"
		}
		if row&2 > 0 {
			p.Id = "a"
		}
		if row&4 > 0 {
			p.Badges = []string{"a"}
		}
		list = append(list, p, near(p.Tag, p.Id, p.Badges...))
	}
	return list
}

func fewPicks() [][]impl.Part {
	return [][]impl.Part{{aPart("a", "")}, {aPart("", "", "off", "on")}, {aPart("box", "a", "on", "up"), near("man", ""), aPart("", "", "red")}, {aPart("a", "b"), aPart("a", "b", "c"), near("", "", "c"), near("", "d", "e", "f", "g")}}
}

// notParts are parts that are not right.
func notParts() []impl.Part {
	list := []impl.Part{{}, {Near: true}, {Badges: []string{}}, aPart("", "", ""), aPart("a", "b", ""), aPart("a", "", "", "b"), aPart("a", "", "b", ""), aPart("", "", "", "", "")}
	for _, name := range notShort {
		list = append(list, aPart(name, ""), aPart("", name), aPart("", "", name), aPart(name, name, name), aPart(name, "a", "b"), aPart("a", name, "b"), aPart("a", "b", name), near(name, ""), near("", name), near("", "", name))
		badges := []string{"a", "b", name}
		slices.Sort(badges)
		list = append(list, aPart("a", "b", badges...), aPart("", "", badges...))
	}
	for _, badges := range [][]string{
		{"a", "a"}, {"b", "a"}, {"on", "off"}, {"a-", "a"}, {"a0", "a-"}, {"aa", "a0"}, {"a", "b", "b"}, {"a", "a", "b"}, {"a", "b", "a"}, {"b", "a", "c"}, {"a", "c", "b"}, {"c", "b", "a"}, {"a", "a", "a"}, {"abcdefgh", "abcdefg"},
		{"a", "b", "c", "d"}, {"a", "b", "c", "c"}, {"a", "a", "b", "c"}, {"a", "b", "c", ""}, {"", "a", "b", "c"}, {"d", "c", "b", "a"}, {"a", "a", "a", "a"}, {"a", "b", "c", "d", "e"}, {"a", "b", "c", "d", "e", "f", "g", "h"},
	} {
		list = append(list, aPart("", "", badges...), aPart("box", "", badges...), aPart("", "a", badges...), aPart("box", "a", badges...), near("box", "a", badges...))
	}
	return list
}

func TestPickOk(t *testing.T) {
	for _, part := range manyParts() {
		for _, other := range fewParts() {
			wantPickOk(t, []impl.Part{part}, true)
			wantPickOk(t, []impl.Part{part, other}, true)
			wantPickOk(t, []impl.Part{part, other, part}, true)
			wantPickOk(t, []impl.Part{part, part, other, other}, true)
			wantNotRight(t, []impl.Part{part, other, part, other, part})
		}
	}
	for _, p := range fewPicks() {
		wantPickOk(t, p, true)
	}
}

func TestPickOkOfEachName(t *testing.T) {
	for _, name := range slices.Concat(shortNames, notShort) {
		is := shortForm.MatchString(name)
		if is != slices.Contains(shortNames, name) {
			t.Errorf("%q is in the wrong list", name)
		}
		for _, p := range []impl.Part{aPart(name, ""), aPart("", name), aPart("", "", name), aPart(name, name, name)} {
			wantPickOk(t, []impl.Part{p}, is)
			wantPickOk(t, []impl.Part{aPart("a", ""), p}, is)
			wantRightOrNot(t, []impl.Part{p})
		}
	}
}

// TestPickOkOfNamesOneByteOff has each byte in each place of names of 7, 8 and 9 bytes.
func TestPickOkOfNamesOneByteOff(t *testing.T) {
	for _, name := range []string{"", "a", "a-01234", "a-012345", "a-0123456"} {
		for i := 0; i <= len(name); i++ {
			for b := range 256 {
				for _, s := range []string{name[:i] + byteText(b) + name[i:], name[:i] + byteText(b) + name[min(i+1, len(name)):]} {
					wantRightOrNot(t, []impl.Part{aPart(s, "")})
					wantRightOrNot(t, []impl.Part{aPart("", s)})
					wantRightOrNot(t, []impl.Part{aPart("", "", s)})
					wantRightOrNot(t, []impl.Part{aPart("a", "b", "a", s)})
				}
			}
		}
	}
}

// TestPickOkOfRowsOfBadges has each row of up to five of a few names, which rise in few of them.
func TestPickOkOfRowsOfBadges(t *testing.T) {
	for many := 0; many <= 5; many++ {
		eachRow([]string{".", ".a", ".a-", ".a0", ".aa", ".b"}, many, "", func(s string) {
			badges := strings.Split(s, ".")[1:]
			wantRightOrNot(t, []impl.Part{aPart("", "", badges...)})
			wantRightOrNot(t, []impl.Part{aPart("a", "", badges...)})
			wantRightOrNot(t, []impl.Part{aPart("", "b", badges...), near("", "", badges...)})
		})
	}
}

func TestPickOkOfManyParts(t *testing.T) {
	wantNotRight(t, nil)
	wantNotRight(t, []impl.Part{})
	for _, part := range []impl.Part{aPart("a", ""), aPart("", "a"), aPart("", "", "a"), aPart("box", "a", "b", "c", "d")} {
		for _, nearOnes := range []bool{false, true} {
			for many := 1; many <= 12; many++ {
				p := slices.Repeat([]impl.Part{part}, many)
				for i := range p {
					p[i].Near = nearOnes && i > 0
				}
				wantPickOk(t, p, many <= 4)
				wantRightOrNot(t, p)
			}
		}
		for _, many := range []int{256, 257, 258, 260, 100000} {
			wantNotRight(t, slices.Repeat([]impl.Part{part}, many))
		}
	}
}

func TestPickOkOfAFirstPartThatIsNear(t *testing.T) {
	for _, p := range append(fewPicks(), []impl.Part{aPart("", "", "a")}) {
		wantPickOk(t, p, true)
		changed := clonePick(p)
		changed[0].Near = true
		wantNotRight(t, changed)
	}
	for _, part := range manyParts() {
		wantNotRight(t, []impl.Part{near(part.Tag, part.Id, part.Badges...)})
		wantNotRight(t, []impl.Part{near(part.Tag, part.Id, part.Badges...), part})
	}
}

// TestPickOkOfOneThatIsNotRight has it in each place of picks.
func TestPickOkOfOneThatIsNotRight(t *testing.T) {
	for _, wrong := range notParts() {
		if partOkByForm(wrong) {
			t.Errorf("%+v is in the wrong list", wrong)
		}
		wantNotRight(t, []impl.Part{wrong})
		for _, p := range fewPicks() {
			for at := range p {
				changed := clonePick(p)
				changed[at] = wrong
				wantNotRight(t, changed)
			}
			wantNotRight(t, append(clonePick(p), wrong))
		}
	}
}

func TestPickOkOfWhatIsLong(t *testing.T) {
	long := strings.Repeat("a", 100000)
	many, rise := slices.Repeat([]string{"a"}, 100000), []string{}
	for i := range 100000 {
		rise = append(rise, fmt.Sprintf("a%06d", i))
	}
	for _, p := range []impl.Part{aPart(long, ""), aPart("", long), aPart("", "", long), aPart("", "", many...), aPart("", "", rise...), aPart("a", "a", "a", long, "b")} {
		wantNotRight(t, []impl.Part{p})
		wantNotRight(t, []impl.Part{aPart("a", ""), p})
	}
}

func TestShowPick(t *testing.T) {
	for text, p := range shownPicks {
		wantShownPick(t, p, text)
		wantPickAsShown(t, p)
		if got, is := pickByForm(text); !is || !samePick(got, p) {
			t.Errorf("%q is in the wrong list", text)
		}
	}
}

// TestReadPickOfShowPickIsThePick, of one part to four, and no other pick is shown alike.
func TestReadPickOfShowPickIsThePick(t *testing.T) {
	shownAs := map[string]string{}
	wantAlone := func(p []impl.Part) {
		wantPickAsShown(t, p)
		text, spelt := impl.ShowPick(p), fmt.Sprintf("%+v", p)
		if other, was := shownAs[text]; was && other != spelt {
			t.Errorf("%q shows %s and %s", text, other, spelt)
		}
		shownAs[text] = spelt
	}
	few := fewParts()
	for _, a := range few {
		if a.Near {
			continue
		}
		wantAlone([]impl.Part{a})
		for _, b := range few {
			wantAlone([]impl.Part{a, b})
			for _, c := range few {
				wantAlone([]impl.Part{a, b, c})
				for _, d := range few {
					wantAlone([]impl.Part{a, b, c, d})
				}
			}
		}
	}
	if want := 7 * (1 + 14 + 14*14 + 14*14*14); len(shownAs) != want {
		t.Errorf("%d texts of %d picks", len(shownAs), want)
	}
}

func TestReadPickOfShowPickOfManyParts(t *testing.T) {
	shownAs, many := map[string]bool{}, manyParts()
	for _, a := range many {
		for i, b := range many {
			for _, isNear := range []bool{false, true} {
				b.Near = isNear
				wantPickAsShown(t, []impl.Part{a, b})
				shownAs[impl.ShowPick([]impl.Part{a, b})] = true
				if i%7 == 0 {
					wantPickAsShown(t, []impl.Part{a, b, near("", "a"), many[i*3%len(many)]})
				}
			}
		}
	}
	if want := 2 * len(many) * len(many); len(shownAs) != want {
		t.Errorf("%d texts of %d picks", len(shownAs), want)
	}
	for _, name := range shortNames {
		for _, other := range shortNames {
			wantPickAsShown(t, []impl.Part{aPart(name, other, name), near(other, name)})
		}
	}
}

func TestReadPickOfNothing(t *testing.T) {
	wantNoPickOf(t, nil)
	wantNoPickOf(t, []impl.Token{})
	wantNoPickOf(t, []impl.Token{aSpace})
	wantNoPickOf(t, []impl.Token{aSpace, aSpace})
	for _, s := range strings.Split(allSigns, "") {
		wantNoPickOf(t, []impl.Token{aSign(s)})
		wantNoPickOf(t, []impl.Token{aSpace, aSign(s), aSpace})
	}
	wantNoPick(t, "a"+strings.Repeat(" ", impl.MaxSheet))
	wantPick(t, "a"+strings.Repeat(" ", impl.MaxSheet-1), aPart("a", ""))
	wantPick(t, "a"+strings.Repeat("\n", impl.MaxSheet-2)+"b", aPart("a", ""), aPart("b", ""))
}

func TestReadPickOfWhatIsNone(t *testing.T) {
	for _, s := range notPicks {
		if _, is := pickByForm(s); is {
			t.Errorf("%q is in the wrong list", s)
		}
		wantNoPick(t, s)
		wantNoPick(t, " \n"+s+"\n ")
		if strings.Trim(s, " \n") != "" {
			wantNoPick(t, s+" > a")
			wantNoPick(t, "a > "+s)
		}
	}
}

// TestReadPickWithSpaces has them at the ends, around a > and between two parts.
func TestReadPickWithSpaces(t *testing.T) {
	spaces := []string{"", " ", "\n", "  ", " \n \n"}
	a, b := aPart("a", "b", "c"), near("d", "", "e")
	for _, ahead := range spaces {
		for _, left := range spaces {
			for _, right := range spaces {
				for _, end := range spaces {
					wantPick(t, ahead+"a=b.c"+left+">"+right+"d.e"+end, a, b)
					wantPick(t, ahead+"a=b.c"+left+">"+right+"d.e"+end+">"+left+"d.e", a, b, b)
					wantPick(t, ahead+"a=b.c"+left+">"+right+"d.e a=b.c"+end, a, b, a)
					wantPick(t, ahead+"a=b.c "+left+right+"\na=b.c"+end, a, a)
					wantNoPick(t, ahead+">"+left+"a=b.c"+end)
					wantNoPick(t, ahead+"a=b.c"+left+">"+right+">"+end+"d.e")
					wantNoPick(t, ahead+"a=b.c"+left+">"+end)
					if right != "" {
						wantNoPick(t, ahead+"a="+right+"b.c"+end)
						wantNoPick(t, ahead+"a=b."+right+"c"+end)
						wantPick(t, ahead+"a"+right+"=b"+right+".c"+end, aPart("a", ""), aPart("", "b"), aPart("", "", "c"))
					}
				}
			}
		}
	}
}

// TestReadPickWithSpacesSideBySide has tokens that come out of no text.
func TestReadPickWithSpacesSideBySide(t *testing.T) {
	a, b, c, link := aName("a"), aName("b"), aName("c"), aSign(">")
	for many := range 4 {
		gap := slices.Repeat([]impl.Token{aSpace}, many)
		wantPickOf(t, slices.Concat(gap, []impl.Token{a}, gap), aPart("a", ""))
		wantPickOf(t, slices.Concat(gap, []impl.Token{a}, gap, []impl.Token{link}, gap, []impl.Token{b}, gap), aPart("a", ""), near("b", ""))
		wantPickOf(t, slices.Concat([]impl.Token{a, link}, gap, []impl.Token{b, aSpace, aSpace, aSign("."), c}, gap), aPart("a", ""), near("b", ""), aPart("", "", "c"))
		wantNoPickOf(t, slices.Concat(gap, []impl.Token{link}, gap, []impl.Token{b}))
		wantNoPickOf(t, slices.Concat([]impl.Token{a}, gap, []impl.Token{link}, gap))
		wantNoPickOf(t, slices.Concat([]impl.Token{a}, gap, []impl.Token{link}, gap, []impl.Token{link}, gap, []impl.Token{b}))
		if many > 0 {
			wantPickOf(t, slices.Concat([]impl.Token{a}, gap, []impl.Token{b}, gap), aPart("a", ""), aPart("b", ""))
			wantNoPickOf(t, slices.Concat([]impl.Token{a, aSign(".")}, gap, []impl.Token{b}))
			wantNoPickOf(t, slices.Concat([]impl.Token{a, aSign("=")}, gap, []impl.Token{b}))
		}
	}
}

// TestReadPickWithNamesSideBySide has tokens that come out of no text either: a Tag stands ahead of all marks, and one name behind each.
func TestReadPickWithNamesSideBySide(t *testing.T) {
	a, b, id, badge, link := aName("a"), aName("b"), aSign("="), aSign("."), aSign(">")
	for _, list := range [][]impl.Token{
		{a, b}, {a, a}, {a, b, a}, {a, b, a, b}, {id, a, b}, {badge, a, b}, {badge, a, b, a}, {a, badge, b, a}, {a, id, b, a}, {a, b, badge, a}, {a, b, id, a}, {badge, a, b, badge, a}, {id, a, b, badge, a}, {a, link, a, b}, {a, b, link, a}, {a, aSpace, a, b}, {a, badge, b, a, aSpace, b},
		{a, badge, aUnit(5, "b")}, {a, id, aUnit(5, "b")}, {aUnit(5, "a")}, {aUnit(5, "a"), badge, a}, {a, badge, aNumber(5)}, {a, id, aNumber(5), a}, {a, badge, aColor("ff00aa")}, {aColor("ff00aa")}, {a, aBad("-"), b}, {a, badge, aBad("A")}, {badge, badge}, {id, id}, {a, badge, badge}, {a, badge, id}, {a, link, badge, link}, {badge, link}, {a, badge, link}, {a, badge, link, b}, {a, id, link, b}, {a, badge, aSign("*")}, {a, aSign("*"), b}, {a, aSign(","), b}, {a, aNumber(5)}, {aNumber(5), a}, {a, a, link}, {badge, a, id}, {badge, a, badge},
	} {
		wantNoPickOf(t, list)
	}
	wantPickOf(t, []impl.Token{a, badge, b, id, a, badge, a}, aPart("a", "a", "a", "b"))
}

// TestReadPickOfMarksInAnyOrder has each row of up to five = and . behind a Tag, or none.
func TestReadPickOfMarksInAnyOrder(t *testing.T) {
	for many := 0; many <= 5; many++ {
		eachRow([]string{"=a", "=b", ".a", ".b", ".a-", ".c"}, many, "", func(s string) {
			wantPickByForm(t, s)
			wantPickByForm(t, "a > b"+s+" .c")
		})
	}
	hero := aPart("box", "hero", "off", "on")
	for _, s := range []string{"box=hero.off.on", "box=hero.on.off", "box.on=hero.off", "box.off=hero.on", "box.on.off=hero", "box.off.on=hero", "box.on.off.on=hero", "box.off.off.off.off=hero.on.on", "box.on=hero.on.off.on"} {
		wantPick(t, s, hero)
	}
}

// TestReadPickOfManyBadges: the same one counts once.
func TestReadPickOfManyBadges(t *testing.T) {
	for _, many := range []int{1, 2, 3, 4, 5, 10, 300, 600} {
		wantPick(t, strings.Repeat(".a", many), aPart("", "", "a"))
		wantPick(t, "box"+strings.Repeat(".c.a.b", many), aPart("box", "", "a", "b", "c"))
		wantPick(t, "box"+strings.Repeat(".b", many)+"=id"+strings.Repeat(".a", many), aPart("box", "id", "a", "b"))
		wantNoPick(t, "box"+strings.Repeat(".a.b.c", many)+".d")
		wantNoPick(t, "box"+strings.Repeat(".d.c.b.a", many))
		wantNoPick(t, "box"+strings.Repeat(".a", many)+"=id=id")
	}
	long := slices.Repeat([]impl.Token{aSign("."), aName("b"), aSign("."), aName("a")}, 50000)
	wantPickOf(t, long, aPart("", "", "a", "b"))
	wantNoPickOf(t, append(long, aSign(".")))
	wantNoPickOf(t, append(long, aSign("."), aName("")))
	wantNoPickOf(t, append(long, aSign("."), aName("c"), aSign("."), aName("d")))
}

func TestReadPickOfManyParts(t *testing.T) {
	for many := 1; many <= 12; many++ {
		for _, link := range []string{" ", ">", " > "} {
			s := strings.Repeat("a=b.c"+link, many-1) + "a=b.c"
			wantPickByForm(t, s)
			if _, is := impl.ReadPick(impl.TokensOf(s)); is != (many <= 4) {
				t.Errorf("%q: %t", s, is)
			}
		}
	}
	for _, piece := range []string{"a ", "a>", "a > ", ">", "> ", ".", "=", ".a ", "=a", "a.b=c > "} {
		wantNoPickOf(t, slices.Repeat(impl.TokensOf(piece), 20000))
		wantNoPickOf(t, append(slices.Repeat(impl.TokensOf(piece), 20000), aName("a")))
	}
	gap := slices.Repeat([]impl.Token{aSpace}, 50000)
	wantPickOf(t, slices.Concat(gap, []impl.Token{aName("a")}, gap, []impl.Token{aName("b")}, gap, []impl.Token{aSign(">")}, gap, []impl.Token{aName("c")}, gap), aPart("a", ""), aPart("b", ""), near("c", ""))
}

func TestReadPickOfEachName(t *testing.T) {
	for _, name := range slices.Concat(shortNames, notShort) {
		for _, s := range []string{name, "=" + name, "." + name, "a=" + name, "a." + name, name + "=a", name + ".a", "a > " + name, name + " a", "a.b." + name + ".c", name + "=" + name + "." + name} {
			wantPickByForm(t, s)
		}
		is := shortForm.MatchString(name)
		for _, list := range [][]impl.Token{{aName(name)}, {aSign("="), aName(name)}, {aSign("."), aName(name)}, {aName("a"), aSpace, aName(name)}, {aName(name), aSign(">"), aName("a")}} {
			if _, got := impl.ReadPick(list); got != is {
				t.Errorf("ReadPick(%s): %t", brief(list), got)
			}
		}
	}
	long := aName(strings.Repeat("a", 100000))
	wantNoPickOf(t, []impl.Token{long})
	wantNoPickOf(t, []impl.Token{aName("a"), aSign("."), long})
	wantNoPickOf(t, []impl.Token{aName("a"), aSign("="), long, aSpace, aName("a")})
}

func TestReadPickOneByteOff(t *testing.T) {
	for _, s := range []string{"box.on=a.off > man .red", "abcdefgh=abcdefgh.abcdefgh>a\nb", ".a.b.c =d", "a > a > a > a"} {
		eachOneByteOff(s, allBytes(), func(s string) { wantPickByForm(t, s) })
	}
}

// TestReadPickIsAsItsForm goes through all rows of a few pieces.
func TestReadPickIsAsItsForm(t *testing.T) {
	for many := 0; many <= 6; many++ {
		eachRow([]string{"a", "b", "=", ".", ">", " "}, many, "", func(s string) { wantPickByForm(t, s) })
	}
	pieces := []string{"a", "=b", ".c", ".a", ">", " ", "\n", "*", "5", ".", "=", "abcdefgh"}
	for many := 0; many <= 4; many++ {
		eachRow(pieces, many, "", func(s string) { wantPickByForm(t, s) })
		eachRow(pieces, many, "a > b.c c", func(s string) { wantPickByForm(t, s) })
	}
}

// TestReadPickWithOneTokenThatIsNotRight has it in each place of a list, and in place of each token.
func TestReadPickWithOneTokenThatIsNotRight(t *testing.T) {
	list := impl.TokensOf(" box.on=a > man .red ")
	wantPickOf(t, list, aPart("box", "a", "on"), near("man", ""), aPart("", "", "red"))
	for _, wrong := range notTokens() {
		wantNoPickOf(t, []impl.Token{wrong})
		for at := range list {
			wantNoPickOf(t, slices.Insert(slices.Clone(list), at, wrong))
			changed := slices.Clone(list)
			changed[at] = wrong
			wantNoPickOf(t, changed)
		}
		wantNoPickOf(t, append(slices.Clone(list), wrong))
		wantNoPickOf(t, append(slices.Clone(list), aSign(">"), wrong))
		wantNoPickOf(t, append([]impl.Token{wrong, aSign(">")}, list...))
	}
}

func TestWeightOf(t *testing.T) {
	wantWeight(t, []impl.Part{aPart("a", "")}, 1)
	wantWeight(t, []impl.Part{aPart("", "a")}, 10000)
	wantWeight(t, []impl.Part{aPart("", "", "a")}, 100)
	wantWeight(t, []impl.Part{aPart("", "", "a", "b")}, 200)
	wantWeight(t, []impl.Part{aPart("", "", "a", "b", "c")}, 300)
	wantWeight(t, []impl.Part{aPart("abcdefgh", "a")}, 10001)
	wantWeight(t, []impl.Part{aPart("abcdefgh", "", "a")}, 101)
	wantWeight(t, []impl.Part{aPart("", "abcdefgh", "a")}, 10100)
	wantWeight(t, []impl.Part{aPart("a", "b", "c")}, 10101)
	wantWeight(t, []impl.Part{aPart("a", "b", "c", "d", "e")}, 10301)
	wantWeight(t, []impl.Part{aPart("a", ""), aPart("a", "")}, 2)
	wantWeight(t, []impl.Part{aPart("a", ""), near("a", "")}, 2)
	wantWeight(t, []impl.Part{aPart("", "a"), near("", "", "a")}, 10100)
	wantWeight(t, []impl.Part{aPart("a", ""), aPart("", "a"), near("", "", "a"), aPart("a", "a", "a")}, 20202)
	wantWeight(t, slices.Repeat([]impl.Part{aPart("a", "b", "c", "d", "e")}, 4), 41204)
	for text, p := range shownPicks {
		read, _ := impl.ReadPick(impl.TokensOf(text))
		wantWeight(t, read, weightByForm(p))
	}
}

// TestPicksFarOut: an answer at every argument; a Part has no number, but the tokens it is read of have two.
func TestPicksFarOut(t *testing.T) {
	for _, far := range outliers {
		for kind := int64(0); kind <= 8; kind++ {
			for _, text := range []string{"", "a", ".", "=", ">", "%", "ff00aa"} {
				wrong := impl.Token{Kind: kind, Text: text, Number: far}
				wantNoPickOf(t, []impl.Token{wrong})
				wantNoPickOf(t, []impl.Token{aName("a"), aSpace, wrong})
				wantNoPickOf(t, []impl.Token{aName("a"), aSign("."), wrong})
				wantNoPickOf(t, []impl.Token{aName("a"), wrong, aName("b")})
			}
		}
		for _, text := range []string{"", "a", ".", "=", ">"} {
			wantNoPickOf(t, []impl.Token{{Kind: far, Text: text}})
			wantNoPickOf(t, []impl.Token{aName("a"), {Kind: far, Text: text}, aName("b")})
		}
	}
}

// TestReadPickIsNewMemory: no two lists of it share any, nor does it with what is read at another time.
func TestReadPickIsNewMemory(t *testing.T) {
	for _, s := range []string{"a.b.c > a.b.c a.b.c", ".c.b.a .c.b.a", "a b > c d", "a.b > a.c > a.d.d.d"} {
		list := impl.TokensOf(s)
		first, _ := impl.ReadPick(list)
		want, _ := pickByForm(s)
		for i := range first {
			first[i].Badges = append(first[i].Badges, "more", "and")
			for k := range first[i].Badges {
				first[i].Badges[k] = fmt.Sprintf("changed%d-%d", i, k)
			}
		}
		for i, part := range first {
			for k, badge := range part.Badges {
				if badge != fmt.Sprintf("changed%d-%d", i, k) {
					t.Errorf("%q: badge %d of %d is %q", s, k, i, badge)
				}
			}
			first[i] = near("other", "other")
		}
		first = append(first, aPart("spare", ""))
		wantPickOf(t, list, want...)
		if len(first) != len(want)+1 || !slices.Equal(list, impl.TokensOf(s)) {
			t.Errorf("%q: %d parts of %v", s, len(first), list)
		}
	}
}

// TestReadPickLeavesItsList, and the spare room behind it, whether there is a pick or not.
func TestReadPickLeavesItsList(t *testing.T) {
	for _, s := range []string{"", "a", "  a.c.b  >  b=c  d ", ".c.b.a.c > .b", "a > > b", "a=b=c", "a b c d e", "> a", "a."} {
		room := append(slices.Insert(impl.TokensOf(s), 0, aSpace, aSpace), aSpace, aSpace, aSign("."), aName("a"), aSign(">"), impl.Token{}, aName("spare"))
		before := slices.Clone(room)
		for end := range len(room) + 1 {
			first, is := impl.ReadPick(room[:end])
			again, isAgain := impl.ReadPick(room[:end])
			if !samePick(first, again) || is != isAgain || !slices.Equal(room, before) {
				t.Errorf("%q: %s, then %s; the list is now %v, was %v", s, spellPick(first), spellPick(again), room, before)
			}
		}
	}
}

// TestPicksLeaveTheirParts: nothing is written into them or their Badges, nor into the room behind these, whether they are right or not.
func TestPicksLeaveTheirParts(t *testing.T) {
	picks := fewPicks()
	for _, wrong := range notParts() {
		picks = append(picks, []impl.Part{wrong}, []impl.Part{aPart("a", "", "b"), wrong, wrong})
	}
	picks = append(picks, nil, slices.Repeat([]impl.Part{aPart("a", "", "c", "b", "a")}, 5), []impl.Part{near("a", "", "c", "b")})
	for _, p := range picks {
		room := append(clonePick(p), near("spare", "", "z", "y"), impl.Part{})
		for i := range room {
			room[i].Badges = append(room[i].Badges, "spare", "a")
		}
		before := clonePick(room)
		for i := range room {
			room[i].Badges = room[i].Badges[:len(room[i].Badges)-2]
		}
		given := room[:len(p)]
		is, text, weight := impl.PickOk(given), impl.ShowPick(given), impl.WeightOf(given)
		if is != impl.PickOk(given) || text != impl.ShowPick(given) || weight != impl.WeightOf(given) {
			t.Errorf("%s: another answer the second time", spellPick(p))
		}
		for i := range room {
			room[i].Badges = room[i].Badges[:len(room[i].Badges)+2]
		}
		if !samePick(room, before) {
			t.Errorf("the parts are now %s, were %s", spellPick(room), spellPick(before))
		}
	}
}
