package tests

import (
	"fmt"
	"math/rand/v2"
	"regexp"
	"slices"
	"strconv"
	"strings"
	"testing"

	"loop.example/g00521/impl"
)

const formStanding = `(/[^/]*)*`
const formMoreBadges = `(\.[^/=.]+)*`

// notNumbers are numbers of which none is a figure's, whatever the tree.
var notNumbers = append([]int64{-256, -17, -16, -3, -2, -1, 16, 17, 18, 255, 256, 257, 1 << 16, 1 << 32, 1<<32 + 1, -1 << 32, 1<<40 + 2}, outliers...)

// aFamily is the tree of the tables below: 0 has 1 and 3 below it, 1 has 2, 3 has 4, 2 has 5, 5 has 6.
func aFamily() []impl.Figure {
	return []impl.Figure{
		aFigure(-1, "box", "", "on"), aFigure(0, "man", "a"), aFigure(1, "sun", ""), aFigure(0, "man", "", "red", "up"),
		aFigure(3, "sun", "b", "on"), aFigure(2, "box", ""), aFigure(5, "sun", "", "off", "on", "red", "up"),
	}
}

// whoMeets are picks, each with the figures of aFamily that Meet it.
var whoMeets = map[string][]int64{
	"box": {0, 5}, "man": {1, 3}, "sun": {2, 4, 6}, "moon": {}, "=a": {1}, "=b": {4}, "=c": {}, ".on": {0, 4, 6}, ".red": {3, 6}, ".off": {6}, ".down": {}, "man=a": {1}, "man=b": {}, "sun=a": {}, "box.on": {0}, "box.up": {}, "sun.on": {4, 6}, "sun=b.on": {4}, "sun=a.on": {}, "sun=b.up": {}, ".red.up": {3, 6}, ".on.red": {6}, ".off.on.up": {6}, ".on.red.up": {6}, ".down.on.up": {}, "man.red.up": {3}, "man.off.red.up": {},
	"box sun": {2, 4, 6}, "box > sun": {6}, "man sun": {2, 4, 6}, "man > sun": {2, 4}, "sun sun": {6}, "sun > sun": {}, "box box": {5}, "box > box": {}, "box man": {1, 3}, "box > man": {1, 3}, "man box": {5}, "man > box": {}, "sun box": {5}, "sun > box": {5}, "man man": {}, "sun man": {}, "=a sun": {2, 6}, "=a > sun": {2}, "=a box": {5}, "=b sun": {}, ".on .on": {4, 6}, ".on > .on": {}, ".red .on": {4}, ".up > .on": {4}, "box.on sun": {2, 4, 6}, "box.on > sun": {}, "box sun.on": {4, 6}, "box > sun.on": {6}, ".off sun": {},
	"box man sun": {2, 4, 6}, "box > man sun": {2, 4, 6}, "box man > sun": {2, 4}, "box > man > sun": {2, 4}, ".on > man > sun": {2, 4}, "box sun sun": {6}, "man sun sun": {6}, "man > sun sun": {6}, "man sun > sun": {}, "man > sun > box": {5}, "box box sun": {6}, "box box > sun": {6}, "box > box sun": {}, "sun box sun": {6}, "=a > sun > box": {5}, "=a sun box": {5}, "=b sun sun": {}, "sun sun sun": {}, "box man man": {},
	"man sun box sun": {6}, "man > sun > box > sun": {6}, "box.on =a box .up": {6}, "box > man > sun box": {5}, "box > man > sun > box": {5}, "box > man box sun": {6}, "box > man > sun sun": {6}, "box > man > box > sun": {}, "box man sun sun": {6}, "box sun sun sun": {}, "sun > box > sun > sun": {},
}

func aFigure(above int64, tag, id string, badges ...string) impl.Figure {
	return impl.Figure{Above: above, Tag: tag, Id: id, Badges: badges}
}

func withNotes(f impl.Figure, notes ...impl.Note) impl.Figure {
	f.Notes = notes
	return f
}

func under(above int64, f impl.Figure) impl.Figure {
	f.Above = above
	return f
}

func sameFigure(a, b impl.Figure) bool {
	return a.Above == b.Above && a.Tag == b.Tag && a.Id == b.Id && slices.Equal(a.Badges, b.Badges) && slices.Equal(a.Notes, b.Notes)
}

func sameTree(a, b []impl.Figure) bool { return slices.EqualFunc(a, b, sameFigure) }

func cloneFigure(f impl.Figure) impl.Figure {
	f.Badges, f.Notes = slices.Clone(f.Badges), slices.Clone(f.Notes)
	return f
}

func cloneTree(tree []impl.Figure) []impl.Figure {
	list := []impl.Figure{}
	for _, f := range tree {
		list = append(list, cloneFigure(f))
	}
	return list
}

// spell is longer than brief: a tree is told by its last figure too.
func spell(what any) string { return fmt.Sprintf("%.600s", fmt.Sprintf("%+v", what)) }

// chain is a tree each of whose figures stands right below the one ahead of it.
func chain(list ...impl.Figure) []impl.Figure {
	tree := cloneTree(list)
	for i := range tree {
		tree[i].Above = int64(i) - 1
	}
	return tree
}

func chainOfTags(tags ...string) []impl.Figure {
	tree := []impl.Figure{}
	for _, tag := range tags {
		tree = append(tree, aFigure(0, tag, ""))
	}
	return chain(tree...)
}

// fewTrees are of 1, 2, 7 and 16 figures.
func fewTrees() [][]impl.Figure {
	star := []impl.Figure{aFigure(-1, "a", "b", "c", "d")}
	for len(star) < 16 {
		star = append(star, withNotes(aFigure(0, "a", ""), weak(1, pixelsOf(7)), strong(0, plainOf(500))))
	}
	return [][]impl.Figure{
		{aFigure(-1, "box", "")}, {aFigure(-1, "box", "a"), aFigure(0, "man", "b", "on")}, aFamily(), star,
		chain(slices.Repeat([]impl.Figure{aFigure(0, "man", "a", "off", "on", "red", "up")}, 16)...),
	}
}

func figureOkByForm(f impl.Figure) bool {
	for _, n := range f.Notes {
		if !fitsByForm(n.Look, n.Value) {
			return false
		}
	}
	return shortForm.MatchString(f.Tag) && (f.Id == "" || shortForm.MatchString(f.Id)) && len(f.Badges) < 5 && badgesByForm(f.Badges) && len(f.Notes) < 13
}

func treeOkByForm(tree []impl.Figure) bool {
	for i, f := range tree {
		first := i == 0 && f.Above == -1
		later := i > 0 && f.Above >= 0 && f.Above < int64(i)
		if !first && !later || !figureOkByForm(f) {
			return false
		}
	}
	return len(tree) < 17
}

// pathByForm wants a tree and a figure that there is.
func pathByForm(tree []impl.Figure, i int64) []int64 {
	path := []int64{}
	for k := i; k >= 0; k-- {
		if k == i || k == tree[path[len(path)-1]].Above {
			path = append(path, k)
		}
	}
	return path
}

// standsAs tells a figure as a text: all above it, the uppermost one first, and itself, each as a part is shown, with a / ahead.
func standsAs(tree []impl.Figure, i int64) string {
	text := ""
	for _, k := range pathByForm(tree, i) {
		text = "/" + partShownByForm(aPart(tree[k].Tag, tree[k].Id, tree[k].Badges...)) + text
	}
	return text
}

func partMetForm(p impl.Part) string {
	form := `/` + p.Tag
	if p.Tag == "" {
		form += `[^/=.]+`
	}
	if p.Id != "" {
		form += `=` + p.Id
	} else {
		form += `(=[^/.]+)?`
	}
	for _, badge := range p.Badges {
		form += formMoreBadges + `\.` + badge
	}
	return form + formMoreBadges
}

// metForm is the form of the texts of standsAs that Meet a pick: nothing in it goes from figure to figure as the program does.
func metForm(p []impl.Part) *regexp.Regexp {
	form := `\A`
	for _, part := range p {
		if !part.Near {
			form += formStanding
		}
		form += partMetForm(part)
	}
	return regexp.MustCompile(form + `\z`)
}

func wantTreeOk(t *testing.T, tree []impl.Figure, want bool) {
	t.Helper()
	if got := impl.TreeOk(tree); got != want {
		t.Errorf("TreeOk(%s) = %t", spell(tree), got)
	}
}

func wantPath(t *testing.T, tree []impl.Figure, i int64, want ...int64) {
	t.Helper()
	if got := impl.Path(tree, i); !slices.Equal(got, want) {
		t.Errorf("Path(%s, %d) = %v, want %v", spell(tree), i, got, want)
	}
}

func wantGrown(t *testing.T, tree []impl.Figure, f impl.Figure) {
	t.Helper()
	want := append(slices.Clone(tree), f)
	if got, is := impl.Grown(tree, f); !is || !sameTree(got, want) {
		t.Errorf("Grown(%s, %s) = %s, %t", spell(tree), spell(f), spell(got), is)
	}
}

// wantAsItIs is for a tree and a figure that may not stand at its end.
func wantAsItIs(t *testing.T, tree []impl.Figure, f impl.Figure) {
	t.Helper()
	if got, is := impl.Grown(tree, f); is || !sameTree(got, tree) {
		t.Errorf("Grown(%s, %s) = %s, %t", spell(tree), spell(f), spell(got), is)
	}
}

func wantMeets(t *testing.T, tree []impl.Figure, i int64, p []impl.Part, want bool) {
	t.Helper()
	if got := impl.Meets(tree, i, p); got != want {
		t.Errorf("Meets(%s, %d, %s) = %t", spell(tree), i, pickShownByForm(p), got)
	}
}

func wantMet(t *testing.T, tree []impl.Figure, i int64, s string, want bool) {
	t.Helper()
	p, is := impl.ReadPick(impl.TokensOf(s))
	if got := impl.Meets(tree, i, p); !is || got != want {
		t.Errorf("Meets(%s, %d, %q) = %t", spell(tree), i, s, got)
	}
}

// wantAllOfTree is for a tree: what each call tells of it.
func wantAllOfTree(t *testing.T, tree []impl.Figure) {
	t.Helper()
	wantTreeOk(t, tree, true)
	for i := range int64(len(tree)) {
		wantPath(t, tree, i, pathByForm(tree, i)...)
		f := tree[i]
		wantMeets(t, tree, i, []impl.Part{aPart(f.Tag, f.Id, f.Badges[:min(3, len(f.Badges))]...)}, true)
	}
	if f := aFigure(int64(len(tree))-1, "a", ""); len(tree) < 16 {
		wantGrown(t, tree, f)
	} else {
		wantAsItIs(t, tree, f)
	}
}

// wantNoTree is for figures that are no tree: nothing is told of any of them, even of those that are right and stand ahead.
func wantNoTree(t *testing.T, tree []impl.Figure) {
	t.Helper()
	wantTreeOk(t, tree, false)
	for i := int64(-1); i <= min(int64(len(tree)), 20); i++ {
		wantPath(t, tree, i)
		tag := "a"
		if i >= 0 && i < int64(len(tree)) && shortForm.MatchString(tree[i].Tag) {
			tag = tree[i].Tag
		}
		wantMeets(t, tree, i, []impl.Part{aPart(tag, "")}, false)
	}
	for _, f := range []impl.Figure{aFigure(-1, "a", ""), aFigure(0, "a", ""), aFigure(int64(len(tree))-1, "a", "b", "c"), {}} {
		if got, is := impl.Grown(tree, f); is || len(got) != 0 {
			t.Errorf("Grown(%s, %s) = %s, %t", spell(tree), spell(f), spell(got), is)
		}
	}
}

func wantTreeOrNot(t *testing.T, tree []impl.Figure) {
	t.Helper()
	if treeOkByForm(tree) {
		wantAllOfTree(t, tree)
	} else {
		wantNoTree(t, tree)
	}
}

// wantFigureOrNot asks of a figure alone, at the end of a tree and within one.
func wantFigureOrNot(t *testing.T, f impl.Figure) {
	t.Helper()
	wantTreeOrNot(t, []impl.Figure{under(-1, f)})
	ahead, behind := aFigure(-1, "a", ""), aFigure(0, "b", "")
	wantTreeOrNot(t, []impl.Figure{ahead, under(0, f)})
	wantTreeOrNot(t, []impl.Figure{ahead, under(0, f), behind})
	if figureOkByForm(f) {
		wantGrown(t, nil, under(-1, f))
		wantGrown(t, []impl.Figure{ahead, behind}, under(1, f))
	} else {
		wantAsItIs(t, nil, under(-1, f))
		wantAsItIs(t, []impl.Figure{ahead, behind}, under(1, f))
	}
}

// wantToldOf is promise 11: who Meets a pick has what its last Part tells, and above it there is who Meets the rest.
func wantToldOf(t *testing.T, tree []impl.Figure, i int64, p []impl.Part) {
	t.Helper()
	if !impl.Meets(tree, i, p) {
		return
	}
	f, rest, last := tree[i], p[:len(p)-1], p[len(p)-1]
	if last.Tag != "" && last.Tag != f.Tag || last.Id != "" && last.Id != f.Id {
		t.Errorf("%s Meets %s", spell(f), pickShownByForm(p))
	}
	for _, badge := range last.Badges {
		if !slices.Contains(f.Badges, badge) {
			t.Errorf("%s Meets %s", spell(f), pickShownByForm(p))
		}
	}
	if len(rest) == 0 {
		return
	}
	above := pathByForm(tree, i)[1:]
	if last.Near {
		above = above[:min(1, len(above))]
	}
	if !slices.ContainsFunc(above, func(k int64) bool { return impl.Meets(tree, k, rest) }) {
		t.Errorf("%d of %s Meets %s, but none above it Meets the rest", i, spell(tree), pickShownByForm(p))
	}
}

func wantMeetsAsItsForm(t *testing.T, tree []impl.Figure, i int64, p []impl.Part, form *regexp.Regexp) {
	t.Helper()
	wantMeets(t, tree, i, p, form.MatchString(standsAs(tree, i)))
	wantToldOf(t, tree, i, p)
}

// eachShape goes through all trees of that many figures by what each of them has above it.
func eachShape(many int, ahead []int64, do func([]int64)) {
	if len(ahead) == many {
		do(ahead)
		return
	}
	for above := range int64(len(ahead)) {
		eachShape(many, append(slices.Clone(ahead), above), do)
	}
}

func eachPick(parts []impl.Part, most int, ahead []impl.Part, do func([]impl.Part)) {
	if len(ahead) > 0 {
		do(ahead)
	}
	if len(ahead) == most {
		return
	}
	for _, part := range parts {
		if len(ahead) > 0 || !part.Near {
			eachPick(parts, most, append(slices.Clone(ahead), part), do)
		}
	}
}

// badgeRows are all rows of up to so many of these badges that rise.
func badgeRows(most int, badges ...string) [][]string {
	rows := [][]string{}
	for bits := range 1 << len(badges) {
		row := []string{}
		for i, badge := range badges {
			if bits>>i&1 > 0 {
				row = append(row, badge)
			}
		}
		if len(row) <= most {
			rows = append(rows, row)
		}
	}
	return rows
}

// notFigures are figures that are not right, whatever is Above.
func notFigures() []impl.Figure {
	list := []impl.Figure{{}, aFigure(0, "", "a"), aFigure(0, "", "", "a"), aFigure(0, "", "a", "b"), aFigure(0, "a", "", ""), aFigure(0, "a", "b", "", "c")}
	for _, name := range notShort {
		list = append(list, aFigure(0, name, ""), aFigure(0, "a", name), aFigure(0, "a", "", name), aFigure(0, name, name, name))
	}
	for _, badges := range [][]string{
		{"a", "b", "c", "d", "e"}, {"a", "b", "c", "d", "e", "f", "g", "h"}, {"a", "a"}, {"b", "a"}, {"on", "off"}, {"a", "b", "c", "c"}, {"a", "a", "b", "c"}, {"d", "c", "b", "a"}, {"a", "b", "d", "c"}, {"b", "a", "c", "d"}, {"a", "a", "a", "a", "a"}, {"a", "b", "c", "d", "d"}, {"a-", "a"}, {"a", "b", "c", "d", ""},
	} {
		list = append(list, aFigure(0, "a", "", badges...), aFigure(0, "a", "b", badges...))
	}
	right := weak(1, pixelsOf(7))
	for _, many := range []int{13, 14, 24, 256, 268} {
		list = append(list, withNotes(aFigure(0, "a", ""), slices.Repeat([]impl.Note{right}, many)...))
	}
	for i, wrong := range notRightNotes() {
		if i%7 == 0 {
			list = append(list, withNotes(aFigure(0, "a", ""), wrong), withNotes(aFigure(0, "a", "b", "c"), right, right, wrong), withNotes(aFigure(0, "a", ""), wrong, right))
		}
	}
	return list
}

// notTrees have a figure that is not right in each place, one that stands below none there is, or too many.
func notTrees() [][]impl.Figure {
	list := [][]impl.Figure{}
	for _, tree := range fewTrees() {
		for at := range tree {
			for _, wrong := range []impl.Figure{aFigure(0, "", ""), aFigure(0, "a", "-"), aFigure(0, "a", "", "b", "a"), withNotes(aFigure(0, "a", ""), impl.Note{})} {
				changed := cloneTree(tree)
				changed[at] = under(tree[at].Above, wrong)
				list = append(list, changed)
			}
			wrong := append([]int64{int64(at), int64(at) + 1, int64(len(tree)), -2}, notNumbers...)
			if at == 0 {
				wrong = slices.DeleteFunc(wrong, func(n int64) bool { return n == -1 })
			}
			for _, above := range wrong {
				changed := cloneTree(tree)
				changed[at].Above = above
				list = append(list, changed)
			}
		}
		for many := len(tree); many <= 18; many++ {
			if many > 16 {
				list = append(list, append(cloneTree(tree), slices.Repeat([]impl.Figure{aFigure(0, "a", "")}, many-len(tree))...))
			}
		}
	}
	return list
}

func TestLimitOfFigures(t *testing.T) {
	if impl.MaxFigures != 16 {
		t.Fatal(impl.MaxFigures)
	}
}

func TestTheEmptyTree(t *testing.T) {
	for _, tree := range [][]impl.Figure{nil, {}} {
		wantTreeOk(t, tree, true)
		wantGrown(t, tree, aFigure(-1, "a", ""))
		for _, i := range append(notNumbers, 0, 1) {
			wantPath(t, tree, i)
			wantMeets(t, tree, i, []impl.Part{aPart("a", "")}, false)
			if i != -1 {
				wantAsItIs(t, tree, aFigure(i, "a", ""))
			}
		}
		wantAsItIs(t, tree, aFigure(-1, "", ""))
	}
}

func TestTreeOkAtMaxFigures(t *testing.T) {
	for many := 1; many <= 40; many++ {
		deep := chain(slices.Repeat([]impl.Figure{aFigure(0, "a", "")}, many)...)
		flat := cloneTree(deep)
		for i := range flat[1:] {
			flat[1+i].Above = 0
		}
		for _, tree := range [][]impl.Figure{deep, flat} {
			wantTreeOk(t, tree, many <= 16)
			wantTreeOrNot(t, tree)
		}
	}
	for _, many := range []int{256, 257, 272, 100000} {
		wantNoTree(t, chain(slices.Repeat([]impl.Figure{aFigure(0, "a", "")}, many)...))
	}
}

func TestTreeOkOfWhatIsAbove(t *testing.T) {
	for _, tree := range fewTrees() {
		wantAllOfTree(t, tree)
		for at := range tree {
			for above := int64(-3); above <= 18; above++ {
				changed := cloneTree(tree)
				changed[at].Above = above
				want := above == -1
				if at > 0 {
					want = 0 <= above && above < int64(at)
				}
				wantTreeOk(t, changed, want)
				wantTreeOrNot(t, changed)
			}
		}
	}
}

// TestTreeOkOfEachShape has all rows of up to four numbers that may stand Above or not.
func TestTreeOkOfEachShape(t *testing.T) {
	trees := 0
	for many := 0; many <= 4; many++ {
		eachRow([]string{"-2 ", "-1 ", "0 ", "1 ", "2 ", "3 ", "4 "}, many, "", func(s string) {
			tree := []impl.Figure{}
			for _, word := range strings.Fields(s) {
				above, _ := strconv.ParseInt(word, 10, 64)
				tree = append(tree, aFigure(above, "a", ""))
			}
			wantTreeOrNot(t, tree)
			if impl.TreeOk(tree) {
				trees++
			}
		})
	}
	if want := 1 + 1 + 1 + 2 + 6; trees != want {
		t.Errorf("%d trees, want %d", trees, want)
	}
}

func TestFiguresOfEachName(t *testing.T) {
	for _, name := range slices.Concat(shortNames, notShort) {
		is := shortForm.MatchString(name)
		for _, f := range []impl.Figure{aFigure(-1, name, ""), aFigure(-1, "a", name), aFigure(-1, "a", "", name), aFigure(-1, name, name, name)} {
			wantTreeOk(t, []impl.Figure{f}, is)
			wantFigureOrNot(t, f)
		}
	}
	wantTreeOk(t, []impl.Figure{aFigure(-1, "", "a", "b")}, false)
	wantTreeOk(t, []impl.Figure{aFigure(-1, "a", "")}, true)
	long := strings.Repeat("a", 100000)
	for _, f := range []impl.Figure{aFigure(-1, long, ""), aFigure(-1, "a", long), aFigure(-1, "a", "", long)} {
		wantFigureOrNot(t, f)
	}
}

func TestFiguresOfNamesOneByteOff(t *testing.T) {
	for _, name := range []string{"a", "a-01234", "a-012345"} {
		eachOneByteOff(name, allBytes(), func(s string) {
			for _, f := range []impl.Figure{aFigure(-1, s, ""), aFigure(-1, "a", s), aFigure(-1, "a", "", "a", s)} {
				wantTreeOk(t, []impl.Figure{f}, figureOkByForm(f))
			}
		})
	}
}

// TestFiguresOfRowsOfBadges has each row of up to five of a few names, which rise in few of them.
func TestFiguresOfRowsOfBadges(t *testing.T) {
	for many := 0; many <= 5; many++ {
		eachRow([]string{".", ".a", ".a-", ".aa", ".b", ".c"}, many, "", func(s string) {
			f := aFigure(-1, "a", "", strings.Split(s, ".")[1:]...)
			wantTreeOk(t, []impl.Figure{f}, figureOkByForm(f))
			if many != 3 {
				wantFigureOrNot(t, f)
			}
		})
	}
	wantTreeOk(t, []impl.Figure{aFigure(-1, "a", "", "a", "b", "c", "d")}, true)
	wantTreeOk(t, []impl.Figure{aFigure(-1, "a", "", "a", "b", "c", "d", "e")}, false)
	wantNoTree(t, []impl.Figure{aFigure(-1, "a", "", slices.Repeat([]string{"a"}, 100000)...)})
}

func TestFiguresAtMaxNotes(t *testing.T) {
	for _, n := range []impl.Note{weak(1, pixelsOf(7)), strong(0, plainOf(500)), weak(5, wordOf("plain"))} {
		for many := 0; many <= 30; many++ {
			f := withNotes(aFigure(-1, "a", ""), slices.Repeat([]impl.Note{n}, many)...)
			wantTreeOk(t, []impl.Figure{f}, many <= 12)
			wantFigureOrNot(t, f)
		}
		wantNoTree(t, []impl.Figure{withNotes(aFigure(-1, "a", ""), slices.Repeat([]impl.Note{n}, 100000)...)})
	}
}

func TestFiguresOfEachNote(t *testing.T) {
	for _, n := range eachNote() {
		wantTreeOk(t, []impl.Figure{withNotes(aFigure(-1, "a", ""), n)}, true)
	}
	for _, list := range fewNotes() {
		wantFigureOrNot(t, withNotes(aFigure(-1, "a", "b", "c"), list...))
		for i, wrong := range notRightNotes() {
			changed := slices.Clone(list)
			changed[i%len(list)] = wrong
			wantTreeOk(t, []impl.Figure{withNotes(aFigure(-1, "a", ""), changed...)}, false)
			wantTreeOk(t, []impl.Figure{withNotes(aFigure(-1, "a", ""), wrong)}, false)
		}
	}
}

// TestFiguresThatAreNotRight has each of them in each place of trees.
func TestFiguresThatAreNotRight(t *testing.T) {
	for _, wrong := range notFigures() {
		if figureOkByForm(wrong) {
			t.Errorf("%s is in the wrong list", spell(wrong))
		}
		wantFigureOrNot(t, wrong)
		for _, tree := range fewTrees()[:3] {
			wantAsItIs(t, tree, under(0, wrong))
			for at := range tree {
				changed := cloneTree(tree)
				changed[at] = under(tree[at].Above, wrong)
				wantTreeOk(t, changed, false)
			}
		}
	}
}

func TestWhatIsNoTree(t *testing.T) {
	for _, tree := range notTrees() {
		if treeOkByForm(tree) {
			t.Errorf("%s is in the wrong list", spell(tree))
		}
		wantNoTree(t, tree)
	}
}

// TestGrownStepByStep grows a tree from nothing to one of MaxFigures, below each figure there is.
func TestGrownStepByStep(t *testing.T) {
	tree := []impl.Figure{}
	for many := range 16 {
		for above := int64(-3); above <= 18; above++ {
			f := withNotes(aFigure(above, "a", "b", "c", "d", "e", "f"), weak(1, pixelsOf(7)))
			if many == 0 && above == -1 || 0 <= above && above < int64(many) {
				wantGrown(t, tree, f)
			} else {
				wantAsItIs(t, tree, f)
			}
		}
		above := int64(many / 2)
		if many == 0 {
			above = -1
		}
		grown, is := impl.Grown(tree, aFigure(above, fmt.Sprintf("a%d", many), "b", "c"))
		if !is || len(grown) != many+1 || !sameTree(grown[:many], tree) {
			t.Fatal(spell(grown))
		}
		tree = grown
		wantAllOfTree(t, tree)
	}
	for above := int64(-2); above <= 18; above++ {
		wantAsItIs(t, tree, aFigure(above, "a", ""))
		wantAsItIs(t, tree, aFigure(above, "", ""))
	}
}

func TestPath(t *testing.T) {
	tree := aFamily()
	for i, want := range [][]int64{{0}, {1, 0}, {2, 1, 0}, {3, 0}, {4, 3, 0}, {5, 2, 1, 0}, {6, 5, 2, 1, 0}} {
		wantPath(t, tree, int64(i), want...)
	}
	deep := fewTrees()[4]
	wantPath(t, deep, 0, 0)
	wantPath(t, deep, 15, 15, 14, 13, 12, 11, 10, 9, 8, 7, 6, 5, 4, 3, 2, 1, 0)
	for _, tree := range fewTrees() {
		wantPath(t, tree, int64(len(tree)))
		for _, i := range notNumbers {
			wantPath(t, tree, i)
		}
	}
}

func TestPathOfEachShape(t *testing.T) {
	for many := 1; many <= 6; many++ {
		eachShape(many, []int64{-1}, func(above []int64) {
			tree := []impl.Figure{}
			for _, k := range above {
				tree = append(tree, aFigure(k, "a", ""))
			}
			for i := range int64(many) {
				wantPath(t, tree, i, pathByForm(tree, i)...)
			}
		})
	}
}

func TestMeets(t *testing.T) {
	tree := aFamily()
	for s, want := range whoMeets {
		p, is := impl.ReadPick(impl.TokensOf(s))
		if !is {
			t.Fatal(s)
		}
		form := metForm(p)
		for i := int64(-1); i <= int64(len(tree)); i++ {
			wantMet(t, tree, i, s, slices.Contains(want, i))
			if i >= 0 && i < int64(len(tree)) {
				wantMeetsAsItsForm(t, tree, i, p, form)
			}
		}
	}
}

// TestMeetsOfOnePart has all that a figure may have against all that a part may tell.
func TestMeetsOfOnePart(t *testing.T) {
	parts := []impl.Part{}
	for _, tag := range []string{"", "a", "ab"} {
		for _, id := range []string{"", "a", "ab"} {
			for _, badges := range badgeRows(3, "a", "ab", "b", "c", "d") {
				if tag+id != "" || len(badges) > 0 {
					parts = append(parts, aPart(tag, id, badges...))
				}
			}
		}
	}
	trees := [][]impl.Figure{}
	for _, tag := range []string{"a", "ab"} {
		for _, id := range []string{"", "a", "ab"} {
			for _, badges := range badgeRows(4, "a", "ab", "b", "c", "d") {
				trees = append(trees, []impl.Figure{aFigure(-1, tag, id, badges...)})
			}
		}
	}
	for _, part := range parts {
		p := []impl.Part{part}
		form := metForm(p)
		for _, tree := range trees {
			wantMeetsAsItsForm(t, tree, 0, p, form)
		}
	}
}

// TestMeetsWhereAPartTellsMore than the figure has: one thing alone keeps it from meeting.
func TestMeetsWhereAPartTellsMore(t *testing.T) {
	tree := []impl.Figure{aFigure(-1, "box", "hero", "a", "b", "c", "d"), aFigure(0, "man", "", "on"), aFigure(0, "sun", "")}
	for _, s := range []string{"box", "=hero", ".a", ".d", "box=hero", "box.a.d", "=hero.b.c", "box=hero.b.c.d"} {
		wantMet(t, tree, 0, s, true)
	}
	for _, s := range []string{"man", "=other", ".e", "man=hero", "box=other", "box.e", "=hero.e", "=other.a", "man.a", "box=hero.a.b.e", "box=other.a.b.c", "man=hero.a.b.c", "bo", "boxx", "=her", "=heroes", ".aa"} {
		wantMet(t, tree, 0, s, false)
	}
	for _, s := range []string{"man=a", "man.off.on", "=a", "=on", "=man", ".man", "on", "man.on=a"} {
		wantMet(t, tree, 1, s, false)
	}
	for _, s := range []string{"sun.on", "sun=a", ".on", "box", "=hero", ".a", "sun=hero", "sun.a"} {
		wantMet(t, tree, 2, s, false)
	}
}

func TestMeetsNear(t *testing.T) {
	tree := chainOfTags("a", "b", "c")
	wantMet(t, tree, 2, "b > c", true)
	wantMet(t, tree, 2, "a > c", false)
	wantMet(t, tree, 2, "a c", true)
	wantMet(t, tree, 2, "a > b > c", true)
	wantMet(t, tree, 2, "a b > c", true)
	wantMet(t, tree, 2, "a > b c", true)
	wantMet(t, tree, 2, "c > c", false)
	wantMet(t, tree, 2, "c c", false)
	wantMet(t, tree, 0, "a > a", false)
	wantMet(t, tree, 0, "a a", false)
	far := chainOfTags("a", "b", "b", "c")
	wantMet(t, far, 3, "a > b > c", false)
	wantMet(t, far, 3, "a b > c", true)
	wantMet(t, far, 3, "a > b c", true)
	beside := []impl.Figure{aFigure(-1, "a", ""), aFigure(0, "b", ""), aFigure(0, "c", ""), aFigure(2, "d", "")}
	wantMet(t, beside, 3, "b d", false)
	wantMet(t, beside, 3, "b > d", false)
	wantMet(t, beside, 2, "b c", false)
	wantMet(t, beside, 2, "b > c", false)
	wantMet(t, beside, 1, "c b", false)
	wantMet(t, beside, 2, "d c", false)
	wantMet(t, beside, 2, "d > c", false)
	wantMet(t, beside, 3, "a c > d", true)
}

// TestMeetsFartherUp: the one that meets first leaves the rest unmet, and one farther up does not.
func TestMeetsFartherUp(t *testing.T) {
	for tags, picks := range map[string][]string{
		"x b b c":         {"x > b c"},
		"x b b b b c":     {"x > b c", "x > b b c", "x > b b > c", "x > b > b c"},
		"x y b b c":       {"x > y > b c", "x y > b c", "y > b c", "x > y b > c"},
		"b c c b c":       {"b > c b c", "b > c b > c"},
		"x b y b y b c":   {"x > b c", "x > b > y c", "x > b y b", "x > b y > b", "x > b > y b"},
		"x a x b x a b c": {"x > b c", "x > a c", "x > b > x c", "x > a > x c", "a > x > b c"},
	} {
		tree := chainOfTags(strings.Fields(tags)...)
		for _, s := range picks {
			last := s[len(s)-1:]
			wantMet(t, tree, int64(strings.LastIndex(tags, last)/2), s, true)
		}
	}
	wantMet(t, chainOfTags("x", "b", "y", "b", "y", "b"), 5, "x > b > y > b", false)
	tree := chainOfTags("x", "b", "b", "c")
	for _, s := range []string{"y b c", "x > x b c", "x > b > c", "b > x c", "c > b c", "b > b > b c"} {
		wantMet(t, tree, 3, s, false)
	}
}

func TestMeetsWithMorePartsThanFigures(t *testing.T) {
	for many := 1; many <= 16; many++ {
		tree := chainOfTags(slices.Repeat([]string{"a"}, many)...)
		for parts := 1; parts <= 4; parts++ {
			for i := range int64(many) {
				wantMet(t, tree, i, strings.Repeat("a ", parts), int64(parts) <= i+1)
				wantMet(t, tree, i, strings.Repeat("a > ", parts-1)+"a", int64(parts) <= i+1)
			}
		}
	}
}

// TestMeetsInEachChain has all chains of two Tags and all picks of these, Near and not.
func TestMeetsInEachChain(t *testing.T) {
	trees := [][]impl.Figure{}
	for many := 1; many <= 6; many++ {
		eachRow([]string{"a ", "b "}, many, "", func(s string) { trees = append(trees, chainOfTags(strings.Fields(s)...)) })
	}
	eachPick([]impl.Part{aPart("a", ""), aPart("b", ""), near("a", ""), near("b", "")}, 4, nil, func(p []impl.Part) {
		form := metForm(p)
		for _, tree := range trees {
			wantMeetsAsItsForm(t, tree, int64(len(tree))-1, p, form)
		}
	})
}

// TestMeetsInEachShape has all trees of up to four figures with two Tags, and each figure of them.
func TestMeetsInEachShape(t *testing.T) {
	trees := [][]impl.Figure{}
	for many := 2; many <= 4; many++ {
		eachShape(many, []int64{-1}, func(above []int64) {
			for bits := range 1 << many {
				tree := []impl.Figure{}
				for i, k := range above {
					tree = append(tree, aFigure(k, []string{"a", "b"}[bits>>i&1], ""))
				}
				trees = append(trees, tree)
			}
		})
	}
	eachPick([]impl.Part{aPart("a", ""), aPart("b", ""), near("a", ""), near("b", "")}, 3, nil, func(p []impl.Part) {
		form := metForm(p)
		for _, tree := range trees {
			for i := range int64(len(tree)) {
				wantMeetsAsItsForm(t, tree, i, p, form)
			}
		}
	})
}

// TestMeetsInGreatTrees has trees of up to MaxFigures figures and picks of all that a part may tell. The seeds are fixed: each run has the same ones.
func TestMeetsInGreatTrees(t *testing.T) {
	met, unmet := 0, 0
	for seed := range uint64(400) {
		draw := rand.New(rand.NewPCG(seed, 11))
		tree, rows := []impl.Figure{}, badgeRows(4, "a", "b", "c", "d")
		for i := range 1 + draw.IntN(16) {
			above := int64(i) - 1 - int64(draw.IntN(min(i, 2)+1))
			tree = append(tree, aFigure(max(above, int64(min(i, 1)-1)), []string{"a", "b"}[draw.IntN(2)], []string{"", "a"}[draw.IntN(2)], rows[draw.IntN(len(rows))]...))
		}
		parts := fewParts()
		for range 12 {
			p := []impl.Part{}
			for range 1 + draw.IntN(4) {
				part := parts[draw.IntN(len(parts))]
				part.Near = part.Near && len(p) > 0
				p = append(p, part)
			}
			form := metForm(p)
			for i := range int64(len(tree)) {
				wantMeetsAsItsForm(t, tree, i, p, form)
				if impl.Meets(tree, i, p) {
					met++
				} else {
					unmet++
				}
			}
		}
	}
	if met < 1000 || unmet < 1000 {
		t.Errorf("%d met, %d unmet: too few to tell", met, unmet)
	}
}

// TestMeetsOfAllItHas: a figure Meets the pick that tells all of it and of up to three above it.
func TestMeetsOfAllItHas(t *testing.T) {
	for _, tree := range fewTrees() {
		for i := range int64(len(tree)) {
			p := []impl.Part{}
			for _, k := range pathByForm(tree, i)[:min(4, len(pathByForm(tree, i)))] {
				f := tree[k]
				p = slices.Insert(p, 0, near(f.Tag, f.Id, f.Badges[:min(3, len(f.Badges))]...))
				p[0].Near = false
				wantMeetsAsItsForm(t, tree, i, p, metForm(p))
				wantMeets(t, tree, i, p, true)
				p[0].Near = true
			}
		}
	}
}

func TestMeetsOfWhatIsNoPick(t *testing.T) {
	for _, tree := range fewTrees() {
		last := int64(len(tree)) - 1
		wantNone := func(p []impl.Part) {
			for _, i := range []int64{0, last, last + 1, -1} {
				if impl.Meets(tree, i, p) {
					t.Errorf("Meets(%s, %d, %s)", spell(tree), i, spellPick(p))
				}
			}
		}
		wantNone(nil)
		wantNone([]impl.Part{})
		wantNone([]impl.Part{near(tree[0].Tag, "")})
		wantNone([]impl.Part{near(tree[0].Tag, ""), near(tree[last].Tag, "")})
		wantNone(slices.Repeat([]impl.Part{aPart(tree[0].Tag, "")}, 5))
		wantNone([]impl.Part{{}, aPart(tree[last].Tag, "")})
		wantNone([]impl.Part{aPart(tree[last].Tag, ""), {}})
		wantNone([]impl.Part{aPart(tree[0].Tag, "", slices.Repeat(tree[0].Badges, 2)...), {Near: true}})
		for i, wrong := range notParts() {
			wantNone([]impl.Part{wrong})
			if i%5 == 0 {
				wantNone([]impl.Part{aPart(tree[0].Tag, ""), wrong})
				wantNone([]impl.Part{wrong, aPart(tree[last].Tag, "")})
			}
		}
	}
	tree := []impl.Figure{aFigure(-1, "a", "", "a", "b", "c", "d")}
	for _, badges := range [][]string{{"a", "b", "c", "d"}, {"b", "a"}, {"a", "a"}, {"a", "b", "b"}} {
		if p := []impl.Part{aPart("a", "", badges...)}; impl.Meets(tree, 0, p) {
			t.Error(spellPick(p))
		}
	}
}

func TestMeetsOfNoFigure(t *testing.T) {
	for _, tree := range fewTrees() {
		for _, i := range append([]int64{int64(len(tree)), int64(len(tree)) + 1}, notNumbers...) {
			for _, f := range tree {
				wantMeets(t, tree, i, []impl.Part{aPart(f.Tag, "")}, false)
			}
			wantMeets(t, tree, i, []impl.Part{aPart("none", "")}, false)
		}
	}
}

// TestMeetsOfNoTree has figures that are not right below, above and beside one that would meet.
func TestMeetsOfNoTree(t *testing.T) {
	tree := []impl.Figure{aFigure(-1, "a", ""), aFigure(0, "b", ""), aFigure(1, "c", ""), aFigure(1, "d", "")}
	wantMet(t, tree, 2, "a > b > c", true)
	for at := range tree {
		for _, wrong := range []impl.Figure{under(int64(at), tree[at]), under(-2, tree[at]), aFigure(tree[at].Above, tree[at].Tag, "-"), aFigure(tree[at].Above, tree[at].Tag, "", "b", "a"), withNotes(tree[at], impl.Note{Look: -1})} {
			changed := cloneTree(tree)
			changed[at] = wrong
			for _, s := range []string{"a > b > c", "a c", "c", "b > c"} {
				wantMet(t, changed, 2, s, false)
			}
		}
	}
	many := chainOfTags(slices.Repeat([]string{"a"}, 17)...)
	wantMet(t, many, 3, "a", false)
	wantMet(t, many[:16], 3, "a", true)
}

// TestTreesFarOut: an answer at every argument, in each number there is.
func TestTreesFarOut(t *testing.T) {
	pick := []impl.Part{aPart("box", ""), aPart("sun", "")}
	for _, far := range outliers {
		for _, tree := range fewTrees() {
			wantPath(t, tree, far)
			wantMeets(t, tree, far, pick, false)
			wantAsItIs(t, tree, aFigure(far, "a", ""))
			for at := range tree {
				changed := cloneTree(tree)
				changed[at].Above = far
				wantNoTree(t, changed)
			}
			for _, n := range []impl.Note{weak(far, pixelsOf(7)), weak(1, pixelsOf(far)), weak(1, impl.Value{Kind: far}), weak(3, colorOf(far, 0, 0, 0)), weak(3, colorOf(0, 0, 0, far))} {
				wantAsItIs(t, tree, withNotes(aFigure(0, "a", ""), n))
				wantNoTree(t, append(cloneTree(tree), withNotes(aFigure(0, "a", ""), n)))
			}
		}
		for _, other := range outliers {
			wantNoTree(t, []impl.Figure{aFigure(far, "a", ""), aFigure(other, "a", "")})
		}
	}
}

// changeAll writes into all of a tree, and into the room behind each list of it.
func changeAll(tree []impl.Figure) {
	for i := range tree {
		f := &tree[i]
		badges, notes := f.Badges[:cap(f.Badges)], f.Notes[:cap(f.Notes)]
		for k := range badges {
			badges[k] = fmt.Sprintf("changed%d", i)
		}
		for k := range notes {
			notes[k] = impl.Note{Look: int64(100 + i)}
		}
		f.Above, f.Tag, f.Id = 100, "changed", "changed"
	}
	for i := range tree[len(tree):cap(tree)] {
		tree[:cap(tree)][len(tree)+i] = impl.Figure{Tag: "spare"}
	}
}

// treesOfOneMemory are trees all of whose figures have the same lists.
func treesOfOneMemory() [][]impl.Figure {
	f := withNotes(aFigure(0, "a", "b", "c", "d"), weak(1, pixelsOf(7)), strong(0, plainOf(500)))
	list := [][]impl.Figure{}
	for _, many := range []int{1, 2, 5, 15, 16} {
		tree := slices.Repeat([]impl.Figure{f}, many)
		tree[0].Above = -1
		list = append(list, tree)
	}
	return list
}

// TestGrownIsNewMemory: it shares none with the tree nor the figure, whether it is grown or as it was.
func TestGrownIsNewMemory(t *testing.T) {
	for _, tree := range append(fewTrees(), treesOfOneMemory()...) {
		last := tree[len(tree)-1]
		for _, f := range []impl.Figure{under(0, last), under(-1, last), aFigure(0, "", "", "b", "a"), withNotes(aFigure(0, "b", "c", "d"), weak(1, pixelsOf(7)))} {
			treeBefore, before := cloneTree(tree), cloneFigure(f)
			got, is := impl.Grown(tree, f)
			want := cloneTree(got)
			if is != (len(tree) < 16 && f.Above == 0 && f.Tag != "") {
				t.Errorf("Grown(%s, %s): %t", spell(tree), spell(f), is)
			}
			changeAll(got)
			if !sameTree(tree, treeBefore) || !sameFigure(f, before) {
				t.Fatalf("the tree is now %s, the figure %s", spell(tree), spell(f))
			}
			again, _ := impl.Grown(tree, f)
			if !sameTree(again, want) {
				t.Errorf("Grown(%s, %s) = %s the second time", spell(tree), spell(f), spell(again))
			}
		}
	}
}

// TestGrownSharesNoneWithin: no two lists of one answer share memory, even where those of the tree do, nor do the rooms behind them.
func TestGrownSharesNoneWithin(t *testing.T) {
	for _, tree := range treesOfOneMemory() {
		for _, f := range []impl.Figure{under(0, tree[0]), under(-1, tree[0])} {
			got, _ := impl.Grown(tree, f)
			changeAll(got)
			for i, f := range got {
				for _, badge := range f.Badges[:cap(f.Badges)] {
					if badge != fmt.Sprintf("changed%d", i) {
						t.Errorf("a badge of %d is %q", i, badge)
					}
				}
				for _, n := range f.Notes[:cap(f.Notes)] {
					if n.Look != int64(100+i) {
						t.Errorf("a note of %d is %v", i, n)
					}
				}
			}
		}
	}
}

func TestPathIsNewMemory(t *testing.T) {
	tree := aFamily()
	first, second := impl.Path(tree, 6), impl.Path(tree, 6)
	for i := range first[:cap(first)] {
		first[:cap(first)][i] = 100
	}
	if !slices.Equal(second, []int64{6, 5, 2, 1, 0}) || !sameTree(tree, aFamily()) {
		t.Error(second, spell(tree))
	}
	wantPath(t, tree, 6, 6, 5, 2, 1, 0)
}

// TestTreesStay: nothing is written into a tree, a figure or a pick, nor into the room behind any list of these, whether they are right or not.
func TestTreesStay(t *testing.T) {
	given := append(fewTrees(), notTrees()[:60]...)
	for i, f := range append(notFigures()[:40], aFigure(0, "a", "b", "c", "d")) {
		tree := append(cloneTree(given[i%len(given)]), under(0, f), aFigure(0, "spare", "", "z", "y"))
		for k := range tree {
			tree[k].Badges = append(tree[k].Badges, "spare", "a")
			tree[k].Notes = append(tree[k].Notes, impl.Note{Look: 50}, weak(1, pixelsOf(7)))
		}
		pick := []impl.Part{aPart("box", "", "on", "spare"), aPart("man", "", "spare", "a"), near("spare", "", "spare")}
		pickBefore, before := clonePick(pick), cloneTree(tree)
		pick[0].Badges, pick[1].Badges = pick[0].Badges[:1], pick[1].Badges[:0]
		for k := range tree {
			tree[k].Badges, tree[k].Notes = tree[k].Badges[:len(tree[k].Badges)-2], tree[k].Notes[:len(tree[k].Notes)-2]
		}
		for end := range tree {
			one := aFigure(int64(end)-1, "new", "", "on")
			for n := int64(-1); n <= int64(end); n++ {
				is, path, meets := impl.TreeOk(tree[:end]), impl.Path(tree[:end], n), impl.Meets(tree[:end], n, pick[:2])
				grown, may := impl.Grown(tree[:end], one)
				again, mayAgain := impl.Grown(tree[:end], one)
				if is != impl.TreeOk(tree[:end]) || !slices.Equal(path, impl.Path(tree[:end], n)) || meets != impl.Meets(tree[:end], n, pick[:2]) || may != mayAgain || !sameTree(grown, again) {
					t.Errorf("%s: another answer the second time", spell(tree[:end]))
				}
			}
		}
		pick[0].Badges, pick[1].Badges = pick[0].Badges[:2], pick[1].Badges[:2]
		for k := range tree {
			tree[k].Badges, tree[k].Notes = tree[k].Badges[:len(tree[k].Badges)+2], tree[k].Notes[:len(tree[k].Notes)+2]
		}
		if !sameTree(tree, before) || !samePick(pick, pickBefore) {
			t.Errorf("the tree is now %s, was %s; the pick %s", spell(tree), spell(before), spellPick(pick))
		}
	}
}
