package tests

import (
	"fmt"
	"math/rand/v2"
	"regexp"
	"slices"
	"strings"
	"testing"

	"loop.example/g00521/impl"
)

// rowHeadForm and stopForm tell a row of a text by its form alone.
var rowHeadForm = regexp.MustCompile(`\A[ \n]*@row[ \n]+(` + formShort + `)[ \n]*\z`)
var stopForm = regexp.MustCompile(`\A[ \n]*(0|[1-9][0-9]?|100)%[ \n]*\{([^}]*)\}[ \n]*`)
var pairOfBraces = regexp.MustCompile(`\{[^{}]*\}`)

// readAs are texts, each with what ShowSheet makes of the sheet that is read.
var readAs = map[string]string{
	"": "", " ": "", "\n": "", " \n \n": "", "?": "", "a": "", "{": "", "}": "", "{}": "", "}{": "", "{{": "", "}}": "", "{}{}{}": "", "@": "", "@row": "", "@row a": "", "@row a {": "", "@row a {}": "", "a {": "", "a {}": "", "a { }": "", "a { } }": "", "wide: 7px": "", "a wide: 7px": "", "a wide: 7px }": "", "@row a 0% clear: 0": "", "@row a 0% clear: 0 } }": "",

	"box{wide:7px}": "box { wide: 7px }\n", "box {wide:7px}": "box { wide: 7px }\n", "\n box\n{\nwide :\n7px\n}\n": "box { wide: 7px }\n", "box{wide:7px;}": "box { wide: 7px }\n", "box{;;wide:7px;;}": "box { wide: 7px }\n", "box{wide:7px!strong}": "box { wide: 7px !strong }\n", "box { wide: 7px; clear: 5; wide: 7px }": "box { wide: 7px; clear: 5; wide: 7px }\n",
	"a=b.d.c>.e.e f{form:a}": "a=b.c.d > .e f { form: a }\n", "row { form: row }": "row { form: row }\n", "a > row.row=row { form: a }": "a > row=row.row { form: a }\n", "strong{form:strong!strong}": "strong { form: strong !strong }\n",
	"a{form:a}b{form:b}": "a { form: a }\nb { form: b }\n", "a{form:a}\n\nb{form:b} ": "a { form: a }\nb { form: b }\n", "a{form:a}a{form:a}": "a { form: a }\na { form: a }\n", "b{form:b}a{form:a}c{form:c}": "b { form: b }\na { form: a }\nc { form: c }\n",
	"a { what: 5; form: a; form: 5 }": "a { form: a }\n", "a { form: a b; ; form: c }": "a { form: c }\n", "a { ?; form: c; @row; box; 0% }": "a { form: c }\n",

	"? { form: a }": "", "> a { form: a }": "", "* { form: a }": "", "a, b { form: a }": "", "{ form: a }": "", " { form: a }": "", "a; { form: a }": "", "; a { form: a }": "", "5 { form: a }": "", "0% { form: a }": "", "abcdefghi { form: a }": "", "a b c d e { form: a }": "", "a..b { form: a }": "", "a=b=c { form: a }": "", "a.b.c.d.e { form: a }": "", "A { form: a }": "", "a > > b { form: a }": "", "@ { form: a }": "", "@a { form: a }": "", "a @ { form: a }": "",
	"a { what: 5 }": "", "a { ; }": "", "a { form }": "", "a { form: }": "", "a { 5 }": "", "a { form: a b }": "", "a { form: a, b }": "", "a { wide: 7 }": "", "a { 0% { form: a } }": "", "a { form: a ! strong }": "", "a { a { form: a } }": "", "a { @row a { 0% { form: a } } }": "", "a { form: a form: b }": "",
	"? { form: a } b { form: b }": "b { form: b }\n", "a { form: a } ? { form: a } b { form: b }": "a { form: a }\nb { form: b }\n", "a { form: a } b { } c { form: c }": "a { form: a }\nc { form: c }\n", "a { form: a } {} c { form: c }": "a { form: a }\nc { form: c }\n", "a { form: a } { b { form: b } } c { form: c }": "a { form: a }\nc { form: c }\n", "a { form: a } ; b { form: b } c { form: c }": "a { form: a }\nc { form: c }\n", "a { form: a } form: b; c { form: c } d { form: d }": "a { form: a }\nd { form: d }\n", "a b { c d { form: a } } e { form: e }": "e { form: e }\n", "? { } } c { form: c } d { form: d }": "d { form: d }\n",

	"a { form: a": "a { form: a }\n", "a { form: a;": "a { form: a }\n", "a { form: a; {": "a { form: a }\n", "a { form: a; { }": "a { form: a }\n", "a { form: a; { } }": "a { form: a }\n", "a { form: a; { { } } }": "a { form: a }\n", "a { { }; form: a }": "a { form: a }\n", "a { { } form: a }": "", "a { form: a { } }": "", "a { form: a { }": "", "a { form: a { }; form: b }": "a { form: b }\n", "a { form: { a } }": "", "a { { form: a } }": "", "a { {; form: a; } }": "a { form: a }\n", "a { {; form: a; {; form: b; } form: c; } }": "a { form: a; form: b }\n", "a {; {form: a; }; form: b } c { form: c }": "a { form: b }\nc { form: c }\n", "a {{ form: a }} c { form: c }": "c { form: c }\n", "a {{}{}{;};form: a} c { form: c }": "a { form: a }\nc { form: c }\n",
	"a { form: a; b { form: b } c { form: c }": "a { form: a }\n", "a { form: a; b { form: b; c { form: c }": "a { form: a }\n", "a { b { form: b } c { form: c }": "", "b { form: b } a { form: a": "b { form: b }\na { form: a }\n", "b { form: b } a {": "b { form: b }\n", "b { form: b } a": "b { form: b }\n", "b { form: b } @row a": "b { form: b }\n", "b { form: b } @row a { 0% { form: a }": "b { form: b }\n@row a { 0% { form: a } }\n",
	"} a { form: a } b { form: b }": "b { form: b }\n", "a { form: a } } b { form: b } c { form: c }": "a { form: a }\nc { form: c }\n", "a { form: a }}} b { form: b } c { form: c }": "a { form: a }\nc { form: c }\n", "a } { form: a } c { form: c }": "c { form: c }\n", "a { form: a } c { form: c } }": "a { form: a }\nc { form: c }\n", "a { form: a } }}}": "a { form: a }\n",

	"@row a{0%{form:a}}": "@row a { 0% { form: a } }\n", "@row a {0%{form:a}}": "@row a { 0% { form: a } }\n", " @row\na\n{\n0%\n{\nform:\na\n}\n}\n": "@row a { 0% { form: a } }\n", "@row  a  {  0%  {  form : a  }  }": "@row a { 0% { form: a } }\n", "@row row { 0% { form: row } }": "@row row { 0% { form: row } }\n", "@row abcdefgh { 100% { form: a; } }": "@row abcdefgh { 100% { form: a } }\n", "@row a- { 7% { form: a } }": "@row a- { 7% { form: a } }\n",
	"@row a{0%{form:a}50%{form:b;clear:5}100%{form:c}}": "@row a { 0% { form: a } 50% { form: b; clear: 5 } 100% { form: c } }\n", "@row a { 100% { form: a } 0% { form: b } 100% { form: c } }": "@row a { 100% { form: a } 0% { form: b } 100% { form: c } }\n", "@row a { 0% { form: a; what: 5; form: 5 } }": "@row a { 0% { form: a } }\n",
	"@row b{0%{form:b}}@row a{0%{form:a}}": "@row b { 0% { form: b } }\n@row a { 0% { form: a } }\n", "@row a{0%{form:a}}@row a{0%{form:b}}": "@row a { 0% { form: a } }\n@row a { 0% { form: b } }\n", "@row a{0%{form:a}}a{form:a}@row b{0%{form:b}}b{form:b}": "a { form: a }\nb { form: b }\n@row a { 0% { form: a } }\n@row b { 0% { form: b } }\n",

	"@ row a { 0% { form: a } }": "", "@\nrow a { 0% { form: a } }": "", "@rows a { 0% { form: a } }": "", "@ro a { 0% { form: a } }": "", "@row- a { 0% { form: a } }": "", "@row5 a { 0% { form: a } }": "", "@ROW a { 0% { form: a } }": "", "@@row a { 0% { form: a } }": "", "@row@row a { 0% { form: a } }": "", "@row @row a { 0% { form: a } }": "", "row a { 0% { form: a } }": "", "a @row a { 0% { form: a } }": "", "; @row a { 0% { form: a } }": "", "5@row a { 0% { form: a } }": "", "a@row a { 0% { form: a } }": "", "@a { 0% { form: a } }": "", "@play a { 0% { form: a } }": "", "@5row a { 0% { form: a } }": "",
	"@row { 0% { form: a } }": "", "@row{ 0% { form: a } }": "", "@rowa { 0% { form: a } }": "", "@row abcdefghi { 0% { form: a } }": "", "@row a b { 0% { form: a } }": "", "@row a a { 0% { form: a } }": "", "@row a, { 0% { form: a } }": "", "@row a; { 0% { form: a } }": "", "@row a: { 0% { form: a } }": "", "@row =a { 0% { form: a } }": "", "@row.a { 0% { form: a } }": "", "@row=a { 0% { form: a } }": "", "@row, a { 0% { form: a } }": "", "@row;a { 0% { form: a } }": "", "@row 5 { 0% { form: a } }": "", "@row 5a { 0% { form: a } }": "", "@row A { 0% { form: a } }": "", "@row -a { 0% { form: a } }": "", "@row #ff00aa { 0% { form: a } }": "", "@row a? { 0% { form: a } }": "", "@row ?a { 0% { form: a } }": "", "@row a } { 0% { form: a } }": "", "@row } a { 0% { form: a } }": "", "@row\ta { 0% { form: a } }": "", "@row a 5 { 0% { form: a } }": "",
	"@row { form: a }": "", "@row a { form: a }": "", "@row a { form: a; 0% { form: a } }": "", "@row a 0% { form: a }": "",

	"@row a { 0% }": "", "@row a { 0% { } }": "", "@row a { 0% {} }": "", "@row a { 0% { what: 5 } }": "", "@row a { 0% form: a }": "", "@row a { { form: a } }": "", "@row a { 0 { form: a } }": "", "@row a { 0px { form: a } }": "", "@row a { 0 % { form: a } }": "", "@row a { % { form: a } }": "", "@row a { 0%% { form: a } }": "", "@row a { 0%a { form: a } }": "", "@row a { a0% { form: a } }": "", "@row a { 00% { form: a } }": "", "@row a { 07% { form: a } }": "", "@row a { -0% { form: a } }": "", "@row a { -1% { form: a } }": "", "@row a { 101% { form: a } }": "", "@row a { 1000% { form: a } }": "", "@row a { 1000001% { form: a } }": "", "@row a { 1000000000% { form: a } }": "", "@row a { +5% { form: a } }": "", "@row a { 5.5% { form: a } }": "", "@row a { 0%, 5% { form: a } }": "", "@row a { 0% 5% { form: a } }": "", "@row a { 0% a { form: a } }": "", "@row a { a 0% { form: a } }": "", "@row a { a { form: a } }": "", "@row a { #ff00aa { form: a } }": "", "@row a { 0%: { form: a } }": "", "@row a { 0%; { form: a } }": "", "@row a { ; 0% { form: a } }": "", "@row a { 0% { form: a }; }": "", "@row a { 0% { form: a } a }": "", "@row a { 0% { form: a } 5% }": "", "@row a { 0% { form: a } { } }": "", "@row a { ? 0% { form: a } }": "", "@row a { { } 0% { form: a } }": "",
	"@row a { 0% { form: a }; 5% { form: b } }": "", "@row a { 0% { form: a }, 5% { form: b } }": "", "@row a { 0% { form: a } a 5% { form: b } }": "", "@row a { 0% { form: a } { } 5% { form: b } }": "", "@row a { 0% { form: a } 5% { } }": "", "@row a { 0% { } 5% { form: b } }": "", "@row a { 0% { form: a } 101% { form: b } }": "", "@row a { -1% { form: a } 5% { form: b } }": "", "@row a { 0% { form: a } 5 { form: b } 6% { form: c } }": "", "@row a { 0% { form: a } 5% 6% { form: c } }": "",
	"@row a { 0% { form: a !strong } }": "", "@row a { 0% { form: a !strong; form: b } }": "@row a { 0% { form: b } }\n", "@row a { 0% { form: b; form: a !strong } }": "@row a { 0% { form: b } }\n", "@row a { 0% { form: a !strong; form: b; clear: 5 !strong; clear: 6; wide: 7px !strong } }": "@row a { 0% { form: b; clear: 6 } }\n", "@row a { 0% { form: a } 5% { form: a !strong } }": "", "@row a { 0% { form: a !strong } 5% { form: a } }": "", "@row a { 0% { form: a ! strong; form: b } }": "@row a { 0% { form: b } }\n",

	"@row a { 0% { form: a } ": "@row a { 0% { form: a } }\n", "@row a { 0% { form: a } 5% { form: b }": "@row a { 0% { form: a } 5% { form: b } }\n", "@row a { 0% { form: a": "", "@row a { 0% { form: a } 5% { form: b": "", "@row a { 0% {": "", "@row a { 0%": "", "@row a { 0% { form: a } b { form: b }": "", "@row a { 0% { form: a } @row b { 0% { form: b } }": "",
	"@row a { 0% { form: a; { }": "@row a { 0% { form: a } }\n", "@row a { 0% { form: a; { } }": "", "@row a { 0% { { ; form: a }": "@row a { 0% { form: a } }\n", "@row a { 0% { form: a; { } } }": "", "@row a { 0% { form: a { } }": "", "@row a { 0% { form: a } } }": "@row a { 0% { form: a } }\n", "@row a { 0% { form: a } } } b { form: b } c { form: c }": "c { form: c }\n@row a { 0% { form: a } }\n", "@row a {{ 0% { form: a } }}": "", "@row a { { 0% { form: a } } }": "", "@row a { 0% {{ form: a }} }": "", "@row a { 0% { form: a }} b { form: b }": "b { form: b }\n@row a { 0% { form: a } }\n", "} @row a { 0% { form: a } } b { form: b }": "b { form: b }\n",
	"@row a { 5 } b { form: b } @row c { 0% { form: c } }": "b { form: b }\n@row c { 0% { form: c } }\n", "@row { 0% { form: a } } b { form: b }": "b { form: b }\n", "@row a b { form: b } @row c { 0% { form: c } }": "@row c { 0% { form: c } }\n", "@ row a { 0% { form: a } } b { form: b }": "b { form: b }\n", "@row a @row b { 0% { form: b } } c { form: c }": "c { form: c }\n",
}

func aRule(pick string, notes ...impl.Note) impl.Rule {
	p, _ := pickByForm(pick)
	return impl.Rule{Pick: p, Notes: notes}
}

func aStop(at int64, notes ...impl.Note) impl.Stop { return impl.Stop{At: at, Notes: notes} }

func aRow(name string, stops ...impl.Stop) impl.Row { return impl.Row{Name: name, Stops: stops} }

func sheetOf(rules []impl.Rule, rows ...impl.Row) impl.Sheet {
	return impl.Sheet{Rules: rules, Rows: rows}
}

func sameStop(a, b impl.Stop) bool { return a.At == b.At && slices.Equal(a.Notes, b.Notes) }

func sameRow(a, b impl.Row) bool {
	return a.Name == b.Name && slices.EqualFunc(a.Stops, b.Stops, sameStop)
}

func sameRule(a, b impl.Rule) bool { return samePick(a.Pick, b.Pick) && slices.Equal(a.Notes, b.Notes) }

func sameSheet(a, b impl.Sheet) bool {
	return slices.EqualFunc(a.Rules, b.Rules, sameRule) && slices.EqualFunc(a.Rows, b.Rows, sameRow)
}

func cloneRow(r impl.Row) impl.Row {
	r.Stops = slices.Clone(r.Stops)
	for i := range r.Stops {
		r.Stops[i].Notes = slices.Clone(r.Stops[i].Notes)
	}
	return r
}

func cloneSheet(s impl.Sheet) impl.Sheet {
	c := impl.Sheet{}
	for _, r := range s.Rules {
		c.Rules = append(c.Rules, impl.Rule{Pick: clonePick(r.Pick), Notes: slices.Clone(r.Notes)})
	}
	for _, r := range s.Rows {
		c.Rows = append(c.Rows, cloneRow(r))
	}
	return c
}

func notesOkByForm(list []impl.Note) bool {
	for _, n := range list {
		if !fitsByForm(n.Look, n.Value) {
			return false
		}
	}
	return len(list) > 0 && len(list) < 13
}

func rowOkByForm(r impl.Row) bool {
	for _, stop := range r.Stops {
		for _, n := range stop.Notes {
			if n.Strong {
				return false
			}
		}
		if stop.At < 0 || stop.At > 100 || !notesOkByForm(stop.Notes) {
			return false
		}
	}
	return shortForm.MatchString(r.Name) && len(r.Stops) > 0 && len(r.Stops) < 7
}

func sheetOkByForm(s impl.Sheet) bool {
	for _, r := range s.Rules {
		if !pickOkByForm(r.Pick) || !notesOkByForm(r.Notes) {
			return false
		}
	}
	for _, r := range s.Rows {
		if !rowOkByForm(r) {
			return false
		}
	}
	return len(s.Rules) < 13 && len(s.Rows) < 7
}

// sheetShownByForm wants a right sheet, and has no limit.
func sheetShownByForm(s impl.Sheet) string {
	text := strings.Builder{}
	for _, r := range s.Rules {
		fmt.Fprintf(&text, "%s { %s }\n", pickShownByForm(r.Pick), notesShownByForm(r.Notes))
	}
	for _, r := range s.Rows {
		fmt.Fprintf(&text, "@row %s { ", r.Name)
		for _, stop := range r.Stops {
			fmt.Fprintf(&text, "%d%% { %s } ", stop.At, notesShownByForm(stop.Notes))
		}
		text.WriteString("}\n")
	}
	return text.String()
}

// bodyByForm blots out each { with the } that closes it, the inner ones first: what } is left first closes the body.
func bodyByForm(s string) (string, string) {
	blotted := s
	for pairOfBraces.MatchString(blotted) {
		blotted = pairOfBraces.ReplaceAllStringFunc(blotted, func(pair string) string { return strings.Repeat("-", len(pair)) })
	}
	if end := strings.IndexByte(blotted, '}'); end >= 0 {
		return s[:end], s[end+1:]
	}
	return s, ""
}

func stopsByForm(body string) []impl.Stop {
	stops := []impl.Stop{}
	for body != "" {
		m := stopForm.FindStringSubmatch(body)
		if m == nil {
			return nil
		}
		v, _ := valueByForm(m[1])
		stop := aStop(v.Number)
		for _, n := range notesByForm(m[2]) {
			if !n.Strong {
				stop.Notes = append(stop.Notes, n)
			}
		}
		stops, body = append(stops, stop), body[len(m[0]):]
	}
	return stops
}

// sheetByForm cuts the text itself: no token but a brace has such bytes.
func sheetByForm(s string) impl.Sheet {
	sheet := impl.Sheet{}
	if len(s) > 4000 {
		return sheet
	}
	for {
		head, rest, is := strings.Cut(s, "{")
		if !is {
			return sheet
		}
		var body string
		body, s = bodyByForm(rest)
		if m := rowHeadForm.FindStringSubmatch(head); m != nil {
			if r := aRow(m[1], stopsByForm(body)...); rowOkByForm(r) && len(sheet.Rows) < 6 {
				sheet.Rows = append(sheet.Rows, r)
			}
		} else if p, is := pickByForm(head); is {
			if notes := notesByForm(body); len(notes) > 0 && len(sheet.Rules) < 12 {
				sheet.Rules = append(sheet.Rules, impl.Rule{Pick: p, Notes: notes})
			}
		}
	}
}

func wantSheetOk(t *testing.T, s impl.Sheet, want bool) {
	t.Helper()
	if got := impl.SheetOk(s); got != want {
		t.Errorf("SheetOk(%s) = %t", spell(s), got)
	}
}

func wantShownSheet(t *testing.T, s impl.Sheet, want string) {
	t.Helper()
	if got := impl.ShowSheet(s); got != want {
		t.Errorf("ShowSheet(%s) = %.600q, want %.600q", spell(s), got, want)
	}
}

// wantSheet is promise 12 for one text: what is read is right, and what the text tells.
func wantSheet(t *testing.T, text string, want impl.Sheet) {
	t.Helper()
	got := impl.ReadSheet(text)
	if !sameSheet(got, want) {
		t.Errorf("ReadSheet(%.600q) = %s, want %s", text, spell(got), spell(want))
	}
	wantSheetOk(t, got, true)
}

func wantSheetByForm(t *testing.T, text string) {
	t.Helper()
	wantSheet(t, text, sheetByForm(text))
}

// wantReadAs is for a text and what ShowSheet makes of what is read of it.
func wantReadAs(t *testing.T, text, want string) {
	t.Helper()
	wantSheetByForm(t, text)
	if got := impl.ShowSheet(impl.ReadSheet(text)); got != want {
		t.Errorf("ShowSheet of ReadSheet(%.600q) = %.600q, want %.600q", text, got, want)
	}
}

func wantRow(t *testing.T, s impl.Sheet, name string, want int64) {
	t.Helper()
	if got := impl.RowOf(s, name); got != want {
		t.Errorf("RowOf(%s, %.40q) = %d, want %d", spell(s), name, got, want)
	}
}

// wantEachRow asks for each row of a right sheet, and for some that there are not.
func wantEachRow(t *testing.T, s impl.Sheet) {
	t.Helper()
	last := map[string]int64{"": -1, "none": -1, "row": -1, "abcdefghi": -1}
	for i, r := range s.Rows {
		last[r.Name] = int64(i)
	}
	for name, i := range last {
		wantRow(t, s, name, i)
	}
}

// wantSheetAsShown is promise 12 for one right sheet, with what the other calls tell of it.
func wantSheetAsShown(t *testing.T, s impl.Sheet) {
	t.Helper()
	wantSheetOk(t, s, true)
	wantEachRow(t, s)
	text := sheetShownByForm(s)
	if len(text) > 4000 {
		wantShownSheet(t, s, "")
		return
	}
	wantShownSheet(t, s, text)
	wantSheet(t, impl.ShowSheet(s), s)
}

// wantNoSheet is for a sheet that is not right.
func wantNoSheet(t *testing.T, s impl.Sheet) {
	t.Helper()
	wantSheetOk(t, s, false)
	wantShownSheet(t, s, "")
	for _, name := range []string{"", "a", "abcdefghi"} {
		wantRow(t, s, name, -1)
	}
	for _, r := range s.Rows[:min(len(s.Rows), 20)] {
		wantRow(t, s, r.Name, -1)
	}
}

func wantSheetOrNot(t *testing.T, s impl.Sheet) {
	t.Helper()
	if sheetOkByForm(s) {
		wantSheetAsShown(t, s)
	} else {
		wantNoSheet(t, s)
	}
}

// wantRuleOrNot asks of a rule alone, and of one in each place beside others.
func wantRuleOrNot(t *testing.T, r impl.Rule) {
	t.Helper()
	other := aRule("man", weak(4, hidden))
	for _, rules := range [][]impl.Rule{{r}, {r, other}, {other, r}, {other, r, other}} {
		wantSheetOrNot(t, sheetOf(rules))
		wantSheetOrNot(t, sheetOf(rules, aRow("a", aStop(0, weak(0, plainOf(5))))))
	}
}

func wantRowOrNot(t *testing.T, r impl.Row) {
	t.Helper()
	other := aRow("a", aStop(0, weak(0, plainOf(5))))
	for _, rows := range [][]impl.Row{{r}, {r, other}, {other, r}, {other, r, other}} {
		wantSheetOrNot(t, sheetOf(nil, rows...))
		wantSheetOrNot(t, sheetOf([]impl.Rule{aRule("man", weak(4, hidden))}, rows...))
	}
}

func wantStopOrNot(t *testing.T, stop impl.Stop) {
	t.Helper()
	other := aStop(50, weak(5, wordOf("other")))
	for _, stops := range [][]impl.Stop{{stop}, {stop, other}, {other, stop}, {other, stop, other}} {
		wantRowOrNot(t, aRow("glow", stops...))
	}
}

func aFullSheet() impl.Sheet {
	s := impl.Sheet{}
	for i := range 12 {
		s.Rules = append(s.Rules, aRule(fmt.Sprintf("a%d", i), weak(0, plainOf(int64(i)))))
	}
	for i := range 6 {
		s.Rows = append(s.Rows, aRow(fmt.Sprintf("r%d", i), aStop(int64(i), weak(0, plainOf(int64(i))))))
	}
	return s
}

// fewSheets are right ones: empty, with rules alone, with rows alone, with both, with as many as there may be.
func fewSheets() []impl.Sheet {
	wide, clear, form := weak(1, pixelsOf(7)), strong(0, plainOf(500)), weak(5, wordOf("a"))
	rules := []impl.Rule{aRule("box", wide), aRule("box=a.on.up > man .red", clear, wide), aRule("a", form, form, clear)}
	glow := aRow("glow", aStop(0, wide), aStop(100, form, weak(0, plainOf(9))))
	return []impl.Sheet{
		{}, sheetOf(rules[:1]), sheetOf(rules), sheetOf(nil, glow), sheetOf(nil, glow, aRow("a", aStop(50, form)), glow), sheetOf(rules, glow, glow), aFullSheet(),
	}
}

// notRows are rows that are not right.
func notRows() []impl.Row {
	right := aStop(0, weak(0, plainOf(5)))
	list := []impl.Row{{}, aRow("a"), aRow("", right), aRow("a", impl.Stop{}), aRow("a", aStop(0)), aRow("a", right, aStop(5)), aRow("a", slices.Repeat([]impl.Stop{right}, 7)...), aRow("a", aStop(0, strong(0, plainOf(5)))), aRow("a", right, aStop(5, weak(0, plainOf(5)), strong(0, plainOf(5))))}
	for _, name := range notShort {
		list = append(list, aRow(name, right))
	}
	for _, at := range append([]int64{-256, -2, -1, 101, 102, 256, 1 << 32, 1<<32 + 5, -1 << 32}, outliers...) {
		list = append(list, aRow("a", aStop(at, right.Notes...)), aRow("a", right, aStop(at, right.Notes...), right))
	}
	return list
}

// notSheets are sheets of which one rule or row is not right, or which have too many.
func notSheets() []impl.Sheet {
	list := []impl.Sheet{sheetOf([]impl.Rule{{}}), sheetOf([]impl.Rule{aRule("a")}), sheetOf([]impl.Rule{{Notes: []impl.Note{weak(0, plainOf(5))}}})}
	for _, s := range fewSheets() {
		for _, wrong := range []impl.Rule{{}, aRule("a"), {Pick: []impl.Part{near("a", "")}, Notes: []impl.Note{weak(0, plainOf(5))}}, aRule("a", weak(0, plainOf(-1)))} {
			changed := cloneSheet(s)
			changed.Rules = append(changed.Rules, wrong)
			list = append(list, changed)
		}
		for _, wrong := range notRows()[:12] {
			changed := cloneSheet(s)
			changed.Rows = append(changed.Rows, wrong)
			list = append(list, changed)
		}
	}
	full := aFullSheet()
	return append(list, sheetOf(append(full.Rules, full.Rules[0]), full.Rows...), sheetOf(full.Rules, append(full.Rows, full.Rows[0])...))
}

// sheetOfLength is shown as a text of that many bytes, from 2746 to some 5900.
func sheetOfLength(long int) impl.Sheet {
	s, words := impl.Sheet{}, []*impl.Note{}
	notes := func() []impl.Note {
		list := slices.Repeat([]impl.Note{weak(5, wordOf("a"))}, 12)
		for i := range list {
			words = append(words, &list[i])
		}
		return list
	}
	for range 12 {
		s.Rules = append(s.Rules, aRule("a", notes()...))
	}
	for range 2 {
		r := aRow("a")
		for range 6 {
			r.Stops = append(r.Stops, aStop(0, notes()...))
		}
		s.Rows = append(s.Rows, r)
	}
	missing := long - len(sheetShownByForm(s))
	for _, n := range words {
		more := min(max(missing, 0), 11)
		n.Value.Word, missing = strings.Repeat("a", 1+more), missing-more
	}
	return s
}

func drawnNotes(draw *rand.Rand, list []impl.Note, most int) []impl.Note {
	notes := []impl.Note{}
	for range 1 + draw.IntN(most) {
		notes = append(notes, list[draw.IntN(len(list))])
	}
	return notes
}

func drawnSheet(draw *rand.Rand) impl.Sheet {
	s, all, parts := impl.Sheet{}, eachNote(), manyParts()
	rules, rows, most := draw.IntN(13), draw.IntN(7), 1+draw.IntN(12)
	if draw.IntN(4) == 0 {
		rules, rows, most = 12, 6, 12
	}
	weakOnes := slices.DeleteFunc(slices.Clone(all), func(n impl.Note) bool { return n.Strong })
	for range rules {
		p := []impl.Part{}
		for range 1 + draw.IntN(4) {
			part := parts[draw.IntN(len(parts))]
			part.Near = len(p) > 0 && draw.IntN(2) == 0
			p = append(p, part)
		}
		s.Rules = append(s.Rules, impl.Rule{Pick: p, Notes: drawnNotes(draw, all, most)})
	}
	for range rows {
		r := aRow(shortNames[draw.IntN(len(shortNames))])
		for range 1 + draw.IntN(6) {
			r.Stops = append(r.Stops, aStop(int64(draw.IntN(101)), drawnNotes(draw, weakOnes, most)...))
		}
		s.Rows = append(s.Rows, r)
	}
	return s
}

func TestLimitsOfSheets(t *testing.T) {
	if impl.MaxRules != 12 || impl.MaxRows != 6 {
		t.Fatal(impl.MaxRules, impl.MaxRows)
	}
}

func TestTheEmptySheet(t *testing.T) {
	for _, s := range []impl.Sheet{{}, {Rules: []impl.Rule{}}, {Rows: []impl.Row{}}, {Rules: []impl.Rule{}, Rows: []impl.Row{}}} {
		wantSheetAsShown(t, s)
		wantShownSheet(t, s, "")
		for _, name := range slices.Concat(shortNames, notShort, []string{""}) {
			wantRow(t, s, name, -1)
		}
	}
}

func TestShowSheet(t *testing.T) {
	wide, clear, form := weak(1, pixelsOf(7)), strong(0, plainOf(500)), weak(5, wordOf("a"))
	box, man := aRule("box", wide), aRule("box=a.on.up > man .red", clear, wide)
	glow, still := aRow("glow", aStop(0, wide), aStop(100, form, wide)), aRow("still", aStop(50, form))
	for want, s := range map[string]impl.Sheet{
		"box { wide: 7px }\n": sheetOf([]impl.Rule{box}),
		"box=a.on.up > man .red { clear: 500 !strong; wide: 7px }\n":                    sheetOf([]impl.Rule{man}),
		"box { wide: 7px }\nbox=a.on.up > man .red { clear: 500 !strong; wide: 7px }\n": sheetOf([]impl.Rule{box, man}),
		"@row still { 50% { form: a } }\n":                                              sheetOf(nil, still),
		"@row glow { 0% { wide: 7px } 100% { form: a; wide: 7px } }\n":                  sheetOf(nil, glow),
		"box { wide: 7px }\n@row still { 50% { form: a } }\n@row glow { 0% { wide: 7px } 100% { form: a; wide: 7px } }\n@row still { 50% { form: a } }\n": sheetOf([]impl.Rule{box}, still, glow, still),
	} {
		wantShownSheet(t, s, want)
		wantSheet(t, want, s)
		wantSheetAsShown(t, s)
	}
}

func TestSheetOkOfEachPick(t *testing.T) {
	wide := weak(1, pixelsOf(7))
	for _, p := range shownPicks {
		wantRuleOrNot(t, impl.Rule{Pick: p, Notes: []impl.Note{wide}})
	}
	for _, part := range manyParts() {
		wantSheetAsShown(t, sheetOf([]impl.Rule{{Pick: []impl.Part{part}, Notes: []impl.Note{wide}}}))
	}
	for _, wrong := range notParts() {
		wantRuleOrNot(t, impl.Rule{Pick: []impl.Part{wrong}, Notes: []impl.Note{wide}})
		wantRuleOrNot(t, impl.Rule{Pick: []impl.Part{aPart("a", ""), wrong}, Notes: []impl.Note{wide}})
	}
	for _, p := range [][]impl.Part{nil, {}, {near("a", "")}, slices.Repeat([]impl.Part{aPart("a", "")}, 4), slices.Repeat([]impl.Part{aPart("a", "")}, 5)} {
		wantRuleOrNot(t, impl.Rule{Pick: p, Notes: []impl.Note{wide}})
	}
}

func TestSheetOkOfEachNote(t *testing.T) {
	right := weak(4, shown)
	for _, n := range append(eachNote(), notRightNotes()...) {
		wantRuleOrNot(t, aRule("a", n))
		wantStopOrNot(t, aStop(5, n))
	}
	for i, n := range append(eachNote(), notRightNotes()...) {
		if i%9 == 0 {
			for _, notes := range [][]impl.Note{{n, right}, {right, n}, {right, n, right}} {
				wantRuleOrNot(t, aRule("a", notes...))
				wantStopOrNot(t, aStop(5, notes...))
			}
		}
	}
}

func TestSheetOkAtMaxNotes(t *testing.T) {
	for many := 0; many <= 14; many++ {
		notes := slices.Repeat([]impl.Note{weak(5, wordOf("a"))}, many)
		wantRuleOrNot(t, aRule("a", notes...))
		wantStopOrNot(t, aStop(5, notes...))
		wantSheetOk(t, sheetOf([]impl.Rule{aRule("a", notes...)}), many >= 1 && many <= 12)
		wantSheetOk(t, sheetOf(nil, aRow("a", aStop(5, notes...))), many >= 1 && many <= 12)
	}
	for _, many := range []int{256, 257, 268, 100000} {
		notes := slices.Repeat([]impl.Note{weak(5, wordOf("a"))}, many)
		wantNoSheet(t, sheetOf([]impl.Rule{aRule("a", notes...)}))
		wantNoSheet(t, sheetOf(nil, aRow("a", aStop(5, notes...))))
	}
}

func TestSheetOkAtMaxRulesAndMaxRows(t *testing.T) {
	rule, row := aRule("a", weak(5, wordOf("a"))), aRow("a", aStop(0, weak(5, wordOf("a"))))
	for rules := range 15 {
		for rows := range 9 {
			s := sheetOf(slices.Repeat([]impl.Rule{rule}, rules), slices.Repeat([]impl.Row{row}, rows)...)
			wantSheetOk(t, s, rules <= 12 && rows <= 6)
			wantSheetOrNot(t, s)
		}
	}
	for _, many := range []int{256, 257, 262, 268, 100000} {
		wantNoSheet(t, sheetOf(slices.Repeat([]impl.Rule{rule}, many)))
		wantNoSheet(t, sheetOf(nil, slices.Repeat([]impl.Row{row}, many)...))
	}
}

func TestSheetOkAtTheLimitOfStops(t *testing.T) {
	stop := aStop(5, weak(5, wordOf("a")))
	for many := range 20 {
		stops := slices.Repeat([]impl.Stop{stop}, many)
		wantRowOrNot(t, aRow("glow", stops...))
		wantSheetOk(t, sheetOf(nil, aRow("glow", stops...)), many >= 1 && many <= 6)
	}
	for _, many := range []int{256, 257, 262, 100000} {
		wantNoSheet(t, sheetOf(nil, aRow("glow", slices.Repeat([]impl.Stop{stop}, many)...)))
	}
}

func TestSheetOkOfEachAt(t *testing.T) {
	for at := int64(-120); at <= 260; at++ {
		wantStopOrNot(t, aStop(at, weak(5, wordOf("a"))))
		wantSheetOk(t, sheetOf(nil, aRow("a", aStop(at, weak(5, wordOf("a"))))), at >= 0 && at <= 100)
	}
	for _, at := range append([]int64{1 << 32, 1<<32 + 5, -1 << 32, 1<<40 + 100, 1000000, -1000000}, outliers...) {
		wantStopOrNot(t, aStop(at, weak(5, wordOf("a"))))
	}
}

func TestSheetOkOfEachNameOfARow(t *testing.T) {
	stop := aStop(5, weak(5, wordOf("a")))
	for _, name := range slices.Concat(shortNames, notShort, []string{"", "row", "@row", "rows", strings.Repeat("a", 100000)}) {
		wantRowOrNot(t, aRow(name, stop))
	}
	for _, name := range []string{"", "a", "a-012345"} {
		eachOneByteOff(name, allBytes(), func(s string) { wantSheetOrNot(t, sheetOf(nil, aRow(s, stop))) })
	}
}

func TestSheetOkOfOneThatIsNotRight(t *testing.T) {
	for _, s := range notSheets() {
		if sheetOkByForm(s) {
			t.Errorf("%s is in the wrong list", spell(s))
		}
		wantNoSheet(t, s)
	}
	full := aFullSheet()
	for _, wrong := range notRows() {
		wantRowOrNot(t, wrong)
		for at := range full.Rows {
			changed := cloneSheet(full)
			changed.Rows[at] = wrong
			wantNoSheet(t, changed)
		}
	}
	for at := range full.Rules {
		for _, wrong := range []impl.Rule{{}, aRule("a"), aRule("", weak(0, plainOf(5))), aRule("a", impl.Note{})} {
			changed := cloneSheet(full)
			changed.Rules[at] = wrong
			wantNoSheet(t, changed)
		}
	}
}

// TestSheetOkOfAStrongNote has it in each place of each stop; a rule may have it.
func TestSheetOkOfAStrongNote(t *testing.T) {
	n := weak(5, wordOf("a"))
	for stops := 1; stops <= 6; stops++ {
		for notes := 1; notes <= 12; notes += 3 {
			for at := range stops * notes {
				r := aRow("a")
				for range stops {
					r.Stops = append(r.Stops, aStop(5, slices.Repeat([]impl.Note{n}, notes)...))
				}
				wantSheetOk(t, sheetOf(nil, r), true)
				r.Stops[at/notes].Notes[at%notes].Strong = true
				wantNoSheet(t, sheetOf(nil, r))
			}
		}
	}
	wantRuleOrNot(t, aRule("a", strong(5, wordOf("a"))))
	wantSheetOk(t, sheetOf([]impl.Rule{aRule("a", strong(5, wordOf("a")))}), true)
}

// TestShowSheetAtMaxSheet: such a sheet stays right when its text is too long.
func TestShowSheetAtMaxSheet(t *testing.T) {
	for _, long := range []int{2746, 3000, 3990, 3998, 3999, 4000, 4001, 4002, 4010, 5000, 5900} {
		s := sheetOfLength(long)
		if got := len(sheetShownByForm(s)); got != long {
			t.Fatalf("a sheet of %d bytes, not of %d", got, long)
		}
		wantSheetAsShown(t, s)
		if got := len(impl.ShowSheet(s)); long <= 4000 && got != long || long > 4000 && got != 0 {
			t.Errorf("%d bytes shown of %d", got, long)
		}
		wantRow(t, s, "a", 1)
	}
	long := aPart("abcdefgh", "abcdefgh", "aaaaaaaa", "bbbbbbbb", "cccccccc")
	notes := slices.Repeat([]impl.Note{strong(3, colorOf(1, 2, 3, 4))}, 12)
	s := sheetOf(slices.Repeat([]impl.Rule{{Pick: slices.Repeat([]impl.Part{long}, 4), Notes: notes}}, 12))
	wantSheetAsShown(t, s)
	wantShownSheet(t, s, "")
}

func TestReadSheetOfShowSheetIsTheSheet(t *testing.T) {
	for _, s := range fewSheets() {
		wantSheetAsShown(t, s)
	}
	for text, p := range shownPicks {
		for shownAs, n := range shownNotes {
			wantSheet(t, text+"{"+shownAs+"}", sheetOf([]impl.Rule{{Pick: p, Notes: []impl.Note{n}}}))
		}
	}
	for _, name := range shortNames {
		for at := range int64(101) {
			wantSheetAsShown(t, sheetOf(nil, aRow(name, aStop(at, weak(1, pixelsOf(at))), aStop(100-at, weak(1, shareOf(at))))))
		}
	}
}

// TestReadSheetOfShowSheetOfDrawnOnes: the seeds are fixed, so that each run has the same sheets.
func TestReadSheetOfShowSheetOfDrawnOnes(t *testing.T) {
	short, long := 0, 0
	for seed := range uint64(600) {
		s := drawnSheet(rand.New(rand.NewPCG(seed, 12)))
		wantSheetAsShown(t, s)
		if len(sheetShownByForm(s)) > 4000 {
			long++
		} else {
			short++
		}
	}
	if short < 100 || long < 20 {
		t.Errorf("%d short ones, %d long: too few to tell", short, long)
	}
}

func TestReadSheetOfEachText(t *testing.T) {
	for text, want := range readAs {
		wantReadAs(t, text, want)
		wantReadAs(t, " \n"+text, want)
	}
}

// TestReadSheetOfTextsBehindOthers: each of them changes none that stands ahead, and where its braces are closed none behind.
func TestReadSheetOfTextsBehindOthers(t *testing.T) {
	ahead := "sun { left: -5px }\n"
	for text, want := range readAs {
		wantReadAs(t, ahead+text, ahead+want)
		wantSheetByForm(t, "@row x { 9% { left: 5px } }"+text)
		wantSheetByForm(t, text+"sun { left: -5px } @row x { 9% { left: 5px } }")
		if strings.HasSuffix(text, "}") && strings.Count(text, "{") == strings.Count(text, "}") {
			got := impl.ReadSheet(text + ahead)
			last := len(got.Rules) - 1
			if last < 0 || !sameRule(got.Rules[last], aRule("sun", weak(2, pixelsOf(-5)))) {
				t.Errorf("%q changes the rule behind it: %s", text, spell(got))
			}
		}
	}
}

func TestReadSheetOfTwoTexts(t *testing.T) {
	texts := []string{}
	for text := range readAs {
		texts = append(texts, text)
	}
	slices.Sort(texts)
	for i, a := range texts {
		for k := i % 7; k < len(texts); k += 7 {
			wantSheetByForm(t, a+texts[k])
			if i%7 == 0 {
				wantSheetByForm(t, "a { "+a+" } "+texts[k])
				wantSheetByForm(t, "@row a { "+a+texts[k]+" }")
				wantSheetByForm(t, "@row a { 0% { "+a+" } } "+texts[k])
			}
		}
	}
}

func TestReadSheetAtMaxSheet(t *testing.T) {
	rule, row := "box { wide: 7px }\n", "@row glow { 0% { wide: 7px } }\n"
	for _, text := range []string{rule, row, rule + row, row + rule, row + row, "", "?", "a {", "box { wide: 7px"} {
		for _, long := range []int{3998, 3999, 4000} {
			blanks := strings.Repeat(" ", long-len(text))
			wantSheet(t, text+blanks, sheetByForm(text))
			wantSheet(t, blanks+text, sheetByForm(text))
			wantSheet(t, strings.ReplaceAll(blanks, " ", "\n")+text, sheetByForm(text))
		}
		for _, long := range []int{4001, 4002, 8000, 100000} {
			blanks := strings.Repeat(" ", long-len(text))
			wantSheet(t, text+blanks, impl.Sheet{})
			wantSheet(t, blanks+text, impl.Sheet{})
		}
	}
	if s := sheetByForm(rule); len(s.Rules) != 1 {
		t.Fatal(s)
	}
	exact := sheetOfLength(4000)
	wantSheet(t, sheetShownByForm(exact), exact)
	wantSheet(t, sheetShownByForm(exact)+"\n", impl.Sheet{})
	wantSheet(t, sheetShownByForm(sheetOfLength(4001)), impl.Sheet{})
}

// TestReadSheetOfDeepBraces: as many of them as a text has room for.
func TestReadSheetOfDeepBraces(t *testing.T) {
	for _, deep := range []int{1, 2, 3, 10, 100, 1000, 1900} {
		open, shut := strings.Repeat("{", deep), strings.Repeat("}", deep)
		want := sheetOf([]impl.Rule{aRule("a", weak(5, wordOf("b")))})
		both := sheetOf(append(want.Rules, aRule("c", weak(5, wordOf("d")))))
		wantSheet(t, "a{form:b;"+open+shut+"}c{form:d}", both)
		wantSheet(t, "a{form:b;"+open+shut+";}c{form:d}", both)
		wantSheet(t, "a{form:b;"+open+shut+"c{form:d}", want)
		wantSheet(t, "a{form:b}"+open+shut+"c{form:d}", both)
		wantSheet(t, "a{form:b}"+shut+"c{form:d}", want)
		wantSheet(t, "a{form:b}"+shut+"{}c{form:d}", both)
		wantSheet(t, "a{form:b}"+open+"c{form:d}", want)
		wantSheet(t, open, impl.Sheet{})
		wantSheet(t, shut+open, impl.Sheet{})
	}
	for _, piece := range []string{"{", "}", "{}", "}{", "@row", "@row a", "@row a{", "@row a{0%{", "a{", "a{form:b", "0%{", "@", ";", "?"} {
		text := strings.Repeat(piece, 4000/len(piece))
		if got := impl.ReadSheet(text); !sameSheet(got, impl.Sheet{}) {
			t.Errorf("ReadSheet of many %q = %s", piece, spell(got))
		}
	}
	wantSheet(t, strings.Repeat("a{form:b;", 444), sheetOf([]impl.Rule{aRule("a", weak(5, wordOf("b")))}))
}

// TestReadSheetAtMaxRulesAndMaxRows: only those that are right count, wherever others stand between them.
func TestReadSheetAtMaxRulesAndMaxRows(t *testing.T) {
	for _, other := range []string{"", " ", "\n", "{}", "? { form: a }", "a { }", "a { what: 5 }", "@row a { }", "@row { 0% { form: a } }", "@row a { 0% { form: a !strong } }"} {
		for _, rules := range []int{0, 1, 11, 12, 13, 14, 24, 30} {
			for _, rows := range []int{0, 1, 5, 6, 7, 8, 12} {
				text, want := "", impl.Sheet{}
				for i := range max(rules, rows) {
					if text += other; i < rules {
						text += fmt.Sprintf("a%d { clear: %d }", i, i)
					}
					if text += other; i < rows {
						text += fmt.Sprintf("@row r%d { %d%% { clear: %d } }", i, i, i)
					}
					if i < min(12, rules) {
						want.Rules = append(want.Rules, aRule(fmt.Sprintf("a%d", i), weak(0, plainOf(int64(i)))))
					}
					if i < min(6, rows) {
						want.Rows = append(want.Rows, aRow(fmt.Sprintf("r%d", i), aStop(int64(i), weak(0, plainOf(int64(i))))))
					}
				}
				if len(text) <= 4000 {
					wantSheet(t, text+other, want)
				}
			}
		}
	}
	twelve, six := strings.Repeat("a{form:a}", 12), strings.Repeat("@row a{0%{form:a}}", 6)
	full := sheetByForm(twelve + six)
	for _, more := range []string{"b{form:b}", "@row b{0%{form:b}}", "b{form:b}@row b{0%{form:b}}", "b{", "@row b{"} {
		wantSheet(t, twelve+six+more, full)
		wantSheet(t, six+twelve+more, full)
	}
	wantSheet(t, twelve+"b{form:b}"+six, full)
	wantSheet(t, six+"@row b{0%{form:b}}"+twelve, full)
}

func TestReadSheetAtMaxNotes(t *testing.T) {
	for many := range 30 {
		notes := slices.Repeat([]impl.Note{weak(5, wordOf("a"))}, min(many, 12))
		text := strings.Repeat("form: a;", many)
		want := impl.Sheet{}
		if many > 0 {
			want = sheetOf([]impl.Rule{aRule("b", notes...)}, aRow("c", aStop(5, notes...)))
		}
		wantSheet(t, "b {"+text+"} @row c { 5% {"+text+"} }", want)
		wantSheet(t, "b {what: 5;"+text+"; ?} @row c { 5% {;; 5;"+text+"what} }", want)
	}
}

// TestReadSheetOfStopsWithStrongNotes: those are left out of the first MaxNotes, and none behind takes their place.
func TestReadSheetOfStopsWithStrongNotes(t *testing.T) {
	for ahead := range 15 {
		for behind := range 15 {
			text := strings.Repeat("form: a !strong;", ahead) + strings.Repeat("form: b;", behind)
			if weakOnes := min(behind, max(12-ahead, 0)); weakOnes > 0 {
				wantSheet(t, "@row c { 5% {"+text+"} }", sheetOf(nil, aRow("c", aStop(5, slices.Repeat([]impl.Note{weak(5, wordOf("b"))}, weakOnes)...))))
			} else {
				wantSheet(t, "@row c { 5% {"+text+"} }", impl.Sheet{})
			}
			wantSheetByForm(t, "@row c { 5% {"+strings.Repeat("form: b;", behind)+strings.Repeat("form: a !strong;", ahead)+"} 7% { form: c } }")
			wantSheetByForm(t, "a {"+text+"}")
		}
	}
}

func TestReadSheetAtTheLimitOfStops(t *testing.T) {
	for many := range 40 {
		text, want := "", aRow("a")
		for i := range many {
			text += fmt.Sprintf("%d%%{clear:%d}", i, i)
			want.Stops = append(want.Stops, aStop(int64(i), weak(0, plainOf(int64(i)))))
		}
		sun := aRule("sun", weak(2, pixelsOf(5)))
		if many >= 1 && many <= 6 {
			wantSheet(t, "@row a {"+text+"} sun { left: 5px }", sheetOf([]impl.Rule{sun}, want))
		} else {
			wantSheet(t, "@row a {"+text+"} sun { left: 5px }", sheetOf([]impl.Rule{sun}))
		}
	}
}

func TestReadSheetOfEachAt(t *testing.T) {
	for at := int64(-120); at <= 260; at++ {
		want := impl.Sheet{}
		if at >= 0 && at <= 100 {
			want = sheetOf(nil, aRow("a", aStop(at, weak(5, wordOf("b")))))
		}
		wantSheet(t, fmt.Sprintf("@row a { %d%% { form: b } }", at), want)
		wantSheet(t, fmt.Sprintf("@row a { 0%d%% { form: b } }", at), impl.Sheet{})
		wantSheet(t, fmt.Sprintf("@row a { %d { form: b } }", at), impl.Sheet{})
		wantSheet(t, fmt.Sprintf("@row a { %dpx { form: b } }", at), impl.Sheet{})
		wantSheetByForm(t, fmt.Sprintf("@row a { 5%% { form: b } %d%% { form: b } }", at))
	}
	for _, at := range append([]int64{999999999, 1000000000, 1<<32 + 5}, outliers...) {
		wantSheet(t, fmt.Sprintf("@row a { %d%% { form: b } }", at), impl.Sheet{})
	}
}

func TestReadSheetOfEachName(t *testing.T) {
	for _, name := range slices.Concat(shortNames, notShort, []string{"", "row", "@row"}) {
		want := impl.Sheet{}
		if shortForm.MatchString(name) {
			want = sheetOf(nil, aRow(name, aStop(5, weak(5, wordOf("b")))))
		}
		if strings.Trim(name, " \n") == name {
			wantSheet(t, "@row "+name+" { 5% { form: b } }", want)
			wantSheet(t, "@row\n "+name+"{ 5% { form: b } }", want)
		}
		wantSheetByForm(t, "@row "+name+" { 5% { form: b } }")
		wantSheetByForm(t, "@row a"+name+" { 5% { form: b } }")
		wantSheetByForm(t, "@row"+name+" { 5% { form: b } }")
		wantSheetByForm(t, name+" { form: b }")
	}
	wantSheet(t, "@row "+strings.Repeat("a", 3000)+" { 5% { form: b } }", impl.Sheet{})
}

func TestReadSheetOfWhatIsNoPick(t *testing.T) {
	for _, head := range notPicks {
		if strings.Contains(head, "{") {
			continue
		}
		wantReadAs(t, head+"{ form: a }", "")
		wantReadAs(t, head+"{ form: a } b { form: b }", "b { form: b }\n")
		wantReadAs(t, "b { form: b }"+head+"{ form: a }", "b { form: b }\n")
	}
}

func TestReadSheetOfWhatIsNoNote(t *testing.T) {
	for _, piece := range notNotes {
		wantSheetByForm(t, "a {"+piece+"} b { form: b }")
		wantSheetByForm(t, "a { form: a;"+piece+"} b { form: b }")
		wantSheetByForm(t, "@row a { 0% {"+piece+"} } b { form: b }")
		wantSheetByForm(t, "@row a { 0% {"+piece+"; form: a } 5% { form: a } } b { form: b }")
		if !strings.ContainsAny(piece, "{}") {
			wantReadAs(t, "a {"+piece+"} b { form: b }", "b { form: b }\n")
			wantReadAs(t, "a { form: a;"+piece+"} b { form: b }", "a { form: a }\nb { form: b }\n")
			wantReadAs(t, "@row a { 0% {"+piece+"} } b { form: b }", "b { form: b }\n")
			wantReadAs(t, "@row a { 0% {"+piece+"; form: a } 5% { form: a } } b { form: b }", "b { form: b }\n@row a { 0% { form: a } 5% { form: a } }\n")
		}
	}
}

// TestReadSheetWithSpaces has them in each place where they may stand, or may be left out.
func TestReadSheetWithSpaces(t *testing.T) {
	want := sheetOf([]impl.Rule{aRule("a", weak(5, wordOf("b")))}, aRow("c", aStop(0, weak(5, wordOf("d"))), aStop(9, weak(5, wordOf("e")))))
	spaces := []string{"", " ", "\n", " \n \n"}
	for i := range 4 * 4 * 4 * 4 {
		one, two, three, four := spaces[i%4], spaces[i/4%4], spaces[i/16%4], spaces[i/64]
		rule := one + "a" + two + "{" + three + "form:b" + four + "}"
		row := two + "@row " + one + "c" + three + "{" + four + "0%" + one + "{" + two + "form:d" + three + "}" + four + "9%" + three + "{form:e" + one + "}" + two + "}"
		wantSheet(t, rule+row+one, want)
		wantSheet(t, row+rule+four, want)
		if one != "" {
			wantSheet(t, rule+strings.Replace(row, "@row", "@"+one+"row", 1), sheetOf(want.Rules))
			wantSheet(t, rule+strings.Replace(row, "0%", "0"+one+"%", 1), sheetOf(want.Rules))
		}
	}
}

func TestReadSheetOneByteOff(t *testing.T) {
	wantByForm := func(s string) { wantSheetByForm(t, s) }
	eachOneByteOff("a{form:b}@row c{0%{form:d}9%{form:e}}", allBytes(), wantByForm)
	bytes := strings.Split("{}@%;:,.=>!a0-# \n?\x00", "")
	for _, s := range fewSheets()[:6] {
		eachOneByteOff(sheetShownByForm(s), bytes, wantByForm)
	}
	for _, s := range []string{"a { form: b; { } } @row c { 0% { form: d !strong; form: e } } f { form: g", "} a { form: b } } @row c { 100% { form: d }"} {
		eachOneByteOff(s, bytes, wantByForm)
	}
}

// TestReadSheetIsAsItsForm goes through all rows of a few pieces, behind beginnings of rules and rows and alone.
func TestReadSheetIsAsItsForm(t *testing.T) {
	wantByForm := func(s string) { wantSheetByForm(t, s) }
	for many := 0; many <= 6; many++ {
		eachRow([]string{"a", "{", "}", "form:b;", "@row c"}, many, "", wantByForm)
	}
	pieces := []string{"{", "}", "0%", "form:b", ";", "!strong", " "}
	for _, ahead := range []string{"a{", "@row c{", "@row c{0%{form:d}", "@row c{0%{form:d"} {
		for many := 0; many <= 4; many++ {
			eachRow(pieces, many, ahead, wantByForm)
			eachRow(pieces, many, ahead, func(s string) { wantSheetByForm(t, s+"}}a{form:b}") })
		}
	}
	heads := []string{"@", "row", " ", "c", "\n", ",", "abcdefgh", "}"}
	for many := 0; many <= 5; many++ {
		eachRow(heads, many, "", func(s string) { wantSheetByForm(t, s+"{0%{form:d}}a{form:b}") })
	}
}

// TestReadSheetOfTextsOfAllSorts has texts drawn with fixed seeds, of the signs of a sheet and of longer pieces: what is read is right.
func TestReadSheetOfTextsOfAllSorts(t *testing.T) {
	signs := strings.Split("{}{}{};:@%!.=>,* \n\n  abrow059-#?\x00\xff", "")
	pieces := []string{"{", "}", "}", "{ ", " }", "@row ", "@row c", "@row c {", "a", "a.b > =c", "0%", "50% ", "100%{", "101%", "-1%{", "form: b", "form: b;", "clear: 5 !strong", "wide:7px", ";", " ", "\n", "0%{form:b}", "100% { clear: 5 } ", "a{form:b}", "a{form:b}", "a > .c { wide: 7px }", "b {", "form:d}", "@row c{0%{form:b}}", "@row d { 0% { form: b } 9%{form:b}}", "@", "row", "?", ",", "what: 5;", "box {", "}}", "!strong"}
	rules, rows := 0, 0
	for seed := range uint64(20000) {
		draw := rand.New(rand.NewPCG(seed, 1212))
		from, many := pieces, 1+draw.IntN(40)
		if seed%4 == 0 {
			from, many = signs, 1+draw.IntN(200)
		}
		text := strings.Builder{}
		for range many {
			text.WriteString(from[draw.IntN(len(from))])
		}
		wantSheetByForm(t, text.String())
		s := impl.ReadSheet(text.String())
		wantSheetAsShown(t, s)
		rules, rows = rules+len(s.Rules), rows+len(s.Rows)
	}
	if rules < 3000 || rows < 1000 {
		t.Errorf("%d rules, %d rows: too few to tell", rules, rows)
	}
}

// TestReadSheetOfTextsOfAllBytes has any byte at all.
func TestReadSheetOfTextsOfAllBytes(t *testing.T) {
	for seed := range uint64(2000) {
		draw := rand.New(rand.NewPCG(seed, 256))
		text := []byte(sheetShownByForm(fewSheets()[1+draw.IntN(5)]))
		for range 1 + draw.IntN(6) {
			text[draw.IntN(len(text))] = byte(draw.IntN(256))
		}
		wantSheetByForm(t, string(text))
		for i := range text {
			text[i] = byte(draw.IntN(256))
		}
		wantSheetByForm(t, string(text))
	}
	for b := range 256 {
		wantSheetByForm(t, byteText(b))
		wantSheetByForm(t, strings.Repeat(byteText(b), 4000))
		wantSheet(t, strings.Repeat(byteText(b), 4001), impl.Sheet{})
	}
}

func TestRowOf(t *testing.T) {
	stop := aStop(5, weak(5, wordOf("b")))
	s := sheetOf(nil, aRow("a", stop), aRow("b", stop), aRow("a", stop), aRow("abcdefgh", stop), aRow("b", stop), aRow("c", stop))
	for name, want := range map[string]int64{"a": 2, "b": 4, "abcdefgh": 3, "c": 5, "d": -1, "": -1, "A": -1, "a ": -1, " a": -1, "abcdefg": -1, "abcdefghi": -1, "@row a": -1, "row": -1, "a\x00": -1, "\xff": -1} {
		wantRow(t, s, name, want)
	}
	wantRow(t, sheetOf([]impl.Rule{aRule("a", weak(5, wordOf("b")))}), "a", -1)
	wantRow(t, sheetOf([]impl.Rule{aRule("a", weak(5, wordOf("b")))}, aRow("a", stop)), "a", 0)
	for many := 1; many <= 6; many++ {
		for at := range many {
			rows := slices.Repeat([]impl.Row{aRow("a", stop)}, many)
			rows[at] = aRow("b", stop)
			wantRow(t, sheetOf(nil, rows...), "b", int64(at))
			wantEachRow(t, sheetOf(nil, rows...))
		}
		wantRow(t, sheetOf(nil, slices.Repeat([]impl.Row{aRow("a", stop)}, many)...), "a", int64(many-1))
	}
	for _, name := range slices.Concat(shortNames, notShort) {
		wantEachRow(t, sheetOf(nil, aRow("box", stop), aRow("a", stop)))
		if !slices.Contains([]string{"box", "a"}, name) {
			wantRow(t, sheetOf(nil, aRow("box", stop), aRow("a", stop)), name, -1)
		}
	}
	wantRow(t, s, strings.Repeat("a", 100000), -1)
}

// TestRowOfASheetThatIsNotRight: none is told, even one that is right itself.
func TestRowOfASheetThatIsNotRight(t *testing.T) {
	for _, s := range notSheets() {
		wantRow(t, s, "glow", -1)
		s.Rows = slices.Insert(slices.Clone(s.Rows), 0, aRow("glow", aStop(5, weak(5, wordOf("b")))))
		wantRow(t, s, "glow", -1)
	}
	for _, name := range notShort {
		wantRow(t, sheetOf(nil, aRow(name, aStop(5, weak(5, wordOf("b"))))), name, -1)
	}
	wantRow(t, sheetOf(nil, aRow("", aStop(5, weak(5, wordOf("b"))))), "", -1)
}

// TestSheetsFarOut: an answer at every argument, in each number there is.
func TestSheetsFarOut(t *testing.T) {
	right := weak(5, wordOf("a"))
	for _, far := range outliers {
		for _, n := range []impl.Note{weak(far, pixelsOf(7)), strong(far, shown), weak(0, plainOf(far)), weak(1, pixelsOf(far)), weak(2, shareOf(far)), weak(1, impl.Value{Kind: far}), weak(1, impl.Value{Kind: far, Number: far, Red: far, Green: far, Blue: far, Clear: far}), weak(3, colorOf(far, 0, 0, 0)), weak(3, colorOf(0, far, 0, 0)), weak(3, colorOf(0, 0, far, 0)), weak(3, colorOf(0, 0, 0, far)), weak(5, impl.Value{Kind: impl.VaWord, Number: far, Word: "a"})} {
			wantNoSheet(t, sheetOf([]impl.Rule{aRule("a", n)}))
			wantNoSheet(t, sheetOf([]impl.Rule{aRule("a", right, n)}))
			wantNoSheet(t, sheetOf(nil, aRow("a", aStop(5, n))))
			wantNoSheet(t, sheetOf(nil, aRow("a", aStop(far, n), aStop(5, right))))
		}
		wantNoSheet(t, sheetOf(nil, aRow("a", aStop(far, right))))
		wantNoSheet(t, sheetOf(nil, aRow("a", aStop(5, right), aStop(far, right))))
		for _, other := range outliers {
			wantNoSheet(t, sheetOf(nil, aRow("a", aStop(far, right), aStop(other, right))))
		}
	}
}

// markAll writes one mark into all of a list and the room behind it; what it answers asks whether it is still in each place.
func markAll[T any](list []T, mark T, same func(a, b T) bool) func() bool {
	room := list[:cap(list)]
	for i := range room {
		room[i] = mark
	}
	return func() bool {
		return !slices.ContainsFunc(room, func(one T) bool { return !same(one, mark) })
	}
}

// markSheet writes another mark into each list of a sheet, the inner ones first, and tells whether each has its own still.
func markSheet(s impl.Sheet) bool {
	asks, mark := []func() bool{}, int64(1000)
	next := func() string {
		mark++
		return fmt.Sprintf("changed%d", mark)
	}
	markNotes := func(list []impl.Note) {
		n := weak(6, wordOf(next()))
		asks = append(asks, markAll(list, n, func(a, b impl.Note) bool { return a == b }))
	}
	for _, r := range s.Rules {
		for _, part := range r.Pick {
			asks = append(asks, markAll(part.Badges, next(), func(a, b string) bool { return a == b }))
		}
		markNotes(r.Notes)
		asks = append(asks, markAll(r.Pick, aPart(next(), ""), samePart))
	}
	for _, r := range s.Rows {
		for _, stop := range r.Stops {
			markNotes(stop.Notes)
		}
		next()
		asks = append(asks, markAll(r.Stops, aStop(mark), sameStop))
	}
	return !slices.ContainsFunc(asks, func(ask func() bool) bool { return !ask() })
}

// TestReadSheetIsNewMemory: no two lists of it share any, nor does it with what is read at another time.
func TestReadSheetIsNewMemory(t *testing.T) {
	texts := []string{"a.b.c > d.e { form: a; form: b; form: c } a.b.c > d.e { form: a; form: b; form: c } @row a { 0% { form: a; form: b } 5% { form: a !strong; form: b; form: c !strong } 9% { form: a } } @row a { 0% { form: a } }"}
	for _, s := range fewSheets() {
		texts = append(texts, sheetShownByForm(s))
	}
	for text := range readAs {
		texts = append(texts, text)
	}
	for _, text := range texts {
		first, second := impl.ReadSheet(text), impl.ReadSheet(text)
		if !markSheet(first) {
			t.Errorf("%q: two lists of one answer share memory", text)
		}
		for i := range first.Rules[:cap(first.Rules)] {
			first.Rules[:cap(first.Rules)][i] = impl.Rule{}
		}
		for i := range first.Rows[:cap(first.Rows)] {
			first.Rows[:cap(first.Rows)][i] = impl.Row{Name: "changed"}
		}
		if !sameSheet(second, sheetByForm(text)) {
			t.Errorf("%q: what was read ahead is now %s", text, spell(second))
		}
		wantSheetByForm(t, text)
	}
}

// roomy has the same sheet with lists that have room behind them, in which something stands.
func roomy(s impl.Sheet) impl.Sheet {
	c := cloneSheet(s)
	notes := func(list []impl.Note) []impl.Note {
		return append(list, weak(5, wordOf("spare")), impl.Note{Look: 50})[:len(list)]
	}
	for i := range c.Rules {
		r := &c.Rules[i]
		for k := range r.Pick {
			badges := r.Pick[k].Badges
			r.Pick[k].Badges = append(badges, "spare", "a")[:len(badges)]
		}
		r.Pick, r.Notes = append(r.Pick, near("spare", "", "z"), impl.Part{})[:len(r.Pick)], notes(r.Notes)
	}
	for i := range c.Rows {
		r := &c.Rows[i]
		for k := range r.Stops {
			r.Stops[k].Notes = notes(r.Stops[k].Notes)
		}
		r.Stops = append(r.Stops, aStop(7, weak(5, wordOf("spare"))), impl.Stop{})[:len(r.Stops)]
	}
	c.Rules = append(c.Rules, aRule("spare", weak(5, wordOf("spare"))), impl.Rule{})[:len(c.Rules)]
	c.Rows = append(c.Rows, aRow("spare", aStop(7, weak(5, wordOf("spare")))), impl.Row{})[:len(c.Rows)]
	return c
}

// withRoom is the same sheet with all that stands behind its lists.
func withRoom(s impl.Sheet) impl.Sheet {
	all := sheetOf(slices.Clone(s.Rules[:cap(s.Rules)]), slices.Clone(s.Rows[:cap(s.Rows)])...)
	for i, r := range all.Rules {
		p := slices.Clone(r.Pick[:cap(r.Pick)])
		for k, part := range p {
			p[k].Badges = slices.Clone(part.Badges[:cap(part.Badges)])
		}
		all.Rules[i] = impl.Rule{Pick: p, Notes: slices.Clone(r.Notes[:cap(r.Notes)])}
	}
	for i, r := range all.Rows {
		all.Rows[i].Stops = slices.Clone(r.Stops[:cap(r.Stops)])
		for k, stop := range all.Rows[i].Stops {
			all.Rows[i].Stops[k].Notes = slices.Clone(stop.Notes[:cap(stop.Notes)])
		}
	}
	return all
}

// TestSheetsStay: nothing is written into a sheet, nor into the room behind any list of it, whether it is right or not.
func TestSheetsStay(t *testing.T) {
	for _, s := range slices.Concat(fewSheets(), notSheets(), []impl.Sheet{sheetOfLength(4000), sheetOfLength(4001)}) {
		given := roomy(s)
		before := withRoom(given)
		for range 2 {
			is, text, row := impl.SheetOk(given), impl.ShowSheet(given), impl.RowOf(given, "a")
			if is != impl.SheetOk(s) || text != impl.ShowSheet(s) || row != impl.RowOf(s, "a") {
				t.Errorf("%s: another answer with room behind its lists", spell(s))
			}
		}
		wantRow(t, given, "spare", -1)
		if !sameSheet(withRoom(given), before) {
			t.Errorf("the sheet is now %s, was %s", spell(withRoom(given)), spell(before))
		}
	}
}
