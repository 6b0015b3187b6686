package syn_test

import (
	"math/rand"
	"regexp"
	"strings"
	"testing"

	"escapement/api"
	"escapement/lex"
	"escapement/syn"
)

// grammar is the document's, but that a name with a ( behind it is always a call (VAR: a name without): `merge c a (b)`
// lacks a prim.
const grammar = `
program = node { node } .
node    = "node" NAME "(" decls ")" "returns" "(" decls ")" ";" [ "var" [ vdecl { ";" vdecl } ] ";" ] "let" { eq } "tel" [ ";" ] .
decls   = [ decl { ";" decl } ] .
decl    = NAME { "," NAME } ":" ( "bool" | "int" ) .
vdecl   = decl [ "when" [ "not" ] NAME ] .
eq      = NAME "=" expr ";" .
expr    = arrow .
arrow   = or [ "->" arrow ] .
or      = and { ( "or" | "xor" ) and } .
and     = cmp { "and" cmp } .
cmp     = add [ ( "=" | "<>" | "<" | "<=" | ">" | ">=" ) add ] .
add     = mul { ( "+" | "-" ) mul } .
mul     = fby { ( "*" | "/" | "mod" ) fby } .
fby     = when [ "fby" fby ] .
when    = un { "when" [ "not" ] NAME } .
un      = ( "not" | "-" | "pre" ) un | prim .
prim    = NUMBER | "true" | "false" | VAR | NAME "(" [ expr { "," expr } ] ")" | "(" expr ")"
        | "if" expr "then" expr "else" expr | "merge" NAME prim prim .
`

// form is a piece of the grammar: it tells where in some words what fits it may end, if it begins at a place.
type form func(w *walk, at int) []int

// walk is a going through words, in all ways at once.
type walk struct {
	words []lex.Word
	far   int // the furthest word at which any way stood
	known map[string]map[int][]int
}

// rules reads the grammar.
func rules() map[string]form {
	r := map[string]form{}
	tokens := regexp.MustCompile(`"[^"]+"|[A-Za-z]+|[][{}()|.=]`).FindAllString(grammar, -1)
	for len(tokens) > 0 {
		name := tokens[0]
		f, left := choice(r, tokens[2:])
		r[name], tokens = f, left[1:]
	}
	return r
}

// choice reads one or more rows with | between.
func choice(r map[string]form, tokens []string) (form, []string) {
	one, tokens := row(r, tokens)
	if tokens[0] != "|" {
		return one, tokens
	}
	other, tokens := choice(r, tokens[1:])
	return func(w *walk, at int) []int { return union(one(w, at), other(w, at)) }, tokens
}

// row reads items, one behind the other.
func row(r map[string]form, tokens []string) (form, []string) {
	f := form(func(w *walk, at int) []int { return []int{at} })
	for !strings.Contains("|])}.", tokens[0]) {
		var next form
		next, tokens = item(r, tokens)
		first := f
		f = func(w *walk, at int) []int {
			var ends []int
			for _, end := range first(w, at) {
				ends = union(ends, next(w, end))
			}
			return ends
		}
	}
	return f, tokens
}

// item reads what is in brackets, a word, a sort of words or a rule's name.
func item(r map[string]form, tokens []string) (form, []string) {
	head := tokens[0]
	switch head {
	case "(", "[", "{":
		inner, left := choice(r, tokens[1:])
		return bracket(head, inner), left[1:]
	case "NAME", "VAR", "NUMBER":
		return word(func(w []lex.Word) bool {
			return w[0].Kind == 3 && head == "NUMBER" || w[0].Kind == 1 && (head == "NAME" || head == "VAR" && w[1].Text != "(")
		}), tokens[1:]
	}
	if head[0] == '"' {
		return word(func(w []lex.Word) bool { return w[0].Text == strings.Trim(head, `"`) }), tokens[1:]
	}
	return func(w *walk, at int) []int {
		if w.known[head] == nil {
			w.known[head] = map[int][]int{}
		}
		if _, ok := w.known[head][at]; !ok {
			w.known[head][at] = r[head](w, at)
		}
		return w.known[head][at]
	}, tokens[1:]
}

func bracket(head string, inner form) form {
	switch head {
	case "[":
		return func(w *walk, at int) []int { return union([]int{at}, inner(w, at)) }
	case "{":
		return func(w *walk, at int) []int {
			ends := []int{at}
			for i := 0; i < len(ends); i++ {
				ends = union(ends, inner(w, ends[i]))
			}
			return ends
		}
	}
	return inner
}

func word(fits func(w []lex.Word) bool) form {
	return func(w *walk, at int) []int {
		w.far = max(w.far, at)
		if w.words[at].Kind == 0 || !fits(w.words[at:]) {
			return nil
		}
		return []int{at + 1}
	}
}

// union is a and what of b is not in it.
func union(a, b []int) []int {
	for _, n := range b {
		has := false
		for _, m := range a {
			has = has || n == m
		}
		if !has {
			a = append(a[:len(a):len(a)], n)
		}
	}
	return a
}

// slowFault tells lex's fault, or the first word that fits nothing by the grammar.
func slowFault(r map[string]form, text string) api.Fault {
	words, f := lex.Cut(text)
	if f.Err != api.OK {
		return f
	}
	w := &walk{words: words, known: map[string]map[int][]int{}}
	for _, end := range r["program"](w, 0) {
		if words[end].Kind == 0 {
			return api.Fault{}
		}
		w.far = max(w.far, end)
	}
	return api.Fault{Err: api.ESYNTAX, At: words[w.far].At}
}

// checkSlow holds Parse against the grammar, for texts within the limits, and holds that what it told is told again.
func checkSlow(t *testing.T, r map[string]form, text string) {
	t.Helper()
	if want := slowFault(r, text); want.Err != api.OK {
		checkFault(t, "P5.2", text, want.Err, want.At)
		return
	}
	checkBack(t, parse(t, "P5.2", text))
}

// checkBack holds P5.3, and tells whether the way back was not refused.
func checkBack(t *testing.T, l []syn.Node) bool {
	t.Helper()
	text := syn.Show(l)
	m, f := syn.Parse(text)
	if f.Err == api.ELIMIT && len(m) == 0 {
		return false
	}
	if f != (api.Fault{}) || !syn.Same(l, m) || !syn.Same(m, l) || syn.Show(m) != text {
		t.Errorf("P5.3: Parse(%q): %s, %v", shown(text), dumpAll(m), f)
	}
	return true
}

// samples have all of the grammar.
var samples = []string{
	"node f ( x , y : int ; c : bool ) returns ( a : int ; b : bool ) ; var k : bool ; m , n : int when not c ; l : int when c ; let a = 1 ; b = true ; tel ; node g ( ) returns ( ) ; var ; let tel",
	"node f ( ) returns ( y : int ) ; let y = 0 -> pre x + ( 1 fby s ) * - 2 when c ; tel",
	"node f ( ) returns ( y : int ) ; let y = merge c ( x when c ) g ( 1 , a or b xor c ) when not c ; tel",
	"node f ( ) returns ( y : int ) ; let y = if not a = b and c < d then g ( ) else - pre x mod 2 fby 3 / 4 ; tel",
	"node f ( ) returns ( y : int ) ; let y = merge c a merge d 1 if a then b else false -> 1 - 2 >= 3 ; tel",
}

const keeps = "node returns var let tel bool int true false not and or xor mod if then else pre fby when merge"

// P5.2: programs of which a word is dropped, doubled, turned with the next, ended at, or another in its place or ahead of it.
func TestParseEveryOtherWord(t *testing.T) {
	r := rules()
	others := strings.Fields("( ) : ; , = + - * / < <= > >= <> -> x 7 " + keeps)
	for _, sample := range samples {
		checkSlow(t, r, sample)
		words := strings.Fields(sample)
		for k := range words {
			with := func(at int, more ...string) string {
				return strings.Join(words[:k], " ") + " " + strings.Join(append(more, words[min(at, len(words)):]...), " ")
			}
			checkSlow(t, r, with(len(words)))
			checkSlow(t, r, with(k+1))
			checkSlow(t, r, with(k, words[k]))
			checkSlow(t, r, with(k+1, words[min(k+1, len(words)-1)], words[k]))
			for _, other := range others {
				checkSlow(t, r, with(k, other))
				checkSlow(t, r, with(k+1, other))
			}
		}
	}
}

// P5.2: all expressions of a few words, of one word of each sort.
func TestParseEveryShortExpr(t *testing.T) {
	r := rules()
	texts := []string{""}
	for range 4 {
		var longer []string
		for _, text := range texts {
			for _, word := range strings.Fields("( ) , = - not -> fby when merge x 7") {
				longer = append(longer, text+word+" ")
			}
		}
		texts = longer
		for i, text := range texts {
			if len(texts) < 2000 || !testing.Short() || i%7 == 0 {
				checkSlow(t, r, ahead+text+behind)
			}
		}
	}
}

// P5.2: expressions of many words of the grammar, in any order: mostly where one may stand.
func TestParseLikeGrammar(t *testing.T) {
	r := rules()
	rnd := rand.New(rand.NewSource(5))
	begin := strings.Fields("( ( - not pre if merge x x 7 true f( f(")
	end := strings.Fields(") ) , + - * / = < -> fby or and when then else then else x (")
	for range 20000 {
		if t.Failed() {
			return
		}
		var text strings.Builder
		for range rnd.Intn(14) {
			from := begin
			if rnd.Intn(2) == 0 {
				from = end
			}
			text.WriteString(from[rnd.Intn(len(from))] + " ")
		}
		checkSlow(t, r, ahead+text.String()+behind)
	}
}

// P5.2, P5.3, R1: any bytes. What is refused by a limit fits the grammar up to there.
func FuzzParse(f *testing.F) {
	for _, text := range append(samples, "", "node", ahead+"((1))"+behind, ahead+"- - -1 + 1 when not x"+behind) {
		f.Add(text)
	}
	r := rules()
	f.Fuzz(func(t *testing.T, text string) {
		if len(text) > 2000 {
			return
		}
		want := slowFault(r, text)
		if _, fault := syn.Parse(text); fault.Err == api.ELIMIT {
			if want.Err != api.OK && want.At < fault.At {
				t.Errorf("P5.2: Parse(%q): %v, and %v is ahead of it", text, fault, want)
			}
			return
		}
		checkSlow(t, r, text)
	})
}
