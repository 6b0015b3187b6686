package mean_test

import (
	"strconv"
	"strings"
	"testing"

	"escapement/api"
	"escapement/mean"
	"escapement/syn"
)

// holdRefused holds that rows are refused, by Run and by Text.
func holdRefused(t *testing.T, text string, in []api.Row, want api.Errno) {
	t.Helper()
	if out, e := mean.Run(program(t, text), in); e != want || len(out) != 0 {
		t.Errorf("P12.1: Run(%.300q) of %v: %v, %v, want %v", text, in, e, out, want)
	}
	if out, f := mean.Text(text, in); f != (api.Fault{Err: want}) || len(out) != 0 {
		t.Errorf("P12.1: Text(%.300q) of %v: %v at %d, %v, want %v", text, in, f.Err, f.At, out, want)
	}
}

// P12.1: EARG, if there are no nodes, or a row, whichever, does not fit the main node's inputs.
func TestRefusedRows(t *testing.T) {
	for _, none := range [][]syn.Node{nil, {}, program(t, one("x"))[:0]} {
		for _, in := range [][]api.Row{nil, {}, {nil}, {{1, 0}}} {
			if out, e := mean.Run(none, in); e != api.EARG || len(out) != 0 {
				t.Errorf("P12.1: Run of no nodes: %v, %v", e, out)
			}
		}
	}
	good := api.Row{1, 0}
	for _, bad := range []api.Row{nil, {}, {1}, {1, 0, 0}, {1, 2}, {0, -1}, {1, 1 << 32}, {1, 256}, {0, 1, 0, 1}} {
		for _, in := range [][]api.Row{{bad}, {bad, good}, {good, bad}, {good, good, bad}, {good, bad, good}, {bad, bad}} {
			holdRefused(t, one("x"), in, api.EARG)
		}
	}
	none := "node f() returns (y: int); let y = 1; tel"
	holdRefused(t, none, []api.Row{{1}}, api.EARG)
	holdRefused(t, none, []api.Row{{}, nil, {0}}, api.EARG)
	hold(t, none, ";", "1;1")
	if out, e := mean.Run(program(t, none), []api.Row{nil, {}}); e != api.OK || written(out) != "1;1" {
		t.Errorf("R4: Run of no values: %v, %v", e, out)
	}
}

// P12.1: it is the main node's inputs that rows must fit, which is the last one.
func TestRefusedByTheMainNode(t *testing.T) {
	l := program(t, "node a(x: bool) returns (y: bool); let y = x; tel node b(x: int; c: bool) returns (y: int); let y = x; tel node d() returns (y: int); let y = 3; tel")
	for size, want := range map[int]string{1: "1", 2: "2 1", 3: ""} {
		for _, in := range []string{"", "1", "2", "2 1", "2 2"} {
			out, e := mean.Run(l[:size], rows(in))
			fits := in == want
			if fits != (e == api.OK) || !fits && (e != api.EARG || len(out) != 0) || fits && len(out) != 1 {
				t.Errorf("P12.1: Run of %d nodes of %q: %v, %v", size, in, e, out)
			}
		}
	}
}

// P12.1: without rows there is nothing to tell.
func TestNoRows(t *testing.T) {
	for _, in := range [][]api.Row{nil, {}} {
		if out, e := mean.Run(program(t, one("0 fby x")), in); e != api.OK || len(out) != 0 {
			t.Errorf("P12.1: Run of no rows: %v, %v", e, out)
		}
		if out, f := mean.Text(one("0 fby x"), in); f != (api.Fault{}) || len(out) != 0 {
			t.Errorf("P12.1: Text of no rows: %v, %v", f, out)
		}
	}
}

// P12.1: Text tells front's fault, where it is, whatever the rows are.
func TestFaultsOfTexts(t *testing.T) {
	for marked, err := range map[string]api.Errno{
		"^": api.ESYNTAX, one("x ^x"): api.ESYNTAX, one("^q"): api.ENAME, one("x ^+ c"): api.ETYPE, one("x ^+ (x when c)"): api.ECLOCK, one("0 -> ^pre pre x"): api.EINIT,
		"node f(x: int; c: bool) returns (y: int); let ^y = y; tel": api.ECAUSE, one(strings.Repeat("(", api.MaxDepth) + "^x"): api.ELIMIT, strings.Repeat(" ", api.MaxText+1) + "^": api.ELIMIT,
		one("x") + " ^" + one("x"): api.ENAME,
	} {
		want := api.Fault{Err: err, At: strings.Index(marked, "^")}
		for _, in := range [][]api.Row{nil, {{1, 0}}, {{1}}, {{1, 2}}} {
			if out, f := mean.Text(strings.ReplaceAll(marked, "^", ""), in); f != want || len(out) != 0 {
				t.Errorf("P12.1: Text(%.300q): %v at %d, %v, want %v at %d", marked, f.Err, f.At, out, want.Err, want.At)
			}
		}
	}
}

// calls are so many calls of a node without inputs, one behind the other.
func calls(name string, count int) string {
	return "0" + strings.Repeat(" + "+name+"()", count)
}

// sized has nodes without inputs of so many equations: n1, n2 (a call's), n9 (of its own), n98 (with those of its calls).
const sized = "node n1() returns (y: int); let y = 1; tel node n2() returns (y: int); let y = n1(); tel " +
	"node n9() returns (y: int); var a, b, d, e, g, h, i, j: int; let y = 1; a = y; b = a; d = b; e = d; g = e; h = g; i = h; j = i; tel " +
	"node n98() returns (y: int); var a: int; let a = n9() + n9() + n9() + n9() + n9() + (0 fby n9()); y = a + n9() + n9() + (0 -> pre (n9() + 0)) + n9() + n2() + n2() + n2(); tel "

// P12.1: MaxEqs equations are no more than may be, one more is; each place of a call counts, wherever it stands.
func TestLimit(t *testing.T) {
	// With the main node's own two equations, ten times n98 and the other place's one they are 983; with so many of n1 they
	// are at the limit.
	const left = api.MaxEqs - 983
	for _, place := range []string{
		"#", "- #", "0 -> pre #", "# fby 0", "0 fby #", "# -> 0", "0 -> #", "(if c then # else 0)", "(if c then 0 else #)", "(if # = 1 then 0 else 1)", "n(#, 0)", "n(0, #)", "(0 fby n(0, 0 -> pre #))",
		"(merge c (# when c) 0)", "(merge c 0 ((1 + #) when not c))", "(merge c (0 -> pre (0 fby #)) 0)", "(0 fby 0 fby 0 fby (0 -> 0 -> # * 0))",
	} {
		ahead, e := sized+"node n(a, b: int) returns (y: int); let y = a; tel ", strings.ReplaceAll(place, "#", "n1()")
		others := left - strings.Count(e, "n(")
		for more, want := range []api.Errno{api.OK, api.ELIMIT, api.ELIMIT} {
			text := ahead + "node f(x: int; c: bool) returns (y, z: int); let y = " + calls("n98", 10) + " + (" + e + "); z = " + calls("n1", others+more) + "; tel"
			if want == api.OK {
				if out, f := mean.Text(text, rows("1 0;2 1")); f != (api.Fault{}) || len(out) != 2 {
					t.Errorf("P12.1: Text of as many equations as may be, with %s: %v at %d", place, f.Err, f.At)
				}
				continue
			}
			holdRefused(t, text, rows("1 0;2 1"), want)
			holdRefused(t, text, nil, want)
		}
	}
}

// P12.1: those of the main node are counted, and of whom it calls, in some calls or none; nobody else's.
func TestWhoIsCounted(t *testing.T) {
	l := program(t, sized+"node big() returns (y: int); let y = "+calls("n98", 11)+"; tel node f() returns (y: int); let y = n98() + n1(); tel node g() returns (y: int); let y = f(); tel node h() returns (y: int); let y = 0 fby big(); tel node i() returns (y: int); let y = 5; tel")
	for size, want := range []api.Errno{api.EARG, api.OK, api.OK, api.OK, api.OK, api.ELIMIT, api.OK, api.OK, api.ELIMIT, api.OK} {
		if out, e := mean.Run(l[:size], rows(";")); e != want || len(out) != 2*truth(e == api.OK) {
			t.Errorf("P12.1: Run of %d nodes: %v, want %v", size, e, want)
		}
	}
}

func truth(is bool) int {
	if is {
		return 1
	}
	return 0
}

// P12.1, R6: of both errors it is EARG.
func TestRefusedRowsAheadOfTheLimit(t *testing.T) {
	text := sized + one(calls("n98", 11))
	holdRefused(t, text, rows("1 0"), api.ELIMIT)
	for _, in := range []string{"1", "1 2", "1 0;1 -1", "1 0 0"} {
		holdRefused(t, text, rows(in), api.EARG)
	}
}

// P12.1, R1: nodes that call the one ahead many times have more equations than any number holds, and are refused at once.
func TestManyEquations(t *testing.T) {
	for _, times := range []int{2, 3, 64, 149} {
		text := "node a0() returns (y: int); let y = 1; tel "
		sum := 1
		for k := 1; k < api.MaxNodes; k++ {
			if len(text)+8*times > api.MaxText-200 {
				break
			}
			text += "node a" + strconv.Itoa(k) + "() returns (y: int); let y = " + calls("a"+strconv.Itoa(k-1), times) + "; tel "
			sum = min(1+times*sum, api.MaxEqs+1)
			want := api.OK
			if sum > api.MaxEqs {
				want = api.ELIMIT
			}
			if out, e := mean.Run(program(t, text), rows("")); e != want || len(out) != truth(e == api.OK) {
				t.Errorf("P12.1: Run of %d nodes that call %d times: %v, want %v", k+1, times, e, want)
			}
		}
	}
}
