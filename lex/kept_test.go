package lex_test

import (
	"strings"
	"testing"

	"escapement/lex"
)

// P4: the names that are kept, in Kept and in Cut.
func TestKeptNames(t *testing.T) {
	all := strings.Fields(keeps)
	if len(all) != 21 {
		t.Fatalf("%d names are kept here", len(all))
	}
	for _, s := range all {
		if !lex.Kept(s) {
			t.Errorf("P4: Kept(%s): false", s)
		}
		checkCut(t, "P4.1", s, lex.Word{Kind: kept, Text: s})
		checkCut(t, "P4.1", "1"+s+"+", lex.Word{Kind: number, Text: "1", N: 1}, lex.Word{Kind: kept, Text: s, At: 1},
			lex.Word{Kind: sign, Text: "+", At: 1 + len(s)})
	}
}

// P4: what is near a kept name is not kept.
func TestKeptNoOther(t *testing.T) {
	for _, s := range strings.Fields(keeps) {
		for _, other := range []string{s + "x", s + "_", s + "0", "x" + s, s[1:], s[:len(s)-1], s + s, strings.ToUpper(s), strings.ToUpper(s[:1]) + s[1:],
			s + " ", " " + s, s + "\x00", s + "\n", s[:1] + "\xff" + s[1:]} {
			if lex.Kept(other) && other != "or" && other != "xor" {
				t.Errorf("P4: Kept(%q): true", other)
			}
		}
	}
	for _, s := range append(strings.Fields(signs), "", " ", "x", "while", "0", "1", "none", "nod", "do", "\xff", strings.Repeat("node", 5000), keeps, "node returns") {
		if lex.Kept(s) {
			t.Errorf("P4: Kept(%q): true", shown(s))
		}
	}
}
