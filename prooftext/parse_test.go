package prooftext_test

import (
	"math/rand/v2"
	"strings"
	"testing"

	"saturate/api"
	"saturate/enum"
	"saturate/opinfo"
	"saturate/proof"
	"saturate/prooftext"
	"saturate/term"
)

// first is a step to which others may refer.
const first = "(refl () x:8)"

// TestParse checks P36.2 for proofs, whatever the blanks and comments are.
func TestParse(t *testing.T) {
	five := strings.Repeat(first+"\n", 5)
	for _, x := range steps(t) {
		for _, s := range []string{five + x.line, five + x.line + "\n", strings.NewReplacer("(", "\t( ", ")", "\r\n)", " ", " ; a comment (\n").Replace(five + x.line)} {
			p, at, e := prooftext.Parse(s)
			if at != 0 || e != api.OK || len(p) != 6 || !proof.Same(p[5:], []api.Step{x.step}) || p[0].Kind != api.StepRefl || !term.Same(p[4].A, read(t, "x:8")) {
				t.Errorf("%s: %v, %d, %d", x.line, p, at, e)
			}
		}
	}
	// A name may be any atom.
	p, at, e := prooftext.Parse("(rule () 0 ((? x:8) (A!:8 y:8) (-1 1:8)))")
	if at != 0 || e != api.OK || !proof.Same(p, []api.Step{use(t, 0, []string{"?", "x:8", "A!:8", "y:8", "-1", "1:8"})}) {
		t.Error(p, at, e)
	}
	// Terms may be patterns, which termtext.Read accepts, too.
	p, at, e = prooftext.Parse("(top () (add ?a:0 #c:0))")
	if at != 0 || e != api.OK || !proof.Same(p, []api.Step{about(t, api.StepTop, "(add ?a:0 #c:0)")}) {
		t.Error(p, at, e)
	}
}

// forms are s-expressions that do not have the form of a line, although they may have further errors.
var forms = []string{
	"x", "refl", "()", "(())", "(refl)", "(x)", "(())", "(x () x:8)", "(Refl () x:8)", "(reflx () x:8)", "(() () x:8)", "((refl) () x:8)", "(() refl () x:8)", "(13 () x:8)", "(1 () x:8)", "(? ())", "(cut ())",
	// the number of elements
	"(refl ())", "(refl () x:8 x:8)", "(refl () X:8 x:8)", "(refl x:8)", "(sym)", "(sym (0) x:8)", "(sym 0)", "(trans (0 0) 0)", "(trans 0 0)", "(cong ())", "(cong () x:8)", "(cong () x:8 y:8 x:8)", "(cong () X:8)", "(rule ())", "(rule () 0)", "(rule () 0 () ())", "(rule () ())", "(rule 0 ())", "(fold ())", "(fold () 1:8 1:8)", "(top ())", "(top () x:8 x:8)", "(node ())", "(node () x:8 x:8)", "(meet)", "(meet (0 0) x:8)", "(move)", "(move (0 0) ())", "(single)", "(single (0) 0)", "(given)", "(given ())", "(given 0)", "(given () 0 0)",
	// Refs
	"(refl x x:8)", "(refl 0 x:8)", "(refl (x) x:8)", "(refl (()) x:8)", "(refl (0 x) x:8)", "(sym (+0))", "(sym (00))", "(sym (-0))", "(sym (0x0))", "(sym (01))", "(sym (0:1))", "(sym ((0)))", "(sym (9223372036854775808))", "(sym (-9223372036854775809))", "(trans (0 ()))", "(trans (() 0))", "(cong (x) x:8 y:8)", "(rule (x) 0 ())", "(given (x) 0)", "(meet (0 1.0))", "(move (0, 0))", "(single (x))",
	// Rule
	"(rule () x ())", "(rule () () ())", "(rule () +1 ())", "(rule () 01 ())", "(rule () 9223372036854775808 ())", "(rule () (0) ())", "(given () x)", "(given () ())", "(given () -0)", "(given () 0x1)", "(given () (1))", "(given () 99999999999999999999)",
	// Subs
	"(rule () 0 x)", "(rule () 0 a:8)", "(rule () 0 (a))", "(rule () 0 (a x:8))", "(rule () 0 (()))", "(rule () 0 ((a)))", "(rule () 0 ((a x:8 x:8)))", "(rule () 0 ((() x:8)))", "(rule () 0 (((a) x:8)))", "(rule () 0 ((a x:8) b))", "(rule () 0 ((a x:8) (b)))", "(rule () 0 ((a X:8) (b)))", "(rule () 0 ((a X:8) (b X:8 x:8)))", "(rule () 0 ((a x:8) () (b x:8)))",
}

// TestParseForm checks the first error of P36.2 that concerns a single s-expression.
func TestParseForm(t *testing.T) {
	for _, s := range forms {
		for before, text := range []string{s, first + s, "(sym (5))" + first + s} {
			for _, after := range []string{"", first, "(top () X:8)", "()"} {
				if p, at, e := prooftext.Parse(text + after); at != before || e != api.ErrParse || len(p) != 0 {
					t.Errorf("%s: %v, %d, %d", text+after, p, at, e)
				}
			}
		}
	}
}

// TestParseTerms checks the errors of terms in P36.2.
func TestParseTerms(t *testing.T) {
	for _, x := range []struct {
		s  string
		at int
		e  api.Errno
	}{
		{"(refl () x)", 0, api.ErrParse}, {"(refl () ())", 0, api.ErrParse}, {"(refl () X:8)", 0, api.ErrName}, {"(fold () 1:65)", 0, api.ErrRange}, {"(top () 256:8)", 0, api.ErrWidth}, {"(node () (add x:8 y:4))", 0, api.ErrWidth}, {first + "(node (0) (add x:8))", 1, api.ErrParse},
		// the first term that has an error
		{"(cong () X:8 (add x:8 y:4))", 0, api.ErrName}, {"(cong () (add x:8 y:4) X:8)", 0, api.ErrWidth}, {"(cong () x:8 X:8)", 0, api.ErrName}, {"(cong () x:8 ())", 0, api.ErrParse}, {"(rule () 0 ((a x:65)))", 0, api.ErrRange}, {"(rule () 0 ((a x:8) (b X:8) (c x:65)))", 0, api.ErrName}, {"(rule () 0 ((a x:65) (b X:8)))", 0, api.ErrRange}, {"(rule () 0 ((a x:8) (b x:8) (c 2:1)))", 0, api.ErrWidth},
		// the first s-expression that has an error
		{first + "(refl () X:8) (refl () x:65)", 1, api.ErrName}, {first + first + "(refl () x:65) (refl () X:8)", 2, api.ErrRange}, {"(refl () X:8) ()", 0, api.ErrName}, {"() (refl () X:8)", 0, api.ErrParse}, {first + "(top () x:65) x", 1, api.ErrRange},
	} {
		if p, at, e := prooftext.Parse(x.s); at != x.at || e != x.e || len(p) != 0 {
			t.Errorf("%s: %v, %d, %d", x.s, p, at, e)
		}
	}
}

// TestParseWhole checks the errors of P36.2 that concern the whole text: those of sexpr.ParseAll before all others, and those of proof.Check after them.
func TestParseWhole(t *testing.T) {
	long := strings.Repeat(" ", api.MaxText-len(first)) + first
	deep := func(depth int) string {
		return "(refl () " + strings.Repeat("(not ", depth-2) + "x:8" + strings.Repeat(")", depth-2) + ")"
	}
	for i, x := range []struct {
		s  string
		at int
		e  api.Errno
	}{
		{long, 0, api.OK}, {" " + long, 0, api.ErrLong}, {deep(64), 0, api.OK}, {deep(65), len("(refl () (") + 5*62, api.ErrLong}, {"(refl () x:8", 12, api.ErrParse}, {first + ")", 13, api.ErrParse}, {first + " \x7f", 14, api.ErrParse}, {"() (refl () X:8) (", 18, api.ErrParse},
		{"", 0, api.ErrNone}, {" ; " + first, 0, api.ErrNone}, {"(sym (0))", 0, api.ErrStep}, {first + "(sym (0))", 0, api.OK}, {first + "(sym (1))", 1, api.ErrStep}, {first + "(sym (-1))", 1, api.ErrStep}, {first + "(sym ())", 1, api.ErrStep}, {first + "(sym (0 0))", 1, api.ErrStep}, {"(refl (0) x:8)", 0, api.ErrStep}, {first + "(given (0) 1)", 1, api.ErrStep}, {first + "(cong (0) x:8 (not x:8))", 1, api.ErrStep}, {first + "(cong (0) (not x:8) x:8)", 0, api.OK}, {first + "(node () (not x:8))", 1, api.ErrStep},
		{first + "(sym (9)) (sym (0)) (trans (0))", 1, api.ErrStep}, {first + "(sym (9)) (sym (0)) (trans 0)", 3, api.ErrParse}, {first + "(sym (9)) (top () X:8)", 2, api.ErrName}, {first + "(rule (" + strings.Repeat("0 ", 13) + ") 0 ())", 1, api.ErrStep},
	} {
		if p, at, e := prooftext.Parse(x.s); at != x.at || e != x.e || (e == api.OK) != (len(p) > 0) {
			t.Errorf("case %d: %v, %d, %d, not %d, %d", i, p, at, e, x.at, x.e)
		}
	}
}

// terms returns small terms with all operators.
func terms(t *testing.T) []api.Term {
	t.Helper()
	g := api.Grammar{Vars: []api.Var{{Name: "x", Width: 2}, {Name: "long_name_9", Width: 3}}, Consts: []api.Word{{Width: 2, Val: 3}}, Size: 4, Most: 2000}
	for op := api.OpNot; op <= api.OpConcat; op++ {
		g.Ops = append(g.Ops, op)
	}
	l, whole := enum.Terms(g)
	if len(l) == 0 {
		t.Fatal(whole)
	}
	for _, s := range []string{"(zext 7 x:2)", "(extract 1 2 x:8)", "(sext 64 (ite b:1 x:2 (not y:2)))", "(ite b:1 x:2 y:2)", "18446744073709551615:64"} {
		l = append(l, read(t, s))
	}
	return l
}

// randomProof returns a proof that proof.Check accepts and whose unused fields are zero.
func randomProof(r *rand.Rand, l []api.Term) []api.Step {
	var p []api.Step
	for at := range 1 + r.IntN(20) {
		some := func() api.Term { return l[r.IntN(len(l))] }
		s := api.Step{Kind: 1 + r.IntN(12)}
		least, most := proof.Refs(s.Kind)
		switch s.Kind {
		case api.StepRule:
			s.Rule = r.IntN(2000) - 1000
			for range r.IntN(4) {
				s.Subs = append(s.Subs, api.Sub{Name: []string{"a", "b2", "rule", "c_"}[r.IntN(4)], Term: some()})
			}
		case api.StepGiven:
			s.Rule = r.IntN(2000) - 1000
		case api.StepCong, api.StepNode:
			s.A = some()
			least, most = len(s.A.Args), len(s.A.Args)
			if s.Kind == api.StepCong {
				s.B = some()
			}
		case api.StepRefl, api.StepFold, api.StepTop:
			s.A = some()
		}
		refs := least + r.IntN(most-least+1)
		if at == 0 && refs > 0 {
			s, refs = api.Step{Kind: api.StepGiven}, 0
		}
		for range refs {
			s.Refs = append(s.Refs, r.IntN(at))
		}
		p = append(p, s)
	}
	return p
}

// TestInverse checks P36.4: Parse inverts Print, and what it returns is printed and parsed again without a change.
func TestInverse(t *testing.T) {
	r := rand.New(rand.NewPCG(36, 4))
	l := terms(t)
	seen := map[api.Op]bool{}
	for _, x := range l {
		seen[x.Op] = true
	}
	for op := api.OpVar; op <= api.OpSext; op++ {
		if !seen[op] {
			t.Error("no term with", opinfo.Name(op))
		}
	}
	kinds := map[int]int{}
	for range 3000 {
		p := randomProof(r, l)
		s := prooftext.Print(p)
		q, at, e := prooftext.Parse(s)
		if at != 0 || e != api.OK || !proof.Same(p, q) {
			t.Fatalf("%s: %v, %d, %d", s, q, at, e)
		}
		if again := prooftext.Print(q); again != s {
			t.Fatalf("%s, not %s", again, s)
		}
		for k, step := range p {
			kinds[step.Kind]++
			if line := strings.Split(s, "\n")[k]; line != prooftext.Line(step) {
				t.Fatal(line)
			}
		}
	}
	for kind := 1; kind <= 12; kind++ {
		if kinds[kind] < 500 {
			t.Error(kind, kinds[kind])
		}
	}
}

// TestMangled checks that Parse returns for texts of all sorts, and that what it returns is the same when it is printed and parsed again (P36.4).
func TestMangled(t *testing.T) {
	r := rand.New(rand.NewPCG(36, 5))
	l := terms(t)
	accepted, refused := 0, 0
	for range 20000 {
		s := []byte(prooftext.Print(randomProof(r, l)[:1]) + prooftext.Print(randomProof(r, l)))
		for range r.IntN(3) {
			k := r.IntN(len(s))
			switch r.IntN(3) {
			case 0:
				s[k] = "() 01ax:;\n\x80"[r.IntN(11)]
			case 1:
				s = append(s[:k], s[k+1:]...)
			case 2:
				s = append(s[:k], append([]byte{"() 01ax:;\n\x80"[r.IntN(11)]}, s[k:]...)...)
			}
		}
		p, at, e := prooftext.Parse(string(s))
		if e != api.OK {
			refused++
			if len(p) != 0 || at < 0 || at > len(s) {
				t.Fatalf("%s: %v, %d", s, p, at)
			}
			continue
		}
		accepted++
		if q, at, e := prooftext.Parse(prooftext.Print(p)); at != 0 || e != api.OK || !proof.Same(p, q) {
			t.Fatalf("%s: %v, %d, %d", s, q, at, e)
		}
	}
	if accepted < 2000 || refused < 2000 {
		t.Error(accepted, refused)
	}
}
