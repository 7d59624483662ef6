package lower_test

import (
	"math/rand/v2"
	"slices"
	"strconv"
	"testing"

	"saturate/api"
	"saturate/bits"
	"saturate/eval"
	"saturate/exec"
	"saturate/isa"
	"saturate/lift"
	"saturate/live"
	"saturate/lower"
	"saturate/term"
)

// source makes random values and flags, and collects divisors that are safe.
type source struct {
	*rand.Rand
	width, regs int
	pool        []api.Term // values that were made before, some of which occur again
	safe        []api.Term
}

func (s *source) leaf() api.Term {
	if s.IntN(3) == 0 {
		return term.Const(s.width, s.Uint64()>>s.IntN(64))
	}
	return lift.Var(s.width, s.IntN(s.regs))
}

// divisor returns a divisor, which is safe or is certainly not 0.
func (s *source) divisor(depth int) api.Term {
	t := s.value(depth)
	switch s.IntN(3) {
	case 0:
		return term.Make(api.OpOr, t, term.Const(s.width, 1))
	case 1:
		return term.Const(s.width, max(1, bits.Cut(s.width, s.Uint64())))
	}
	s.safe = append(s.safe, t)
	return t
}

// value returns a value, of at most the given depth apart from that of repeated parts.
func (s *source) value(depth int) api.Term {
	if len(s.pool) > 0 && s.IntN(4) == 0 {
		return s.pool[s.IntN(len(s.pool))]
	}
	if depth <= 1 || s.IntN(8) == 0 {
		return s.leaf()
	}
	t := s.operator(depth)
	if term.Depth(t) > 12 || term.Size(t) > 400 {
		return s.leaf()
	}
	s.pool = append(s.pool, t)
	return t
}

func (s *source) operator(depth int) api.Term {
	switch op := api.Op(3 + s.IntN(18)); op {
	case api.OpNot, api.OpNeg:
		return term.Make(op, s.value(depth-1))
	case api.OpUdiv, api.OpUrem:
		return term.Make(op, s.value(depth-1), s.divisor(depth-1))
	case api.OpIte, api.OpSlt:
		return term.Make(api.OpIte, s.flag(depth-1), s.value(depth-1), s.value(depth-1))
	case api.OpEq, api.OpUlt, api.OpConcat:
		return api.Term{Op: api.OpZext, Width: s.width, Args: []api.Term{s.flag(depth - 1)}}
	default:
		return term.Make(op, s.value(depth-1), s.value(depth-1))
	}
}

func (s *source) flag(depth int) api.Term {
	if depth <= 1 {
		return term.Const(1, s.Uint64())
	}
	switch op := api.Op(3 + s.IntN(20)); op {
	case api.OpNot:
		return term.Make(op, s.flag(depth-1))
	case api.OpAnd, api.OpOr, api.OpXor:
		return term.Make(op, s.flag(depth-1), s.flag(depth-1))
	case api.OpIte:
		return term.Make(op, s.flag(depth-1), s.flag(depth-1), s.flag(depth-1))
	case api.OpConcat:
		return term.Make(api.OpEq, s.flag(depth-1), s.flag(depth-1))
	case api.OpUlt, api.OpSlt:
		return term.Make(op, s.value(depth-1), s.value(depth-1))
	case api.OpExtract:
		return term.Make(api.OpEq, term.Const(s.width, 0), s.value(depth-1))
	}
	return term.Make(api.OpEq, s.value(depth-1), s.value(depth-1))
}

// checkCode checks the promises of P52.2 and P52.4 for a program that Run has returned.
func checkCode(t *testing.T, r *rand.Rand, c api.Code, w, regs int, terms []api.Term, out []int, safe []api.Term) {
	t.Helper()
	if _, e := isa.Check(c); e != api.OK || c.Width != w || c.Regs != regs || !slices.Equal(c.Out, out) {
		t.Fatalf("%s%d for %v", isa.Print(c), e, terms)
	}
	if d, _ := live.Remove(c); !isa.Same(c, d) {
		t.Fatalf("%shas dead instructions", isa.Print(c))
	}
	if n := lower.Values(terms); len(c.Ins) > 4*n+2*len(terms) {
		t.Fatalf("%d instructions for %d values and %d terms", len(c.Ins), n, len(terms))
	}
	checkOnce(t, c)
	for k := range 20 {
		state := make([]uint64, regs)
		for reg := range state {
			state[reg] = bits.Cut(w, r.Uint64()>>r.IntN(64))
			if k < 2 {
				state[reg] = uint64(k)
			}
		}
		env := lift.Env(c, state)
		if slices.ContainsFunc(safe, func(x api.Term) bool { val, _ := eval.Eval(x, env); return val == 0 }) {
			continue
		}
		outs, e := exec.Outs(c, state)
		for i, x := range terms {
			if val, f := eval.Eval(x, env); e != api.OK || f != api.OK || outs[i] != val {
				t.Fatalf("%sfor %v and %v: %v, %d", isa.Print(c), terms, state, outs, e)
			}
		}
	}
}

// checkOnce checks that no value is computed twice, apart from consts (P52.4).
func checkOnce(t *testing.T, c api.Code) {
	t.Helper()
	numbers := map[string]int{}
	var held [api.MaxRegs]int // the numbers of values
	for r := range held {
		held[r] = -1 - r
	}
	for _, i := range c.Ins {
		key := isa.Name(i.Op) + strconv.FormatUint(i.Imm, 10)
		for _, r := range isa.Uses(i) {
			key += " " + strconv.Itoa(held[r])
		}
		n, seen := numbers[key]
		switch {
		case i.Op == api.MMov:
			n = held[i.A]
		case seen && i.Op != api.MMovi:
			t.Fatalf("%scomputes a value twice", isa.Print(c))
		case !seen:
			n = len(numbers)
			numbers[key] = n
		}
		held[i.Dst] = n
	}
}

// TestRandom checks P52.1, P52.2 and P52.4 for random terms.
func TestRandom(t *testing.T) {
	r := rand.New(rand.NewPCG(52, 1))
	counts := map[api.Errno]int{}
	for k := range 6000 {
		s := &source{Rand: r, width: []int{1, 2, 3, 8, 64}[r.IntN(5)], regs: 1 + r.IntN(8)}
		var terms []api.Term
		for range r.IntN(s.regs + 1) {
			terms = append(terms, s.value(1+r.IntN(2+k%4)))
		}
		out := r.Perm(s.regs)[:len(terms)]
		for _, x := range terms {
			if e := lower.Supported(s.width, s.regs, x, s.safe); e != api.OK {
				t.Fatalf("%v is not supported: %d", x, e)
			}
		}
		c, e := lower.Run(s.width, s.regs, terms, out, s.safe)
		counts[e]++
		if e == api.OK {
			checkCode(t, r, c, s.width, s.regs, terms, out, s.safe)
		} else if !none(c) || e != api.ErrReg && e != api.ErrLong || e == api.ErrReg && lower.Values(terms)+len(terms)+2 <= s.regs {
			t.Fatalf("Run of %v with %d registers is %d", terms, s.regs, e)
		}
	}
	if counts[api.OK] < 2000 || counts[api.ErrReg] < 500 {
		t.Error(counts)
	}
}

// TestRandomFlags checks Flag of P52.1 for random flags and values, also for such with safe divisors, which do not count.
func TestRandomFlags(t *testing.T) {
	r := rand.New(rand.NewPCG(52, 4))
	counts := map[bool]int{}
	for range 5000 {
		s := &source{Rand: r, width: 1 + r.IntN(8), regs: 8}
		x := s.flag(1 + r.IntN(4))
		zext := api.Term{Op: api.OpZext, Width: s.width, Args: []api.Term{x}}
		want := lower.Supported(s.width, 8, zext, nil) == api.OK
		if lower.Flag(x) != want || len(s.safe) == 0 && !want {
			t.Fatalf("Flag of %v is %v", x, !want)
		}
		if y := s.value(4); lower.Flag(y) && s.width > 1 {
			t.Fatalf("%v is a flag", y)
		}
		counts[want]++
	}
	if counts[true] < 1000 || counts[false] < 100 {
		t.Error(counts)
	}
}

// TestFewValues checks that registers suffice for few values (P52.2), also for terms that occur several times.
func TestFewValues(t *testing.T) {
	r := rand.New(rand.NewPCG(52, 2))
	full := 0
	for range 60000 {
		regs := 3 + r.IntN(6)
		s := &source{Rand: r, width: []int{1, 8}[r.IntN(2)], regs: regs}
		var terms []api.Term
		for range 1 + r.IntN(3) {
			terms = append(terms, s.value(1+r.IntN(4)))
		}
		left := regs - lower.Values(terms) - len(terms) - 2
		if left < 0 {
			continue
		}
		if left == 0 {
			full++
		}
		out := r.Perm(regs)[:len(terms)]
		c, e := lower.Run(s.width, regs, terms, out, s.safe)
		if e != api.OK {
			t.Fatalf("Run of %v with %d registers is %d", terms, regs, e)
		}
		checkCode(t, r, c, s.width, regs, terms, out, s.safe)
	}
	if full < 1000 {
		t.Error("there were only", full, "cases without a register too many")
	}
}

// TestPrograms checks that programs without dead instructions are rarely longer after they were lifted and lowered, and keep their meaning.
func TestPrograms(t *testing.T) {
	r := rand.New(rand.NewPCG(52, 3))
	longer, fails, all := 0, 0, 0
	before, after := 0, 0 // instructions
	for range 3000 {
		c := api.Code{Width: 1 + r.IntN(4), Regs: 1 + r.IntN(8)}
		for range 1 + r.IntN(12) {
			i := api.Ins{Op: api.MOp(1 + r.IntN(19)), Dst: r.IntN(c.Regs)}
			for k, field := range []*int{&i.A, &i.B, &i.C} {
				if k < isa.Sources(i.Op) {
					*field = r.IntN(c.Regs)
				}
			}
			if i.Op == api.MMovi {
				i.Imm = r.Uint64N(1 << c.Width)
			}
			c.Ins = append(c.Ins, i)
		}
		c.Out = r.Perm(c.Regs)[:1+r.IntN(c.Regs)]
		c, _ = live.Remove(c)
		terms, _, e := lift.Run(c)
		divisors, _ := lift.Divisors(c)
		if e != api.OK {
			continue
		}
		all++
		d, e := lower.Run(c.Width, c.Regs, terms, c.Out, divisors)
		switch {
		case e != api.OK:
			fails++
			continue
		case len(d.Ins) > len(c.Ins):
			longer++
		}
		before, after = before+len(c.Ins), after+len(d.Ins)
		checkCode(t, r, d, c.Width, c.Regs, terms, c.Out, divisors)
	}
	// No promise says so, but other orders or registers would need more instructions.
	if all < 2900 || fails > 30 || longer > 5 || 1000*after > 962*before {
		t.Errorf("%d programs, %d longer, %d not lowered, %d instructions instead of %d", all, longer, fails, after, before)
	}
}
