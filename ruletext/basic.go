package ruletext

// basic is the text of the basic rules. They hold at every width. Beside those that
// the document names there are only rules whose right sides are not larger than their
// left sides, so that they hardly let e-graphs grow.
const basic = `(rule add_swap (add ?a:0 ?b:0) (add ?b:0 ?a:0))
(rule mul_swap (mul ?a:0 ?b:0) (mul ?b:0 ?a:0))
(rule and_swap (and ?a:0 ?b:0) (and ?b:0 ?a:0))
(rule or_swap (or ?a:0 ?b:0) (or ?b:0 ?a:0))
(rule xor_swap (xor ?a:0 ?b:0) (xor ?b:0 ?a:0))
(rule add_group (add (add ?a:0 ?b:0) ?c:0) (add ?a:0 (add ?b:0 ?c:0)))
(rule and_group (and (and ?a:0 ?b:0) ?c:0) (and ?a:0 (and ?b:0 ?c:0)))
(rule or_group (or (or ?a:0 ?b:0) ?c:0) (or ?a:0 (or ?b:0 ?c:0)))
(rule xor_group (xor (xor ?a:0 ?b:0) ?c:0) (xor ?a:0 (xor ?b:0 ?c:0)))
(rule add_zero (add ?a:0 0:0) ?a:0)
(rule sub_zero (sub ?a:0 0:0) ?a:0)
(rule mul_zero (mul ?a:0 0:0) 0:0)
(rule and_zero (and ?a:0 0:0) 0:0)
(rule or_zero (or ?a:0 0:0) ?a:0)
(rule xor_zero (xor ?a:0 0:0) ?a:0)
(rule shl_zero (shl ?a:0 0:0) ?a:0)
(rule lshr_zero (lshr ?a:0 0:0) ?a:0)
(rule ashr_zero (ashr ?a:0 0:0) ?a:0)
(rule mul_one (mul ?a:0 1:0) ?a:0)
(rule udiv_one (udiv ?a:0 1:0) ?a:0)
(rule urem_one (urem ?a:0 1:0) 0:0)
(rule sub_same (sub ?a:0 ?a:0) 0:0)
(rule and_same (and ?a:0 ?a:0) ?a:0)
(rule or_same (or ?a:0 ?a:0) ?a:0)
(rule xor_same (xor ?a:0 ?a:0) 0:0)
(rule eq_same (eq ?a:0 ?a:0) 1:1)
(rule ult_same (ult ?a:0 ?a:0) 0:1)
(rule slt_same (slt ?a:0 ?a:0) 0:1)
(rule ite_same (ite ?c:1 ?a:0 ?a:0) ?a:0)
(rule not_not (not (not ?a:0)) ?a:0)
(rule neg_neg (neg (neg ?a:0)) ?a:0)
(rule neg_not (neg ?a:0) (add (not ?a:0) 1:0))
(rule add_sub (sub (add ?a:0 ?b:0) ?b:0) ?a:0)
(rule and_or (and ?a:0 (or ?a:0 ?b:0)) ?a:0)
(rule or_and (or ?a:0 (and ?a:0 ?b:0)) ?a:0)
(rule mul_two (mul ?a:0 2:0) (shl ?a:0 1:0))
(rule shl_mul (shl ?a:0 #c:0) (mul ?a:0 (eval (shl 1:0 #c:0))))
(rule urem_mask (urem ?a:0 #c:0) (and ?a:0 (eval (sub #c:0 1:0))) (if (eq (and #c:0 (sub #c:0 1:0)) 0:0)))
(rule urem_below (urem ?a:0 #c:0) ?a:0 (below ?a:0 #c:0))
(rule udiv_below (udiv ?a:0 #c:0) 0:0 (below ?a:0 #c:0))
`

// Basic is specified in P29.3.
func Basic() string {
	return basic
}
