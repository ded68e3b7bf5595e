/-
 MATHEMATICS of layer 13: where tokens stand makes no difference but for the places told.
-/
import Derived.Test.YtmbfdkiejneheaaGreatDoorPaP
namespace Go.Proofs.YtmbfdkiejneheaaGreatDoor
/-- What was read, without places. -/
def mp {α : Type} (f : α → α) : TR α → TR α
 | .error e => .error (0, e.2)
 | .ok (a, l) => .ok (f a, l.map fk)
theorem mp_ok {α : Type} (f : α → α) (a : α) (l : List Tok) : mp f (.ok (a, l)) = .ok (f a, l.map fk) := rfl
theorem mp_err {α : Type} (f : α → α) (e : Nat × Nat) : mp f (.error e : TR α) = .error (0, e.2) := rfl
theorem mp_bnd {α β : Type} {f : α → α} {g : β → β} {x y : TR α} {p q : α → List Tok → TR β} (hx : y = mp f x) (h : ∀ a l, q (f a) (l.map fk) = mp g (p a l)) : bnd y q = mp g (bnd x p) := by
 subst hx
 match x with
 | .error e => rfl
 | .ok (a, l) => exact h a l
section
variable (l : List Tok)
theorem tk_m : tk (l.map fk) = fk (tk l) := by cases l <;> rfl
theorem k_m : (tk (l.map fk)).k = (tk l).k := by rw [tk_m]; rfl
theorem t_m : (tk (l.map fk)).t = (tk l).t := by rw [tk_m]; rfl
theorem a_m : (tk (l.map fk)).a = 0 := by rw [tk_m]; rfl
theorem fx_m : fx (l.map fk) = fx l := by unfold fx; rw [k_m, t_m]
theorem nx_m : nx (l.map fk) = (nx l).map fk := by
 unfold nx
 rw [k_m]
 split
 ·
  rfl
 ·
  cases l <;> rfl
theorem drop_m (p : Tok → Bool) (hp : ∀ t, p (fk t) = p t) : ∀ l : List Tok, (l.map fk).dropWhile p = (l.dropWhile p).map fk
 | [] => rfl
 | t :: l => by
  rw [List.map_cons, List.dropWhile_cons, List.dropWhile_cons, hp]
  split
  ·
   exact drop_m p hp l
  ·
   rfl
theorem nls_m : nlsP (l.map fk) = (nlsP l).map fk := drop_m _ (fun _ => rfl) l
theorem seps_m : sepsP (l.map fk) = (sepsP l).map fk := drop_m _ (fun _ => rfl) l
theorem ref_m : refE (l.map fk) = (0, (refE l).2) := by unfold refE; rw [a_m, k_m, fx_m]
theorem deep_m : deepE (l.map fk) = (0, (deepE l).2) := by unfold deepE; rw [a_m]
theorem want_m (s : List UInt8) : wantP s (l.map fk) = mp id (wantP s l) := by
 unfold wantP
 rw [fx_m, nx_m, ref_m]
 split <;> rfl
end
/-- Where tokens stand makes no difference. -/
def Hm {α : Type} (g : α → α) (f : List Tok → TR α) : Prop := ∀ l, f (l.map fk) = mp g (f l)
theorem row_m {f : List Tok → TR PT} (hf : Hm fl f) : ∀ (n : Nat) (l : List Tok) (ts : List PT), rowP f n (l.map fk) (ts.map fl) = mp (List.map fl) (rowP f n l ts)
 | 0, _, _ => rfl
 | n + 1, l, ts => by
  unfold rowP
  rw [fx_m]
  split
  ·
   rw [nx_m, nls_m]
   refine mp_bnd (hf _) fun t l2 => ?_
   have := row_m hf n l2 (ts ++ [t])
   rwa [List.map_append] at this
  ·
   rfl
theorem row1_m {f : List Tok → TR PT} (hf : Hm fl f) : Hm (List.map fl) (row1 f) := fun l => by
 unfold row1
 refine mp_bnd (hf l) fun t l2 => ?_
 rw [List.length_map]
 exact row_m hf (l2.length + 1) l2 [t]
theorem within_m {α : Type} {g : α → α} {f : List Tok → TR α} (hf : Hm g f) (o c : List UInt8) : Hm g (withinP o f c) := fun l => by
 unfold withinP
 refine mp_bnd (want_m l o) fun _ l1 => ?_
 rw [nls_m]
 refine mp_bnd (hf _) fun a l2 => ?_
 rw [nls_m]
 exact mp_bnd (want_m _ c) fun _ l3 => rfl
theorem args_m {f : List Tok → TR PT} (hf : Hm fl f) : Hm (List.map fl) (argsP f) := fun l => by
 unfold argsP
 rw [fx_m]
 split
 ·
  rfl
 ·
  exact row1_m hf l
theorem list_m {f : List Tok → TR PT} (hf : Hm fl f) : Hm (List.map fl) (listP f) := within_m (args_m hf) _ _
structure RcM (R : Rc) : Prop where
 E : ∀ pr, Hm fl (R.E pr)
 U : Hm fl R.U
 F : Hm fl R.F
theorem taken_m (name : Tok) (l : List PT) : takenP (fk name) (l.map fl) = (takenP name l).map (List.map fl) := by
 unfold takenP
 rw [show (fk name).t = name.t from rfl, show (fk name).a = 0 from rfl, List.length_map]
 split
 ·
  split <;> rfl
 ·
  split
  ·
   split <;> rfl
  ·
   split
   ·
    split <;> rfl
   ·
    split
    ·
     split <;> rfl
    ·
     split
     ·
      by_cases h2 : l.length = 2
      ·
       rw [if_pos h2, if_pos h2]
       match l, h2 with
       | [a, b], _ =>
        simp only [List.map_cons, List.map_nil, List.cons_append, List.nil_append]
        rw [show isPl (nd oField [.mk oNum [48] 0 []]) = true from rfl, show isPl (nd oField [.mk oNum [48] name.a []]) = true from rfl]
        simp [fl_nd, fl_mk]
      ·
       rw [if_neg h2, if_neg h2]
       match l with
       | [] => rfl
       | [_] => rfl
       | [_, _] => simp at h2
       | [a, b, c] =>
        simp only [List.map_cons, List.map_nil]
        rw [fl_pl]
        split <;> rfl
       | _ :: _ :: _ :: _ :: _ => rfl
     ·
      split
      ·
       match l with
       | [] => rfl
       | [_] => rfl
       | a :: b :: r =>
        simp only [List.map_cons]
        rw [fl_op, List.length_map]
        split
        ·
         cases b; simp [fl_mk, PT.tx, PT.pl, PT.kids]
        ·
         rfl
      ·
       split
       ·
        split <;> rfl
       ·
        split <;> rfl
section
variable (reOk : List UInt8 → Bool) {R : Rc} (h : RcM R)
include h
theorem elem_m (op : List UInt8) : Hm fl (elemP R op) := fun l => by
 unfold elemP
 rw [k_m, nx_m, fx_m, ref_m, tk_m]
 split
 ·
  split
  ·
   exact mp_bnd (within_m (h.E false) _ _ _) fun t l2 => by rw [mp_ok, fl_named]; rfl
  ·
   rw [mp_ok, fl_named]; rfl
 ·
  rfl
theorem builtin_m : Hm fl (builtinP R) := fun l => by
 unfold builtinP
 rw [t_m, nx_m, fx_m, tk_m]
 split
 ·
  rw [mp_ok, fl_named]; rfl
 ·
  refine mp_bnd (list_m (h.E false) _) fun ts l2 => ?_
  rw [taken_m, List.length_map]
  cases takenP (tk l) ts with
  | none => rfl
  | some us => simp only [Option.map_some]; rw [mp_ok, fl_named]
theorem prim_m : Hm fl (primP reOk R) := fun l => by
 unfold primP
 rw [k_m, t_m, nx_m, fx_m, ref_m, tk_m]
 split
 ·
  rw [mp_ok, fl_named]; rfl
 ·
  split
  ·
   rw [mp_ok, fl_named]; rfl
  ·
   split
   ·
    split
    ·
     rw [mp_ok, fl_named]; rfl
    ·
     rfl
   ·
    split
    ·
     exact elem_m h _ l
    ·
     split
     ·
      exact mp_bnd (list_m (h.E false) _) fun t l2 => by rw [mp_ok, fl_named]
     ·
      split
      ·
       exact builtin_m h l
      ·
       split
       ·
        exact within_m (h.E false) _ _ l
       ·
        split
        ·
         exact h.F _
        ·
         rfl
omit h in
theorem stepB_m (l : List Tok) : stepB (l.map fk) = stepB l := by unfold stepB; rw [fx_m]
theorem pre_m : Hm fl (preP reOk R) := fun l => by
 unfold preP
 rw [nx_m, t_m]
 refine mp_bnd (prim_m reOk h _) fun t l2 => ?_
 rw [fl_pl, ref_m]
 split
 ·
  rw [mp_ok, fl_nd]; rfl
 ·
  rfl
theorem post_m : Hm fl (postP reOk R) := fun l => by
 unfold postP
 rw [stepB_m]
 split
 ·
  exact pre_m reOk h l
 ·
  refine mp_bnd (prim_m reOk h l) fun t l2 => ?_
  rw [fl_pl, fx_m, nx_m]
  split
  ·
   split
   ·
    rw [mp_ok, fl_nd]; rfl
   ·
    split
    ·
     rw [mp_ok, fl_nd]; rfl
    ·
     rfl
  ·
   rfl
theorem field_m : Hm fl (fieldP reOk R) := fun l => by
 unfold fieldP
 rw [stepB_m]
 split
 ·
  exact mp_bnd (pre_m reOk h l) fun t l2 => by rw [mp_ok, fl_nd]; rfl
 ·
  exact mp_bnd (prim_m reOk h l) fun t l2 => by rw [mp_ok, fl_nd]; rfl
theorem unary_m : Hm fl (unaryP reOk R) := fun l => by
 have hu : ∀ op : List UInt8, bnd (R.U ((nx l).map fk)) (fun t l2 => .ok (nd op [t], l2)) = mp fl (bnd (R.U (nx l)) fun t l2 => .ok (nd op [t], l2)) := fun op => mp_bnd (h.U _) fun t l2 => by rw [mp_ok, fl_nd]; rfl
 unfold unaryP
 rw [fx_m, nx_m]
 split
 ·
  exact hu _
 ·
  split
  ·
   exact hu _
  ·
   split
   ·
    exact hu _
   ·
    exact post_m reOk h l
omit h in
theorem chainL_m {part : List Tok → TR PT} (hp : Hm fl part) (signs : List (List UInt8)) : ∀ (n : Nat) (l : List Tok) (t : PT), chainL part signs n (l.map fk) (fl t) = mp fl (chainL part signs n l t)
 | 0, _, _ => rfl
 | n + 1, l, t => by
  unfold chainL
  rw [fx_m, t_m, nx_m, nls_m]
  split
  ·
   rw [show (if binO (tk l).t = [111, 114] ∨ binO (tk l).t = [97, 110, 100] then (nlsP (nx l)).map fk else (nx l).map fk) = (if binO (tk l).t = [111, 114] ∨ binO (tk l).t = [97, 110, 100] then nlsP (nx l) else nx l).map fk from by split <;> rfl]
   refine mp_bnd (hp _) fun u l2 => ?_
   have := chainL_m hp signs n l2 (nd (binO (tk l).t) [t, u])
   rwa [fl_nd] at this
  ·
   rfl
omit h in
theorem chain_m {part : List Tok → TR PT} (hp : Hm fl part) (signs : List (List UInt8)) : Hm fl (chainP part signs) := fun l => by
 unfold chainP
 refine mp_bnd (hp l) fun t l2 => ?_
 rw [List.length_map]
 exact chainL_m hp signs _ l2 t
theorem product_m : Hm fl (productP reOk R) := chain_m (unary_m reOk h) _
theorem sum_m : Hm fl (sumP reOk R) := chain_m (product_m reOk h) _
omit h in
theorem valueB_m (l : List Tok) : valueB (l.map fk) = valueB l := by unfold valueB; rw [fx_m, k_m]
theorem sideL_m : ∀ (n : Nat) (l : List Tok) (t : PT), sideL reOk R n (l.map fk) (fl t) = mp fl (sideL reOk R n l t)
 | 0, _, _ => rfl
 | n + 1, l, t => by
  unfold sideL
  rw [valueB_m]
  split
  ·
   refine mp_bnd (sum_m reOk h l) fun u l2 => ?_
   have := sideL_m n l2 (nd [99, 97, 116] [t, u])
   rwa [fl_nd] at this
  ·
   rfl
theorem side_m : Hm fl (sideP reOk R) := fun l => by
 unfold sideP
 refine mp_bnd (sum_m reOk h l) fun t l2 => ?_
 rw [List.length_map]
 exact sideL_m reOk h _ l2 t
theorem rel_m (pr : Bool) : Hm fl (relP reOk R pr) := fun l => by
 unfold relP
 refine mp_bnd (side_m reOk h l) fun t l2 => ?_
 rw [fx_m, nx_m]
 split
 ·
  exact mp_bnd (side_m reOk h _) fun u l3 => by rw [mp_ok, fl_nd]; rfl
 ·
  rfl
theorem match_m (pr : Bool) : Hm fl (matchP reOk R pr) := chain_m (rel_m reOk h pr) _
omit h in
theorem inL_m : ∀ (n : Nat) (l : List Tok) (t : PT), inL n (l.map fk) (fl t) = mp fl (inL n l t)
 | 0, _, _ => rfl
 | n + 1, l, t => by
  unfold inL
  rw [fx_m, nx_m, nx_m, k_m, ref_m, tk_m]
  split
  ·
   split
   ·
    have := inL_m n (nx (nx l)) (named [105, 110] (tk (nx l)) [t])
    rwa [fl_named] at this
   ·
    rfl
  ·
   rfl
theorem in_m (pr : Bool) : Hm fl (inP reOk R pr) := fun l => by
 unfold inP
 refine mp_bnd (match_m reOk h pr l) fun t l2 => ?_
 rw [List.length_map]
 exact inL_m _ l2 t
theorem and_m (pr : Bool) : Hm fl (andP reOk R pr) := chain_m (in_m reOk h pr) _
theorem or_m (pr : Bool) : Hm fl (orP reOk R pr) := chain_m (and_m reOk h pr) _
theorem expr_m (pr : Bool) : Hm fl (exprP reOk R pr) := fun l => by
 unfold exprP
 refine mp_bnd (or_m reOk h pr l) fun t l1 => ?_
 rw [fx_m, nx_m, nls_m, fl_pl, t_m]
 split
 ·
  refine mp_bnd (h.E pr _) fun u l2 => ?_
  rw [nls_m]
  refine mp_bnd (want_m _ _) fun _ l3 => ?_
  rw [nls_m]
  exact mp_bnd (h.E pr _) fun v l4 => by rw [mp_ok, fl_nd]; rfl
 ·
  split
  ·
   exact mp_bnd (h.E pr _) fun v l2 => by rw [mp_ok, fl_mk]; rfl
  ·
   rfl
end
theorem rc_m (reOk : List UInt8 → Bool) : ∀ n, RcM (rcP reOk n)
 | 0 => ⟨fun _ l => by show Except.error (deepE _) = _; rw [deep_m]; rfl, fun l => by show Except.error (deepE _) = _; rw [deep_m]; rfl, fun l => by show Except.error (deepE _) = _; rw [deep_m]; rfl⟩
 | n + 1 => ⟨expr_m reOk (rc_m reOk n), unary_m reOk (rc_m reOk n), field_m reOk (rc_m reOk n)⟩
section
variable (reOk : List UInt8 → Bool) {R : Rc} (h : RcM R)
theorem endB_m (l : List Tok) : endB (l.map fk) = endB l := by unfold endB; rw [k_m, fx_m]
theorem targB_m (l : List Tok) : targB (l.map fk) = targB l := by unfold targB; rw [fx_m]
theorem bracket_m : ∀ (n : Nat) (l : List Tok) (k : Int), bracketP n (l.map fk) k = bracketP n l k
 | 0, _, _ => rfl
 | n + 1, l, k => by
  unfold bracketP
  simp only [k_m, fx_m, nx_m, targB_m, bracket_m n]
include h
theorem printed_m : Hm (List.map fl) (printedP R) := fun l => by
 unfold printedP
 rw [fx_m, List.length_map, bracket_m, endB_m, targB_m]
 split
 ·
  exact list_m (h.E false) l
 ·
  split
  ·
   rfl
  ·
   exact row1_m (h.E true) l
theorem target_m : Hm fl (targetP R reOk) := fun l => by
 have hu : ∀ op : List UInt8, bnd (sideP reOk R ((nx l).map fk)) (fun t l2 => .ok (nd op [t], l2)) = mp fl (bnd (sideP reOk R (nx l)) fun t l2 => .ok (nd op [t], l2)) := fun op => mp_bnd (side_m reOk h _) fun t l2 => by rw [mp_ok, fl_nd]; rfl
 unfold targetP
 rw [fx_m, nx_m]
 split
 ·
  exact hu _
 ·
  split
  ·
   exact hu _
  ·
   rw [mp_ok, fl_nd]; rfl
theorem print_m (op : List UInt8) : Hm fl (printP R reOk op) := fun l => by
 unfold printP
 refine mp_bnd (printed_m h l) fun ts l2 => ?_
 refine mp_bnd (target_m reOk h l2) fun g l3 => ?_
 rw [ref_m]
 by_cases hc : op = wPrintf ∧ ts = []
 ·
  rw [if_pos hc, if_pos ⟨hc.1, by rw [hc.2]; rfl⟩]; rfl
 ·
  rw [if_neg hc, if_neg (fun e => hc ⟨e.1, List.map_eq_nil_iff.1 e.2⟩), mp_ok, fl_nd]; rfl
theorem simple_m : Hm fl (simpleP R reOk) := fun l => by
 unfold simpleP
 rw [fx_m, nx_m, endB_m, a_m]
 split
 ·
  rw [mp_ok, fl_mk]; rfl
 ·
  split
  ·
   split
   ·
    rw [mp_ok, fl_mk]; rfl
   ·
    exact mp_bnd (h.E false _) fun t l2 => by rw [mp_ok, fl_mk]; rfl
  ·
   split
   ·
    exact mp_bnd (elem_m h _ _) fun t l2 => by rw [mp_ok, fl_nd]; rfl
   ·
    split
    ·
     exact print_m reOk h _ _
    ·
     exact mp_bnd (h.E false _) fun t l2 => by rw [mp_ok, fl_nd]; rfl
omit h in
theorem unless_m {s : List UInt8} {f : List Tok → TR PT} (hf : Hm fl f) : Hm fl (unlessP s f) := fun l => by
 unfold unlessP
 rw [fx_m]
 split
 ·
  rw [mp_ok, fl_nd]; rfl
 ·
  exact hf l
theorem steps_m : Hm (List.map fl) (stepsP R reOk) := fun l => by
 unfold stepsP
 refine mp_bnd (unless_m (simple_m reOk h) l) fun a l1 => ?_
 refine mp_bnd (want_m _ _) fun _ l2 => ?_
 rw [nls_m]
 refine mp_bnd (unless_m (h.E false) _) fun b l3 => ?_
 refine mp_bnd (want_m _ _) fun _ l4 => ?_
 rw [nls_m]
 exact mp_bnd (unless_m (simple_m reOk h) _) fun c l5 => rfl
omit h in
theorem keysB_m (l : List Tok) : keysB (l.map fk) = keysB l := by
 match l with
 | [] => rfl
 | [_] => rfl
 | [_, _] => rfl
 | [_, _, _] => rfl
 | _ :: _ :: _ :: _ :: _ => rfl
/-- What a for has within its brackets, without places. -/
def fl3 (x : List UInt8 × Tok × List PT) : List UInt8 × Tok × List PT := (x.1, fk x.2.1, x.2.2.map fl)
theorem for_m : Hm fl3 (forP R reOk) := fun l => by
 unfold forP
 rw [keysB_m, nx_m, nx_m, nx_m, tk_m, tk_m]
 split
 ·
  rw [mp_ok]; unfold fl3; simp only [List.map_cons, List.map_nil]; rw [fl_named]; rfl
 ·
  exact mp_bnd (steps_m reOk h l) fun ks l2 => rfl
end
section
variable (reOk : List UInt8 → Bool) {R : Rc} (h : RcM R) {S : List Tok → TR PT} (hS : Hm fl S)
include hS
theorem blockL_m : ∀ (n : Nat) (l : List Tok) (ts : List PT), blockL S n (l.map fk) (ts.map fl) = mp fl (blockL S n l ts)
 | 0, _, _ => rfl
 | n + 1, l, ts => by
  unfold blockL
  rw [seps_m, fx_m, nx_m]
  split
  ·
   rw [mp_ok, fl_nd]
  ·
   refine mp_bnd (hS _) fun t l2 => ?_
   have := blockL_m n l2 (ts ++ [t])
   rwa [List.map_append] at this
theorem block_m : Hm fl (blockP S) := fun l => by
 unfold blockP
 refine mp_bnd (want_m _ _) fun _ l2 => ?_
 rw [List.length_map]
 exact blockL_m hS _ l2 []
theorem body_m : Hm fl (bodyP S) := fun l => by
 unfold bodyP
 rw [nls_m]
 exact hS _
omit hS in
theorem else_m (l : List Tok) : elseP (l.map fk) = (elseP l).map (List.map fk) := by
 unfold elseP
 simp only [nls_m, fx_m, nx_m]
 rw [show (if fx (nlsP l) = [59] then (nx (nlsP l)).map fk else (nlsP l).map fk) = (if fx (nlsP l) = [59] then nx (nlsP l) else nlsP l).map fk from by split <;> rfl]
 rw [nls_m, fx_m, nx_m]
 generalize (if fx (nlsP l) = [59] then nx (nlsP l) else nlsP l) = l2
 by_cases hc : fx (nlsP l2) = [101, 108, 115, 101]
 ·
  rw [if_pos hc, if_pos hc]; rfl
 ·
  rw [if_neg hc, if_neg hc]; rfl
include h
theorem choice_m : Hm fl (choiceP R S) := fun l => by
 unfold choiceP
 refine mp_bnd (within_m (h.E false) _ _ l) fun c l2 => ?_
 refine mp_bnd (body_m hS l2) fun y l3 => ?_
 rw [else_m]
 cases elseP l3 with
 | none => simp only [Option.map_none]; rw [mp_ok, fl_nd]; rfl
 | some l4 =>
  simp only [Option.map_some]
  exact mp_bnd (body_m hS l4) fun z l5 => by rw [mp_ok, fl_nd]; rfl
theorem loop_m : Hm fl (loopP R S reOk) := fun l => by
 unfold loopP
 refine mp_bnd (within_m (for_m reOk h) _ _ l) fun x l2 => ?_
 exact mp_bnd (body_m hS l2) fun b l3 => by rw [mp_ok, fl_named, List.map_append]; rfl
theorem stmt_m : Hm fl (stmtP R S reOk) := fun l => by
 unfold stmtP
 rw [fx_m, nx_m]
 split
 ·
  exact block_m hS l
 ·
  split
  ·
   rw [mp_ok, fl_nd]; rfl
  ·
   split
   ·
    exact choice_m h hS _
   ·
    split
    ·
     refine mp_bnd (within_m (h.E false) _ _ _) fun c l2 => ?_
     exact mp_bnd (body_m hS l2) fun b l3 => by rw [mp_ok, fl_nd]; rfl
    ·
     split
     ·
      exact loop_m reOk h hS _
     ·
      refine mp_bnd (simple_m reOk h l) fun t l2 => ?_
      rw [k_m, fx_m, nx_m, ref_m]
      split
      ·
       rfl
      ·
       split <;> rfl
end
theorem st_m (reOk : List UInt8 → Bool) : ∀ n, Hm fl (stP reOk n)
 | 0 => fun l => by show Except.error (deepE _) = _; rw [deep_m]; rfl
 | n + 1 => stmt_m reOk (rc_m reOk n) (st_m reOk n)
section
variable (reOk : List UInt8 → Bool)
theorem param_m : Hm fl paramP := fun l => by
 unfold paramP
 rw [k_m, nx_m, ref_m, tk_m]
 split
 ·
  rw [mp_ok, fl_named]; rfl
 ·
  rfl
theorem func_m : Hm fl (funcP reOk) := fun l => by
 unfold funcP
 rw [k_m, nx_m, ref_m, tk_m]
 split
 ·
  refine mp_bnd (within_m (args_m param_m) _ _ _) fun ks l2 => ?_
  rw [nls_m]
  exact mp_bnd (block_m (st_m reOk 50) _) fun b l3 => by rw [mp_ok, fl_named, List.map_append]; rfl
 ·
  rfl
theorem item_m : Hm fl (itemP reOk) := fun l => by
 have hb : ∀ (op : List UInt8) (xs : List PT) (l2 : List Tok), bnd (blockP (stP reOk 50) (l2.map fk)) (fun b l3 => .ok (nd op (xs.map fl ++ [b]), l3)) = mp fl (bnd (blockP (stP reOk 50) l2) fun b l3 => .ok (nd op (xs ++ [b]), l3)) := fun op xs l2 =>
  mp_bnd (block_m (st_m reOk 50) _) fun b l3 => by rw [mp_ok, fl_nd, List.map_append]; rfl
 unfold itemP
 rw [fx_m, nx_m]
 split
 ·
  exact hb _ [] _
 ·
  split
  ·
   exact hb _ [] _
  ·
   split
   ·
    exact func_m reOk _
   ·
    split
    ·
     have := hb oRule [nd [97, 108, 119, 97, 121, 115] []] l
     rwa [List.map_cons, List.map_nil, fl_nd] at this
    ·
     refine mp_bnd ((rc_m reOk 50).E false l) fun e l2 => ?_
     rw [fx_m, k_m, ref_m]
     split
     ·
      exact hb oRule [e] l2
     ·
      split
      ·
       rw [mp_ok, fl_nd, List.map_cons, List.map_cons, fl_nd]; rfl
      ·
       rfl
theorem items_m : ∀ (n : Nat) (l : List Tok) (ts : List PT), itemsL reOk n (l.map fk) (ts.map fl) = mp fl (itemsL reOk n l ts)
 | 0, _, _ => rfl
 | n + 1, l, ts => by
  unfold itemsL
  rw [seps_m, k_m]
  split
  ·
   rw [mp_ok, fl_nd]
  ·
   refine mp_bnd (item_m reOk _) fun t l2 => ?_
   have := items_m n l2 (ts ++ [t])
   rwa [List.map_append] at this
theorem prog_m : Hm fl (progP reOk) := fun l => by
 unfold progP
 rw [List.length_map]
 exact items_m reOk _ l []
end
/-- More rounds than tokens: so many as there are. -/
theorem items_more (reOk : List UInt8 → Bool) : ∀ (n m : Nat) (l : List Tok) (ts : List PT), l.length < n → l.length < m → Tl l → itemsL reOk n l ts = itemsL reOk m l ts
 | 0, _, _, _, h, _, _ => by omega
 | _, 0, _, _, _, h, _ => by omega
 | n + 1, m + 1, l, ts, h1, h2, hl => by
  unfold itemsL
  split
  ·
   rfl
  ·
   have hs := hl.seps
   have hg := good_item reOk _ hs.2.2
   cases hx : itemP reOk (sepsP l) with
   | error e => rfl
   | ok x =>
    obtain ⟨u, l2⟩ := x
    rw [hx] at hg
    rw [bnd_ok, bnd_ok]
    have h3 := hg.2.2 rfl
    have h4 := hs.1.length_le
    exact items_more reOk n m l2 _ (by omega) (by omega) (hs.2.2.suf hg.1 hg.2.1)
end Go.Proofs.YtmbfdkiejneheaaGreatDoor
