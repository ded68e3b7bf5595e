/-
 MATHEMATICS of layer 13: what is read of tokens is read of them, too, where something else than the end stands behind them (expressions).
-/
import Derived.Test.YtmbfdkiejneheaaGreatDoorPaN
namespace Go.Proofs.YtmbfdkiejneheaaGreatDoor

/-- The end put out for a token and what stands behind it. -/
def rho (c : Tok) (rest : List Tok) (l : List Tok) : List Tok := l.dropLast ++ c :: rest
/-- A token at which an expression ends: a Newline, or ). -/
def Bd (c : Tok) : Prop := c.k = 1 ∨ (c.k = 8 ∧ c.t = [41])
/-- What was read is read again, or (if D) it is too deep. -/
def Sx (D : Prop) (c : Tok) (rest : List Tok) {α : Type} (X X' : TR α) : Prop := ∀ a l2, X = .ok (a, l2) → X' = .ok (a, rho c rest l2) ∨ (D ∧ ∃ p, X' = .error (p, 14))
theorem tl_end {l : List Tok} (hl : Tl l) (h0 : (tk l).k = 0) : ∃ e, l = [e] ∧ e.k = 0 := by
 obtain ⟨t, r, rfl, h1 | h1⟩ := hl.cons
 · exact ⟨t, by rw [h1.2], h1.1⟩
 · exact absurd h0 h1.1
section
variable {D : Prop} {c : Tok} {rest : List Tok} {α β : Type} {l : List Tok}
theorem rho_cons {t : Tok} {r : List Tok} (h : r ≠ []) : rho c rest (t :: r) = t :: rho c rest r := by
 unfold rho; rw [List.dropLast_cons_of_ne_nil h]; rfl
theorem rho_end {e : Tok} : rho c rest [e] = c :: rest := rfl
theorem tk_rho (hl : Tl l) (h0 : (tk l).k ≠ 0) : tk (rho c rest l) = tk l ∧ fx (rho c rest l) = fx l ∧ nx (rho c rest l) = rho c rest (nx l) := by
 obtain ⟨t, r, rfl, h1 | h1⟩ := hl.cons
 · exact absurd h1.1 h0
 ·
  rw [rho_cons h1.2.ne]
  have hk : (tk (t :: rho c rest r)).k ≠ 0 := h1.1
  refine ⟨rfl, rfl, ?_⟩
  unfold nx
  rw [if_neg hk, if_neg (show ¬ (tk (t :: r)).k = 0 from h1.1)]
  rfl
theorem fx_rho (hc : Bd c) (hl : Tl l) {s : List UInt8} (h1 : s ≠ []) (h2 : s ≠ [41]) : fx (rho c rest l) = s ↔ fx l = s := by
 by_cases h0 : (tk l).k = 0
 ·
  obtain ⟨e, rfl, he⟩ := tl_end hl h0
  have hf : fx [e] = [] := by simp [fx, tk, he]
  rw [hf, rho_end]
  have hg : fx (c :: rest) = [] ∨ fx (c :: rest) = [41] := by
   rcases hc with h | ⟨h, h'⟩
   · left; simp [fx, tk, h]
   · right; simp [fx, tk, h, h']
  rcases hg with h | h <;> rw [h] <;> exact ⟨fun e => absurd e.symm (by assumption), fun e => absurd e.symm (by assumption)⟩
 · rw [(tk_rho hl h0).2.1]
theorem k_rho (hc : Bd c) (hl : Tl l) {j : Nat} (h0 : j ≠ 0) (h1 : j ≠ 1) (h8 : j ≠ 8) : (tk (rho c rest l)).k = j ↔ (tk l).k = j := by
 by_cases hk : (tk l).k = 0
 ·
  obtain ⟨e, rfl, he⟩ := tl_end hl hk
  rw [rho_end]
  show c.k = j ↔ e.k = j
  rcases hc with h | h <;> constructor <;> intro e2 <;> omega
 · rw [(tk_rho hl hk).1]
theorem nls_rho (hl : Tl l) (h0 : (tk (nlsP l)).k ≠ 0) : nlsP (rho c rest l) = rho c rest (nlsP l) := by
 induction l with
 | nil => exact absurd rfl hl.ne
 | cons t r ih =>
  obtain ⟨t', r', he, h1⟩ := hl.cons
  obtain ⟨rfl, rfl⟩ : t = t' ∧ r = r' := by simpa using he
  rcases h1 with h1 | h1
  ·
   exfalso
   apply h0
   unfold nlsP
   rw [List.dropWhile_cons, if_neg (by simp [h1.1])]
   exact h1.1
  ·
   rw [rho_cons h1.2.ne]
   unfold nlsP at h0 ih ⊢
   rw [List.dropWhile_cons] at h0
   rw [List.dropWhile_cons, List.dropWhile_cons]
   by_cases hk : t.k = 1
   ·
    rw [if_pos (by simp [hk])] at h0
    rw [if_pos (by simp [hk]), if_pos (by simp [hk])]
    exact ih h1.2 h0
   · rw [if_neg (by simp [hk]), if_neg (by simp [hk]), rho_cons h1.2.ne]
theorem Sx.none {X X' : TR α} (h : ∀ a l2, X ≠ .ok (a, l2)) : Sx D c rest X X' := fun a l2 e => absurd e (h a l2)
theorem Sx.err {e : Nat × Nat} {X' : TR α} : Sx D c rest (.error e) X' := Sx.none fun _ _ => by simp
theorem Sx.ok (a : α) (l : List Tok) : Sx D c rest (.ok (a, l)) (.ok (a, rho c rest l)) := fun b l2 e => by
 injection e with e; injection e with e1 e2; subst e1 e2; exact .inl rfl
theorem Sx.bnd {X X' : TR α} {F F' : α → List Tok → TR β} {s : Bool} (hl : Tl l) (hg : GoodAt s X l) (h : Sx D c rest X X') (k : ∀ a l2, l2 <:+ l → Tl l2 → Sx D c rest (F a l2) (F' a (rho c rest l2))) : Sx D c rest (bnd X F) (bnd X' F') := by
 match X, hg, h with
 | .error e, _, _ => rw [bnd_err]; exact Sx.err
 | .ok (a, l2), hg, h =>
  rw [bnd_ok]
  intro b l3 e
  rcases h a l2 rfl with h1 | ⟨hD, p, h1⟩
  ·
   rw [h1, bnd_ok]
   exact k a l2 hg.1 (hl.suf hg.1 hg.2.1) b l3 e
  ·
   rw [h1, bnd_err]
   exact .inr ⟨hD, p, rfl⟩
/-- The same, where less is left. -/
theorem Sx.bndS {X X' : TR α} {F F' : α → List Tok → TR β} (hl : Tl l) (hg : GoodAt true X l) (h : Sx D c rest X X') (k : ∀ a l2, l2 <:+ l → Tl l2 → l2.length < l.length → Sx D c rest (F a l2) (F' a (rho c rest l2))) : Sx D c rest (Go.Proofs.YtmbfdkiejneheaaGreatDoor.bnd X F) (Go.Proofs.YtmbfdkiejneheaaGreatDoor.bnd X' F') := by
 match X, hg, h with
 | .error e, _, _ => rw [bnd_err]; exact Sx.err
 | .ok (a, l2), hg, h =>
  have hg' : l2 <:+ l ∧ l2 ≠ [] ∧ (true = true → l2.length < l.length) := hg
  rw [bnd_ok]
  intro b l3 e
  rcases h a l2 rfl with h1 | ⟨hD, p, h1⟩
  ·
   rw [h1, bnd_ok]
   exact k a l2 hg'.1 (hl.suf hg'.1 hg'.2.1) (hg'.2.2 rfl) b l3 e
  ·
   rw [h1, bnd_err]
   exact .inr ⟨hD, p, rfl⟩
theorem good_none {X : TR α} (hg : GoodAt true X l) (hl : Tl l) (h0 : (tk l).k = 0) : ∀ a l2, X ≠ .ok (a, l2) := fun a l2 e => by
 obtain ⟨x, rfl, _⟩ := tl_end hl h0
 rw [e] at hg
 have h1 := hg.2.2 rfl
 have h2 := List.length_pos_iff.2 hg.2.1
 simp only [List.length_cons, List.length_nil] at h1
 omega
/-- f of tokens is f' of them where something else stands behind. -/
def Ex (D : Prop) (c : Tok) (rest : List Tok) (f f' : List Tok → TR α) : Prop := ∀ l, Tl l → Sx D c rest (f l) (f' (rho c rest l))
theorem Ex.of {f f' : List Tok → TR α} (hg : Good true f) (h : ∀ l, Tl l → (tk l).k ≠ 0 → Sx D c rest (f l) (f' (rho c rest l))) : Ex D c rest f f' := fun l hl => by
 by_cases h0 : (tk l).k = 0
 · exact Sx.none (good_none (hg l hl) hl h0)
 · exact h l hl h0
/-- Behind Newlines. -/
theorem Ex.nls {f f' : List Tok → TR α} (hg : Good true f) (h : Ex D c rest f f') : ∀ l, Tl l → Sx D c rest (f (nlsP l)) (f' (nlsP (rho c rest l))) := fun l hl => by
 have h1 := hl.nls
 by_cases h0 : (tk (nlsP l)).k = 0
 · exact Sx.none (good_none (hg _ h1.2.2) h1.2.2 h0)
 ·
  rw [nls_rho hl h0]
  exact h _ h1.2.2
end
section
variable {D : Prop} {c : Tok} {rest : List Tok} (hc : Bd c)
theorem want_x {s : List UInt8} (hs : s ≠ []) : Ex D c rest (wantP s) (wantP s) := Ex.of (good_want hs) fun l hl h0 => by
 have h := tk_rho (c := c) (rest := rest) hl h0
 unfold wantP
 rw [h.2.1, h.2.2]
 split
 · exact Sx.ok () (nx l)
 · exact Sx.err
theorem want_nx {s : List UInt8} (hs : s ≠ []) {l : List Tok} (hl : Tl l) : Sx D c rest (wantP s (nlsP l)) (wantP s (nlsP (rho c rest l))) := Ex.nls (good_want hs) (want_x hs) l hl
theorem within_x {α : Type} {f f' : List Tok → TR α} (hg : Good true f) (hf : Ex D c rest f f') {o p : List UInt8} (ho : o ≠ []) (hp : p ≠ []) : Ex D c rest (withinP o f p) (withinP o f' p) := fun l hl => by
 unfold withinP
 refine Sx.bnd hl (good_want ho l hl) (want_x ho l hl) fun _ l1 _ h1 => ?_
 refine Sx.bnd h1 ((hg _ h1.nls.2.2).sub (s := false) h1.nls.1 (fun e => by cases e)) (Ex.nls hg hf l1 h1) fun a l2 _ h2 => ?_
 refine Sx.bnd h2 ((good_want hp _ h2.nls.2.2).sub (s := false) h2.nls.1 (fun e => by cases e)) (want_nx hp h2) fun _ l3 _ _ => ?_
 exact Sx.ok a l3
include hc in
theorem row_x {f f' : List Tok → TR PT} (hg : Good true f) (hf : Ex D c rest f f') : ∀ (n m : Nat) (l : List Tok) (ts : List PT), l.length < n → (rho c rest l).length < m → Tl l → Sx D c rest (rowP f n l ts) (rowP f' m (rho c rest l) ts)
 | 0, _, _, _, h, _, _ => by omega
 | _, 0, _, _, _, h, _ => by omega
 | n + 1, m + 1, l, ts, h, hm, hl => by
  unfold rowP
  by_cases hq : fx l = [44]
  ·
   have h0 := fx_kind hq (by simp)
   have hr := tk_rho (c := c) (rest := rest) hl h0
   rw [if_pos hq, if_pos (hr.2.1.trans hq), hr.2.2]
   have h1 := hl.nx.2.2.1
   have h3 := hl.nx.2.2.2 h0
   refine Sx.bnd h1 ((hg _ h1.nls.2.2).sub (s := true) h1.nls.1 (fun _ => .inl rfl)) (Ex.nls hg hf _ h1) fun t l2 hs ht => ?_
   have h4 := hs.length_le
   refine row_x hg hf n m l2 (ts ++ [t]) (by omega) ?_ ht
   unfold rho at hm ⊢
   rw [List.length_append, List.length_dropLast] at hm ⊢
   have := ht.pos
   have := hl.pos
   omega
  ·
   rw [if_neg hq, if_neg (fun e => hq ((fx_rho hc hl (by simp) (by decide)).1 e))]
   exact Sx.ok ts l
include hc in
theorem row1_x {f f' : List Tok → TR PT} (hg : Good true f) (hf : Ex D c rest f f') : Ex D c rest (row1 f) (row1 f') := fun l hl => by
 unfold row1
 exact Sx.bnd hl (hg l hl) (hf l hl) fun t l2 _ h2 => row_x hc hg hf _ _ l2 [t] (Nat.lt_succ_self _) (Nat.lt_succ_self _) h2
include hc in
theorem list_x {f f' : List Tok → TR PT} (hg : Good true f) (hf : Ex D c rest f f') : Ex D c rest (listP f) (listP f') := fun l hl => by
 unfold listP withinP
 refine Sx.bnd hl (good_want (by decide) l hl) (want_x (by decide) l hl) fun _ l1 _ h1 => ?_
 have hn := h1.nls
 by_cases h0 : (tk (nlsP l1)).k = 0
 ·
  -- only the end is left: no ) comes
  refine Sx.none fun a l2 e => ?_
  have hf0 : fx (nlsP l1) ≠ [41] := fun e => fx_kind e (by simp) h0
  unfold argsP at e
  rw [if_neg hf0] at e
  cases hx : row1 f (nlsP l1) with
  | error q => rw [hx, bnd_err] at e; cases e
  | ok x => exact good_none (good_row1 hg _ hn.2.2) hn.2.2 h0 x.1 x.2 hx
 ·
  rw [nls_rho h1 h0]
  have hr := tk_rho (c := c) (rest := rest) hn.2.2 h0
  have ha : Sx D c rest (argsP f (nlsP l1)) (argsP f' (rho c rest (nlsP l1))) := by
   unfold argsP
   rw [hr.2.1]
   split
   · exact Sx.ok [] (nlsP l1)
   · exact row1_x hc hg hf _ hn.2.2
  refine Sx.bnd h1 ((good_args hg _ hn.2.2).sub (s := false) hn.1 (fun e => by cases e)) ha fun a l2 _ h2 => ?_
  exact Sx.bnd h2 ((good_want (by decide) _ h2.nls.2.2).sub (s := false) h2.nls.1 (fun e => by cases e)) (want_nx (by decide) h2) fun _ l3 _ _ => Sx.ok a l3
end
structure RcX (D : Prop) (c : Tok) (rest : List Tok) (R R' : Rc) : Prop where
 E : ∀ pr, Ex D c rest (R.E pr) (R'.E pr)
 U : Ex D c rest R.U R'.U
 F : Ex D c rest R.F R'.F
section
variable {D : Prop} {c : Tok} {rest : List Tok} (hc : Bd c) (reOk : List UInt8 → Bool) {R R' : Rc} (hg : RcG R) (h : RcX D c rest R R')
include hc hg h
theorem elem_x (op : List UInt8) : Ex D c rest (elemP R op) (elemP R' op) := Ex.of (good_elem hg op) fun l hl h0 => by
 have hr := tk_rho (c := c) (rest := rest) hl h0
 have h1 := hl.nx.2.2.1
 unfold elemP
 rw [hr.1, hr.2.2]
 split
 ·
  by_cases hb : fx (nx l) = [91]
  ·
   rw [if_pos hb, if_pos ((fx_rho hc h1 (by simp) (by decide)).2 hb)]
   exact Sx.bnd h1 (good_within (by decide) (by decide) (fun l hl => (hg.E false l hl).weak (fun e => by cases e)) _ h1) (within_x (hg.E false) (h.E false) (by decide) (by decide) _ h1) fun t l2 _ _ => Sx.ok _ l2
  ·
   rw [if_neg hb, if_neg (fun e => hb ((fx_rho hc h1 (by simp) (by decide)).1 e))]
   exact Sx.ok _ (nx l)
 · exact Sx.err
theorem builtin_x (l : List Tok) (hl : Tl l) (h0 : (tk l).k ≠ 0) : Sx D c rest (builtinP R l) (builtinP R' (rho c rest l)) := by
 have hr := tk_rho (c := c) (rest := rest) hl h0
 have h1 := hl.nx.2.2.1
 unfold builtinP
 rw [hr.1, hr.2.2]
 by_cases hb : (tk l).t = bLength ∧ fx (nx l) ≠ [40]
 ·
  rw [if_pos hb, if_pos ⟨hb.1, fun e => hb.2 ((fx_rho hc h1 (by simp) (by decide)).1 e)⟩]
  exact Sx.ok _ (nx l)
 ·
  rw [if_neg hb, if_neg (fun e => hb ⟨e.1, fun e2 => e.2 ((fx_rho hc h1 (by simp) (by decide)).2 e2)⟩)]
  refine Sx.bnd h1 (good_list (hg.E false) _ h1) (list_x hc (hg.E false) (h.E false) _ h1) fun ts l2 _ _ => ?_
  cases takenP (tk l) ts with
  | none => exact Sx.err
  | some us => exact Sx.ok _ l2
theorem prim_x : Ex D c rest (primP reOk R) (primP reOk R') := Ex.of (good_prim reOk hg) fun l hl h0 => by
 have hr := tk_rho (c := c) (rest := rest) hl h0
 have h1 := hl.nx.2.2.1
 unfold primP
 rw [hr.1, hr.2.1, hr.2.2]
 split
 · exact Sx.ok _ (nx l)
 ·
  split
  · exact Sx.ok _ (nx l)
  ·
   split
   ·
    split
    · exact Sx.ok _ (nx l)
    · exact Sx.err
   ·
    split
    · exact elem_x hc hg h _ l hl
    ·
     split
     · exact Sx.bnd h1 (good_list (hg.E false) _ h1) (list_x hc (hg.E false) (h.E false) _ h1) fun ts l2 _ _ => Sx.ok _ l2
     ·
      split
      · exact builtin_x hc hg h l hl h0
      ·
       split
       · exact within_x (hg.E false) (h.E false) (by decide) (by decide) l hl
       ·
        split
        · exact h.F _ h1
        · exact Sx.err
omit hg h in
theorem stepB_x {l : List Tok} (hl : Tl l) : stepB (rho c rest l) = stepB l := by
 unfold stepB
 have h1 := fx_rho (rest := rest) hc hl (s := [43, 43]) (by simp) (by decide)
 have h2 := fx_rho (rest := rest) hc hl (s := [45, 45]) (by simp) (by decide)
 rw [decide_eq_decide.2 h1, decide_eq_decide.2 h2]
theorem pre_x (l : List Tok) (hl : Tl l) (h0 : (tk l).k ≠ 0) : Sx D c rest (preP reOk R l) (preP reOk R' (rho c rest l)) := by
 have hr := tk_rho (c := c) (rest := rest) hl h0
 have h1 := hl.nx.2.2.1
 unfold preP
 rw [hr.1, hr.2.2]
 refine Sx.bnd h1 (good_prim reOk hg _ h1) (prim_x hc reOk hg h _ h1) fun t l2 _ _ => ?_
 split
 · exact Sx.ok _ l2
 · exact Sx.err
theorem post_x : Ex D c rest (postP reOk R) (postP reOk R') := Ex.of (good_post reOk hg) fun l hl h0 => by
 unfold postP
 rw [stepB_x hc hl]
 split
 · exact pre_x hc reOk hg h l hl h0
 ·
  refine Sx.bnd hl (good_prim reOk hg l hl) (prim_x hc reOk hg h l hl) fun t l2 _ h2 => ?_
  split
  ·
   by_cases ha : fx l2 = [43, 43]
   ·
    rw [if_pos ha, if_pos ((fx_rho hc h2 (by simp) (by decide)).2 ha), (tk_rho h2 (fx_kind ha (by simp))).2.2]
    exact Sx.ok _ (nx l2)
   ·
    rw [if_neg ha, if_neg (fun e => ha ((fx_rho hc h2 (by simp) (by decide)).1 e))]
    by_cases hb : fx l2 = [45, 45]
    ·
     rw [if_pos hb, if_pos ((fx_rho hc h2 (by simp) (by decide)).2 hb), (tk_rho h2 (fx_kind hb (by simp))).2.2]
     exact Sx.ok _ (nx l2)
    ·
     rw [if_neg hb, if_neg (fun e => hb ((fx_rho hc h2 (by simp) (by decide)).1 e))]
     exact Sx.ok _ l2
  · exact Sx.ok _ l2
theorem field_x : Ex D c rest (fieldP reOk R) (fieldP reOk R') := Ex.of (good_field reOk hg) fun l hl h0 => by
 unfold fieldP
 rw [stepB_x hc hl]
 split
 · exact Sx.bnd hl (good_pre reOk hg l hl) (pre_x hc reOk hg h l hl h0) fun t l2 _ _ => Sx.ok _ l2
 · exact Sx.bnd hl (good_prim reOk hg l hl) (prim_x hc reOk hg h l hl) fun t l2 _ _ => Sx.ok _ l2
theorem unary_x : Ex D c rest (unaryP reOk R) (unaryP reOk R') := Ex.of (good_unary reOk hg) fun l hl h0 => by
 have hr := tk_rho (c := c) (rest := rest) hl h0
 have h1 := hl.nx.2.2.1
 have hu : ∀ op : List UInt8, Sx D c rest (bnd (R.U (nx l)) fun t l2 => .ok (nd op [t], l2)) (bnd (R'.U (rho c rest (nx l))) fun t l2 => .ok (nd op [t], l2)) := fun op => Sx.bnd h1 (hg.U _ h1) (h.U _ h1) fun t l2 _ _ => Sx.ok _ l2
 unfold unaryP
 rw [hr.2.1, hr.2.2]
 split
 · exact hu _
 ·
  split
  · exact hu _
  ·
   split
   · exact hu _
   · exact post_x hc reOk hg h l hl
omit hg h in
theorem mem_x {l : List Tok} (hl : Tl l) {signs : List (List UInt8)} (h1 : [] ∉ signs) (h2 : [41] ∉ signs) : fx (rho c rest l) ∈ signs ↔ fx l ∈ signs := by
 constructor
 ·
  intro hm
  have := (fx_rho (rest := rest) hc hl (s := fx (rho c rest l)) (fun e => h1 (e ▸ hm)) (fun e => h2 (e ▸ hm))).1 rfl
  rwa [this]
 ·
  intro hm
  have := (fx_rho (rest := rest) hc hl (s := fx l) (fun e => h1 (e ▸ hm)) (fun e => h2 (e ▸ hm))).2 rfl
  rwa [this]
omit hg h in
theorem chainL_x {part part' : List Tok → TR PT} (hgp : Good true part) (hp : Ex D c rest part part') {signs : List (List UInt8)} (h1 : [] ∉ signs) (h2 : [41] ∉ signs) : ∀ (n m : Nat) (l : List Tok) (t : PT), l.length < n → (rho c rest l).length < m → Tl l → Sx D c rest (chainL part signs n l t) (chainL part' signs m (rho c rest l) t)
 | 0, _, _, _, h, _, _ => by omega
 | _, 0, _, _, _, h, _ => by omega
 | n + 1, m + 1, l, t, h, hm, hl => by
  unfold chainL
  by_cases hq : fx l ∈ signs
  ·
   have h0 := fx_kind rfl (fun e => h1 (e ▸ hq))
   have hr := tk_rho (c := c) (rest := rest) hl h0
   rw [if_pos hq, if_pos ((mem_x hc hl h1 h2).2 hq), hr.1, hr.2.2]
   have k1 := hl.nx.2.2.1
   have k3 := hl.nx.2.2.2 h0
   have hcont : ∀ (u : PT) (l2 : List Tok), l2 <:+ nx l → Tl l2 → Sx D c rest (chainL part signs n l2 (nd (binO (tk l).t) [t, u])) (chainL part' signs m (rho c rest l2) (nd (binO (tk l).t) [t, u])) := fun u l2 hs ht => by
    have h4 := hs.length_le
    refine chainL_x hgp hp h1 h2 n m l2 _ (by omega) ?_ ht
    unfold rho at hm ⊢
    rw [List.length_append, List.length_dropLast] at hm ⊢
    have := ht.pos
    have := hl.pos
    omega
   split
   · exact Sx.bnd k1 ((hgp _ k1.nls.2.2).sub (s := true) k1.nls.1 (fun _ => .inl rfl)) (Ex.nls hgp hp _ k1) hcont
   · exact Sx.bnd k1 (hgp _ k1) (hp _ k1) hcont
  ·
   rw [if_neg hq, if_neg (fun e => hq ((mem_x hc hl h1 h2).1 e))]
   exact Sx.ok t l
omit hg h in
theorem chain_x {part part' : List Tok → TR PT} (hgp : Good true part) (hp : Ex D c rest part part') {signs : List (List UInt8)} (h1 : [] ∉ signs) (h2 : [41] ∉ signs) : Ex D c rest (chainP part signs) (chainP part' signs) := fun l hl => by
 unfold chainP
 exact Sx.bnd hl (hgp l hl) (hp l hl) fun t l2 _ k2 => chainL_x hc hgp hp h1 h2 _ _ l2 t (Nat.lt_succ_self _) (Nat.lt_succ_self _) k2
theorem product_x : Ex D c rest (productP reOk R) (productP reOk R') := chain_x hc (good_unary reOk hg) (unary_x hc reOk hg h) (by decide) (by decide)
theorem sum_x : Ex D c rest (sumP reOk R) (sumP reOk R') := chain_x hc (good_product reOk hg) (product_x hc reOk hg h) (by decide) (by decide)
omit hg h in
theorem valueB_x {l : List Tok} (hl : Tl l) : valueB (rho c rest l) = valueB l := by
 unfold valueB
 have k2 := k_rho (rest := rest) hc hl (j := 2) (by omega) (by omega) (by omega)
 have k3 := k_rho (rest := rest) hc hl (j := 3) (by omega) (by omega) (by omega)
 have k5 := k_rho (rest := rest) hc hl (j := 5) (by omega) (by omega) (by omega)
 have k6 := k_rho (rest := rest) hc hl (j := 6) (by omega) (by omega) (by omega)
 have k9 := k_rho (rest := rest) hc hl (j := 9) (by omega) (by omega) (by omega)
 have h1 := fx_rho (rest := rest) hc hl (s := [36]) (by simp) (by decide)
 have h2 := fx_rho (rest := rest) hc hl (s := [40]) (by simp) (by decide)
 rw [decide_eq_decide.2 h1, decide_eq_decide.2 h2, decide_eq_decide.2 (show ((tk (rho c rest l)).k = 2 ∨ (tk (rho c rest l)).k = 3 ∨ (tk (rho c rest l)).k = 5 ∨ (tk (rho c rest l)).k = 6 ∨ (tk (rho c rest l)).k = 9) ↔ _ from by rw [k2, k3, k5, k6, k9])]
theorem sideL_x : ∀ (n m : Nat) (l : List Tok) (t : PT), l.length < n → (rho c rest l).length < m → Tl l → Sx D c rest (sideL reOk R n l t) (sideL reOk R' m (rho c rest l) t)
 | 0, _, _, _, h, _, _ => by omega
 | _, 0, _, _, _, h, _ => by omega
 | n + 1, m + 1, l, t, hn, hm, hl => by
  unfold sideL
  rw [valueB_x hc hl]
  split
  ·
   refine Sx.bndS hl (good_sum reOk hg l hl) (sum_x hc reOk hg h l hl) fun u l2 hs ht hlt => ?_
   refine sideL_x n m l2 _ (by omega) ?_ ht
   unfold rho at hm ⊢
   rw [List.length_append, List.length_dropLast] at hm ⊢
   have := ht.pos
   have := hl.pos
   omega
  · exact Sx.ok t l
theorem side_x : Ex D c rest (sideP reOk R) (sideP reOk R') := fun l hl => by
 unfold sideP
 exact Sx.bnd hl (good_sum reOk hg l hl) (sum_x hc reOk hg h l hl) fun t l2 _ k2 => sideL_x hc reOk hg h _ _ l2 t (Nat.lt_succ_self _) (Nat.lt_succ_self _) k2
omit hg h in
theorem relB_x {l : List Tok} (hl : Tl l) (pr : Bool) : relB pr (fx (rho c rest l)) = relB pr (fx l) := by
 unfold relB
 have h1 := fx_rho (rest := rest) hc hl (s := [62]) (by simp) (by decide)
 have h2 := fx_rho (rest := rest) hc hl (s := [60]) (by simp) (by decide)
 have h3 := fx_rho (rest := rest) hc hl (s := [60, 61]) (by simp) (by decide)
 have h4 := fx_rho (rest := rest) hc hl (s := [61, 61]) (by simp) (by decide)
 have h5 := fx_rho (rest := rest) hc hl (s := [33, 61]) (by simp) (by decide)
 have h6 := fx_rho (rest := rest) hc hl (s := [62, 61]) (by simp) (by decide)
 rw [decide_eq_decide.2 h1, decide_eq_decide.2 (show (fx (rho c rest l) = [60] ∨ fx (rho c rest l) = [60, 61] ∨ fx (rho c rest l) = [61, 61] ∨ fx (rho c rest l) = [33, 61] ∨ fx (rho c rest l) = [62, 61]) ↔ _ from by rw [h2, h3, h4, h5, h6])]
theorem rel_x (pr : Bool) : Ex D c rest (relP reOk R pr) (relP reOk R' pr) := fun l hl => by
 unfold relP
 refine Sx.bnd hl (good_side reOk hg l hl) (side_x hc reOk hg h l hl) fun t l2 _ k2 => ?_
 rw [relB_x hc k2]
 by_cases hr : relB pr (fx l2) = true
 ·
  have h0 : (tk l2).k ≠ 0 := fun e => by
   have hf : fx l2 = [] := by simp [fx, e]
   rw [hf] at hr
   revert hr
   cases pr <;> decide
  have hk := tk_rho (c := c) (rest := rest) k2 h0
  rw [if_pos hr, if_pos hr, hk.2.1, hk.2.2]
  exact Sx.bnd k2.nx.2.2.1 (good_side reOk hg _ k2.nx.2.2.1) (side_x hc reOk hg h _ k2.nx.2.2.1) fun u l3 _ _ => Sx.ok _ l3
 ·
  rw [if_neg hr, if_neg hr]
  exact Sx.ok t l2
theorem match_x (pr : Bool) : Ex D c rest (matchP reOk R pr) (matchP reOk R' pr) := chain_x hc (good_rel reOk hg pr) (rel_x hc reOk hg h pr) (by decide) (by decide)
omit hg h in
theorem inL_x : ∀ (n m : Nat) (l : List Tok) (t : PT), l.length < n → (rho c rest l).length < m → Tl l → Sx D c rest (inL n l t) (inL m (rho c rest l) t)
 | 0, _, _, _, h, _, _ => by omega
 | _, 0, _, _, _, h, _ => by omega
 | n + 1, m + 1, l, t, hn, hm, hl => by
  unfold inL
  by_cases hq : fx l = [105, 110]
  ·
   have h0 := fx_kind hq (by simp)
   have hr := tk_rho (c := c) (rest := rest) hl h0
   have h1 := hl.nx.2.2.1
   rw [if_pos hq, if_pos (hr.2.1.trans hq), hr.2.2]
   by_cases hk : (tk (nx l)).k = 5
   ·
    have hr2 := tk_rho (c := c) (rest := rest) h1 (by omega)
    rw [if_pos hk, hr2.1, if_pos hk, hr2.2.2]
    have h3 := hl.nx.2.2.2 h0
    have h4 := h1.nx.1.length_le
    refine inL_x n m _ _ (by omega) ?_ h1.nx.2.2.1
    unfold rho at hm ⊢
    rw [List.length_append, List.length_dropLast] at hm ⊢
    have := h1.nx.2.2.1.pos
    have := hl.pos
    omega
   ·
    rw [if_neg hk]
    exact Sx.err
  ·
   rw [if_neg hq, if_neg (fun e => hq ((fx_rho hc hl (by simp) (by decide)).1 e))]
   exact Sx.ok t l
theorem in_x (pr : Bool) : Ex D c rest (inP reOk R pr) (inP reOk R' pr) := fun l hl => by
 unfold inP
 exact Sx.bnd hl (good_match reOk hg pr l hl) (match_x hc reOk hg h pr l hl) fun t l2 _ k2 => inL_x hc _ _ l2 t (Nat.lt_succ_self _) (Nat.lt_succ_self _) k2
theorem and_x (pr : Bool) : Ex D c rest (andP reOk R pr) (andP reOk R' pr) := chain_x hc (good_in reOk hg pr) (in_x hc reOk hg h pr) (by decide) (by decide)
theorem or_x (pr : Bool) : Ex D c rest (orP reOk R pr) (orP reOk R' pr) := chain_x hc (good_and reOk hg pr) (and_x hc reOk hg h pr) (by decide) (by decide)
omit hg h in
theorem asgB_x {l : List Tok} (hl : Tl l) : asgB (fx (rho c rest l)) = asgB (fx l) := by
 unfold asgB
 have h1 := fx_rho (rest := rest) hc hl (s := [61]) (by simp) (by decide)
 have h2 := fx_rho (rest := rest) hc hl (s := [43, 61]) (by simp) (by decide)
 have h3 := fx_rho (rest := rest) hc hl (s := [45, 61]) (by simp) (by decide)
 have h4 := fx_rho (rest := rest) hc hl (s := [42, 61]) (by simp) (by decide)
 have h5 := fx_rho (rest := rest) hc hl (s := [47, 61]) (by simp) (by decide)
 have h6 := fx_rho (rest := rest) hc hl (s := [37, 61]) (by simp) (by decide)
 exact decide_eq_decide.2 (by rw [h1, h2, h3, h4, h5, h6])
theorem expr_x (pr : Bool) : Ex D c rest (exprP reOk R pr) (exprP reOk R' pr) := fun l hl => by
 unfold exprP
 refine Sx.bnd hl (good_or reOk hg pr l hl) (or_x hc reOk hg h pr l hl) fun t l1 _ k1 => ?_
 have hn := k1.nx.2.2.1
 by_cases hq : fx l1 = [63]
 ·
  rw [if_pos hq, if_pos ((fx_rho hc k1 (by simp) (by decide)).2 hq), (tk_rho k1 (fx_kind hq (by simp))).2.2]
  refine Sx.bnd hn ((hg.E pr _ hn.nls.2.2).sub (s := false) hn.nls.1 (fun e => by cases e)) (Ex.nls (hg.E pr) (h.E pr) _ hn) fun u l2 _ k2 => ?_
  refine Sx.bnd k2 ((good_want (by decide) _ k2.nls.2.2).sub (s := false) k2.nls.1 (fun e => by cases e)) (want_nx (by decide) k2) fun _ l3 _ k3 => ?_
  exact Sx.bnd k3 ((hg.E pr _ k3.nls.2.2).sub (s := false) k3.nls.1 (fun e => by cases e)) (Ex.nls (hg.E pr) (h.E pr) _ k3) fun v l4 _ _ => Sx.ok _ l4
 ·
  rw [if_neg hq, if_neg (fun e => hq ((fx_rho hc k1 (by simp) (by decide)).1 e)), asgB_x hc k1]
  by_cases ha : (asgB (fx l1) && isPl t) = true
  ·
   have h0 : (tk l1).k ≠ 0 := fun e => by
    have hf : fx l1 = [] := by simp [fx, e]
    rw [hf] at ha
    simp [asgB] at ha
   have hk := tk_rho (c := c) (rest := rest) k1 h0
   rw [if_pos ha, if_pos ha, hk.1, hk.2.2]
   exact Sx.bnd hn ((hg.E pr _ hn.nls.2.2).sub (s := false) hn.nls.1 (fun e => by cases e)) (Ex.nls (hg.E pr) (h.E pr) _ hn) fun v l2 _ _ => Sx.ok _ l2
  ·
   rw [if_neg ha, if_neg ha]
   exact Sx.ok t l1
end
/-- With as many levels left, or (if D) with fewer. -/
theorem rc_x {D : Prop} {c : Tok} {rest : List Tok} (hc : Bd c) (reOk : List UInt8 → Bool) : ∀ n m : Nat, (m = n ∨ (D ∧ m ≤ n)) → RcX D c rest (rcP reOk n) (rcP reOk m)
 | 0, m, h => by
  refine ⟨fun pr l _ => Sx.err, fun l _ => Sx.err, fun l _ => Sx.err⟩
 | n + 1, 0, h => by
  have hD : D := by rcases h with h | h; omega; exact h.1
  exact ⟨fun pr l _ _ _ _ => .inr ⟨hD, _, rfl⟩, fun l _ _ _ _ => .inr ⟨hD, _, rfl⟩, fun l _ _ _ _ => .inr ⟨hD, _, rfl⟩⟩
 | n + 1, m + 1, h => by
  have ih := rc_x (rest := rest) hc reOk n m (by rcases h with h | h; exact .inl (by omega); exact .inr ⟨h.1, by omega⟩)
  have hg := good_rc reOk n
  exact ⟨expr_x hc reOk hg ih, unary_x hc reOk hg ih, field_x hc reOk hg ih⟩
end Go.Proofs.YtmbfdkiejneheaaGreatDoor
