/-
 MATHEMATICS of layer 13: a text that is one rule's expression, in ( and ).
-/
import Derived.Test.YtmbfdkiejneheaaGreatDoorPaE
import Derived.Test.YtmbfdkiejneheaaGreatDoorPaQf
import Derived.Test.YtmbfdkiejneheaaGreatDoorLxC41
namespace Go.Proofs.YtmbfdkiejneheaaGreatDoor

def oBlock : List UInt8 := [98, 108, 111, 99, 107]
def oDef : List UInt8 := [100, 101, 102, 97, 117, 108, 116]
def oProg : List UInt8 := [112, 114, 111, 103, 114, 97, 109]
theorem blockL_op (S : List Tok → TR PT) : ∀ (n : Nat) (l : List Tok) (ts : List PT) (t : PT) (l2 : List Tok), blockL S n l ts = .ok (t, l2) → t.op = oBlock
 | 0, _, _, _, _, h => by cases h
 | n + 1, l, ts, t, l2, h => by
  unfold blockL at h
  split at h
  · injection h with h; injection h with h _; subst h; rfl
  ·
   cases hx : S (sepsP l) with
   | error e => rw [hx, bnd_err] at h; cases h
   | ok x => obtain ⟨u, l3⟩ := x; rw [hx, bnd_ok] at h; exact blockL_op S n l3 _ t l2 h
theorem block_op {S : List Tok → TR PT} {l l2 : List Tok} {t : PT} (h : blockP S l = .ok (t, l2)) : t.op = oBlock := by
 unfold blockP at h
 cases hx : wantP [123] l with
 | error e => rw [hx, bnd_err] at h; cases h
 | ok x => obtain ⟨u, l3⟩ := x; rw [hx, bnd_ok] at h; exact blockL_op S _ _ _ t l2 h
theorem items_kids (reOk : List UInt8 → Bool) : ∀ (n : Nat) (l : List Tok) (ts : List PT) (t : PT) (l2 : List Tok), itemsL reOk n l ts = .ok (t, l2) → ts.length ≤ t.kids.length ∧ (t.kids.length = ts.length → t = nd oProg ts ∧ (tk (sepsP l)).k = 0 ∧ l2 = sepsP l)
 | 0, _, _, _, _, h => by cases h
 | n + 1, l, ts, t, l2, h => by
  unfold itemsL at h
  split at h
  ·
   rename_i hk
   injection h with h; injection h with h h2; subst h h2
   exact ⟨Nat.le_refl _, fun _ => ⟨rfl, hk, rfl⟩⟩
  ·
   cases hx : itemP reOk (sepsP l) with
   | error e => rw [hx, bnd_err] at h; cases h
   | ok x =>
    obtain ⟨u, l3⟩ := x
    rw [hx, bnd_ok] at h
    have := (items_kids reOk n l3 _ t l2 h).1
    rw [List.length_append, List.length_singleton] at this
    exact ⟨by omega, fun e => by omega⟩
/-- A program of one item. -/
theorem prog_one {reOk : List UInt8 → Bool} {l l2 : List Tok} {t q : PT} (h : progP reOk l = .ok (t, l2)) (hk : t.kids = [q]) : ∃ l3, (tk (sepsP l)).k ≠ 0 ∧ itemP reOk (sepsP l) = .ok (q, l3) ∧ t = nd oProg [q] ∧ (tk (sepsP l3)).k = 0 := by
 unfold progP itemsL at h
 split at h
 · injection h with h; injection h with h _; subst h; cases hk
 ·
  rename_i h0
  cases hx : itemP reOk (sepsP l) with
  | error e => rw [hx, bnd_err] at h; cases h
  | ok x =>
   obtain ⟨u, l3⟩ := x
   rw [hx, bnd_ok] at h
   have h1 := (items_kids reOk _ l3 _ t l2 h).2 (by rw [hk]; rfl)
   have h2 : q = u := by
    have := h1.1
    rw [this] at hk
    injection hk with hk _
    exact hk.symm
   subst h2
   exact ⟨l3, h0, rfl, h1.1, h1.2.1⟩
/-- A rule. -/
theorem item_rule {reOk : List UInt8 → Bool} {l l3 : List Tok} {q : PT} (h : itemP reOk l = .ok (q, l3)) (hq : q.op = oRule) : ∃ a b, q = nd oRule [a, b] ∧ (b.op = oDef → b = nd oDef [] ∧ (rcP reOk 50).E false l = .ok (a, l3) ∧ fx l ≠ [123]) := by
 unfold itemP at h
 split at h
 ·
  cases hx : blockP (stP reOk 50) (nx l) with
  | error e => rw [hx, bnd_err] at h; cases h
  | ok x => rw [hx, bnd_ok] at h; injection h with h; injection h with h _; subst h; exact absurd (show ([98, 101, 103, 105, 110] : List UInt8) = oRule from hq) (by decide)
 ·
  split at h
  ·
   cases hx : blockP (stP reOk 50) (nx l) with
   | error e => rw [hx, bnd_err] at h; cases h
   | ok x => rw [hx, bnd_ok] at h; injection h with h; injection h with h _; subst h; exact absurd (show ([101, 110, 100] : List UInt8) = oRule from hq) (by decide)
  ·
   split at h
   ·
    exfalso
    unfold funcP at h
    split at h
    ·
     cases hx : withinP [40] (argsP paramP) [41] (nx (nx l)) with
     | error e => rw [hx, bnd_err] at h; cases h
     | ok x =>
      rw [hx, bnd_ok] at h
      cases hy : blockP (stP reOk 50) (nlsP x.2) with
      | error e => rw [hy, bnd_err] at h; cases h
      | ok y => rw [hy, bnd_ok] at h; injection h with h; injection h with h _; subst h; exact absurd (show ([102, 117, 110, 99] : List UInt8) = oRule from hq) (by decide)
    · cases h
   ·
    split at h
    ·
     cases hx : blockP (stP reOk 50) l with
     | error e => rw [hx, bnd_err] at h; cases h
     | ok x =>
      obtain ⟨b, l4⟩ := x
      have hb := block_op hx
      rw [hx, bnd_ok] at h; injection h with h; injection h with h _; subst h
      exact ⟨_, b, rfl, fun e => by rw [hb] at e; exact absurd e (by decide)⟩
    ·
     rename_i hf
     cases hx : (rcP reOk 50).E false l with
     | error e => rw [hx, bnd_err] at h; cases h
     | ok x =>
      obtain ⟨a, l4⟩ := x
      rw [hx, bnd_ok] at h
      split at h
      ·
       cases hy : blockP (stP reOk 50) l4 with
       | error e => rw [hy, bnd_err] at h; cases h
       | ok y =>
        obtain ⟨b, l5⟩ := y
        have hb := block_op hy
        rw [hy, bnd_ok] at h; injection h with h; injection h with h _; subst h
        exact ⟨a, b, rfl, fun e => by rw [hb] at e; exact absurd e (by decide)⟩
      ·
       split at h
       ·
        injection h with h; injection h with h h2; subst h h2
        exact ⟨a, nd oDef [], rfl, fun _ => ⟨rfl, rfl, hf⟩⟩
       · cases h
/- no ; -/
theorem step_mem {rx : Bool} {l : List UInt8} {k : Nat} {t : List UInt8} {z : Nat} (h : stepL rx l = .tok k t z) (hk : k = 8 ∨ k = 7) : ∀ c ∈ t, c ∈ l := by
 cases l with
 | nil => cases h
 | cons e r =>
  rw [step_cons] at h
  split at h
  · cases h; omega
  split at h
  ·
   unfold St.ofQ at h
   split at h
   · cases h; omega
   · cases h
   · cases h
  split at h
  ·
   unfold St.ofQ at h
   split at h
   · cases h; omega
   · cases h
   · cases h
  split at h
  · cases h; exact fun c hc => List.mem_of_mem_take hc
  split at h
  · cases h; omega
  split at h
  · cases h; exact fun c hc => List.mem_of_mem_take hc
  · cases h
theorem lexF_mem : ∀ (n : Nat) (rx : Bool) (p : Nat) (l : List UInt8) (r : List Tok), lexF n rx p l = .ok r → ∀ x ∈ r, (x.k = 8 ∨ x.k = 7) → ∀ c ∈ x.t, c ∈ l
 | 0, _, _, _, _, h, x, hx, _, _, _ => by cases h; cases hx
 | n + 1, rx, p, l, r, h, x, hx, hk, c, hc => by
  unfold lexF at h
  cases hst : stepL rx (l.drop (blankL l)) with
  | bad o => rw [hst] at h; cases h
  | eof => rw [hst] at h; cases h; cases hx
  | tok k t z =>
   rw [hst] at h
   simp only [] at h
   cases hy : lexF n (rxA k t) (p + blankL l + z) (l.drop (blankL l + z)) with
   | error e => rw [hy] at h; cases h
   | ok r' =>
    rw [hy] at h
    cases h
    rcases List.mem_cons.1 hx with rfl | hx
    · exact List.mem_of_mem_drop (step_mem hst hk c hc)
    · exact List.mem_of_mem_drop (lexF_mem n _ _ _ _ hy x hx hk c hc)
theorem no_semi {s : List UInt8} {r : List Tok} (h : lexL s = .ok r) (h59 : (59 : UInt8) ∉ s) : ∀ x ∈ r, sepB x = decide (x.k = 1) := fun x hx => by
 unfold sepB
 by_cases hk : x.k = 8 ∨ x.k = 7
 ·
  by_cases ht : x.t = [59]
  · exact absurd (lexF_mem _ _ _ _ _ h x hx hk 59 (by rw [ht]; simp)) h59
  · simp [ht]
 · simp [hk]
theorem seps_nls : ∀ {l : List Tok}, (∀ x ∈ l, sepB x = decide (x.k = 1)) → sepsP l = nlsP l
 | [], _ => rfl
 | t :: l, h => by
  have ih := seps_nls (l := l) fun x hx => h x (by simp [hx])
  unfold sepsP nlsP at *
  rw [List.dropWhile_cons, List.dropWhile_cons, h t (by simp)]
  split
  · exact ih
  · rfl
/-- Alone at the end: what has no sign there. -/
theorem lone_fx (n : Nat) : fx [⟨0, [], n⟩] = [] := rfl
section
variable (reOk : List UInt8 → Bool) (R : Rc)
theorem chain_lone {part : List Tok → TR PT} {signs : List (List UInt8)} (hs : [] ∉ signs) {l : List Tok} {t : PT} {n : Nat} (h : part l = .ok (t, [⟨0, [], n⟩])) : chainP part signs l = .ok (t, [⟨0, [], n⟩]) := by
 unfold chainP
 rw [h, bnd_ok]
 show chainL part signs (0 + 1 + 1) [⟨0, [], n⟩] t = _
 unfold chainL
 rw [lone_fx, if_neg hs]
/-- What a bracketed thing is read as, up to an expression. -/
theorem expr_in {l : List Tok} {t : PT} {n : Nat} (hf : fx l = [40]) (hk : (tk l).k = 8) (h : withinP [40] (R.E false) [41] l = .ok (t, [⟨0, [], n⟩])) (pr : Bool) : exprP reOk R pr l = .ok (t, [⟨0, [], n⟩]) := by
 have h1 : primP reOk R l = .ok (t, [⟨0, [], n⟩]) := by
  unfold primP
  rw [if_neg (by omega), if_neg (by omega), if_neg (by omega), if_neg (by omega), if_neg (by omega), if_neg (by omega), if_pos hf, h]
 have h2 : postP reOk R l = .ok (t, [⟨0, [], n⟩]) := by
  unfold postP
  rw [if_neg (by unfold stepB; rw [hf]; decide), h1, bnd_ok]
  split
  · rw [lone_fx, if_neg (by decide), if_neg (by decide)]
  · rfl
 have h3 : unaryP reOk R l = .ok (t, [⟨0, [], n⟩]) := by
  unfold unaryP
  rw [hf, if_neg (by decide), if_neg (by decide), if_neg (by decide), h2]
 have h4 : sumP reOk R l = .ok (t, [⟨0, [], n⟩]) := chain_lone (by decide) (chain_lone (by decide) h3)
 have h5 : sideP reOk R l = .ok (t, [⟨0, [], n⟩]) := by
  unfold sideP
  rw [h4, bnd_ok]
  show sideL reOk R (0 + 1 + 1) [⟨0, [], n⟩] t = _
  unfold sideL
  rw [if_neg (by simp [valueB, tk, fx])]
 have h6 : relP reOk R pr l = .ok (t, [⟨0, [], n⟩]) := by
  unfold relP
  rw [h5, bnd_ok, lone_fx, if_neg (by cases pr <;> decide)]
 have h7 : inP reOk R pr l = .ok (t, [⟨0, [], n⟩]) := by
  unfold inP
  rw [show matchP reOk R pr l = .ok (t, [⟨0, [], n⟩]) from chain_lone (by decide) h6, bnd_ok]
  show inL (0 + 1 + 1) [⟨0, [], n⟩] t = _
  unfold inL
  rw [lone_fx, if_neg (by decide)]
 have h8 : orP reOk R pr l = .ok (t, [⟨0, [], n⟩]) := chain_lone (by decide) (chain_lone (by decide) h7)
 unfold exprP
 rw [h8, bnd_ok, lone_fx, if_neg (by decide), if_neg (by simp [asgB])]
theorem chain_err {part : List Tok → TR PT} {signs : List (List UInt8)} {l : List Tok} {e : Nat × Nat} (h : part l = .error e) : chainP part signs l = .error e := by
 unfold chainP; rw [h, bnd_err]
theorem expr_in_err {l : List Tok} {e : Nat × Nat} (hf : fx l = [40]) (hk : (tk l).k = 8) (h : withinP [40] (R.E false) [41] l = .error e) (pr : Bool) : exprP reOk R pr l = .error e := by
 have h1 : primP reOk R l = .error e := by
  unfold primP
  rw [if_neg (by omega), if_neg (by omega), if_neg (by omega), if_neg (by omega), if_neg (by omega), if_neg (by omega), if_pos hf, h]
 have h2 : postP reOk R l = .error e := by
  unfold postP
  rw [if_neg (by unfold stepB; rw [hf]; decide), h1, bnd_err]
 have h3 : unaryP reOk R l = .error e := by
  unfold unaryP
  rw [hf, if_neg (by decide), if_neg (by decide), if_neg (by decide), h2]
 have h4 : sumP reOk R l = .error e := chain_err (chain_err h3)
 have h5 : sideP reOk R l = .error e := by unfold sideP; rw [h4, bnd_err]
 have h6 : relP reOk R pr l = .error e := by unfold relP; rw [h5, bnd_err]
 have h7 : inP reOk R pr l = .error e := by
  unfold inP
  rw [show matchP reOk R pr l = .error e from chain_err h6, bnd_err]
 have h8 : orP reOk R pr l = .error e := chain_err (chain_err h7)
 unfold exprP
 rw [h8, bnd_err]
end
theorem nls_app {x : Tok} (hx : x.k ≠ 1) {m : List Tok} : ∀ {l : List Tok}, (∀ y ∈ l, y.k = 1) → nlsP (l ++ x :: m) = x :: m
 | [], _ => by unfold nlsP; rw [List.nil_append, List.dropWhile_cons, if_neg (by simp [hx])]
 | y :: l, h => by
  have ih := nls_app hx (m := m) (l := l) fun z hz => h z (by simp [hz])
  unfold nlsP at ih ⊢
  rw [List.cons_append, List.dropWhile_cons, if_pos (by simp [h y (by simp)])]
  exact ih
/-- Nothing but Newlines ahead of the end. -/
theorem nls_only {l : List Tok} (hl : Tl l) (h0 : (tk (nlsP l)).k = 0) : ∃ l0 e, l = l0 ++ [e] ∧ e.k = 0 ∧ ∀ y ∈ l0, y.k = 1 := by
 induction l with
 | nil => exact absurd rfl hl.ne
 | cons t r ih =>
  obtain ⟨t', r', he, h1⟩ := hl.cons
  obtain ⟨rfl, rfl⟩ : t = t' ∧ r = r' := by simpa using he
  rcases h1 with h1 | h1
  · exact ⟨[], t, by rw [h1.2]; rfl, h1.1, fun _ h => by cases h⟩
  ·
   unfold nlsP at h0 ih
   rw [List.dropWhile_cons] at h0
   by_cases hk : t.k = 1
   ·
    rw [if_pos (by simp [hk])] at h0
    obtain ⟨l0, e, h2, h3, h4⟩ := ih h1.2 h0
    exact ⟨t :: l0, e, by rw [h2]; rfl, h3, fun y hy => by rcases List.mem_cons.1 hy with rfl | hy; exact hk; exact h4 y hy⟩
   ·
    rw [if_neg (by simp [hk])] at h0
    exact absurd h0 h1.1
theorem map_one {t : PT} : ∀ {l : List PT}, l.map fl = [fl t] → ∃ q, l = [q] ∧ fl q = fl t
 | [], h => by cases h
 | [q], h => ⟨q, rfl, by simpa using h⟩
 | _ :: _ :: _, h => by simp at h
theorem fl_opeq {t u : PT} (h : fl t = fl u) : t.op = u.op := by rw [← fl_op t, h, fl_op]
/-- P13.1: in ( and ) an expression stands as alone, or it is too deep. -/
theorem parse_inner {reOk : List UInt8 → Bool} {s : List UInt8} {t q a b : PT} (h : parseW reOk s = .ok t) (hk : t.kids = [q]) (hq : q.op = oRule) (hkk : q.kids = [a, b]) (hb : b.op = oDef) (h35 : (35 : UInt8) ∉ s) (h59 : (59 : UInt8) ∉ s) :
  (∃ p, parseW reOk (40 :: (s ++ [41])) = .error (p, 14)) ∨ ∃ u, parseW reOk (40 :: (s ++ [41])) = .ok u ∧ fl u = fl t := by
 obtain ⟨r, l2, hl, hp⟩ := parseW_ok h
 have hx := lex_in hl h35
 obtain ⟨n, hn⟩ : ∃ n, (40 :: (s ++ [41])).length = n := ⟨_, rfl⟩
 have htl := lex_tl hx n
 obtain ⟨r1, hr1⟩ : ∃ r1, r.map (Tok.by 1) = r1 := ⟨_, rfl⟩
 have hsm : ∀ x ∈ r1 ++ [(⟨0, [], n⟩ : Tok)], sepB x = decide (x.k = 1) := fun x hx2 => by
  rcases List.mem_append.1 hx2 with h1 | h1
  ·
   rw [← hr1] at h1
   obtain ⟨y, hy, rfl⟩ := List.mem_map.1 h1
   exact no_semi hl h59 y hy
  · rw [List.mem_singleton] at h1; subst h1; rfl
 have htr : Tl (r1 ++ [(⟨0, [], n⟩ : Tok)]) := by
  refine ⟨r1, _, rfl, rfl, fun x hx2 => ?_⟩
  rw [← hr1] at hx2
  obtain ⟨y, hy, rfl⟩ := List.mem_map.1 hx2
  exact (rise_mem (lex_rise hl) y hy).1
 obtain ⟨u0, m2, hu, hfl, _⟩ := prog_alike (m := r1 ++ [⟨0, [], n⟩]) (by rw [List.map_append, List.map_append, ← hr1, fk_by]; rfl) hp
 have hkids : u0.kids.map fl = [fl q] := by rw [← fl_kids, hfl, fl_kids, hk]; rfl
 obtain ⟨q1, hq1, hfq⟩ := map_one hkids
 obtain ⟨l3, h0, hit, hu0, hend⟩ := prog_one hu hq1
 obtain ⟨a1, b1, hqq, hdef⟩ := item_rule hit (by rw [fl_opeq hfq]; exact hq)
 have hb1 : b1.op = oDef := by
  have h1 : (q1.kids).map fl = q.kids.map fl := by rw [← fl_kids, hfq, fl_kids]
  rw [hqq, hkk] at h1
  have h2 : fl b1 = fl b := by
   have : [fl a1, fl b1] = [fl a, fl b] := h1
   injection this with _ h3
   injection h3
  rw [fl_opeq h2]; exact hb
 obtain ⟨hbd, hE, hf123⟩ := hdef hb1
 rw [seps_nls hsm] at h0 hE
 have hl0 := htr.nls
 have hg3 := (good_rc reOk 50).E false _ hl0.2.2
 rw [hE] at hg3
 have hl3 : Tl l3 := hl0.2.2.suf hg3.1 hg3.2.1
 rw [seps_nls (l := l3) (fun x hx2 => hsm x (hl0.1.subset (hg3.1.subset hx2)))] at hend
 obtain ⟨l30, e, rfl, _, hnl⟩ := nls_only hl3 hend
 obtain ⟨c, hc⟩ : ∃ c : Tok, c = ⟨8, [41], s.length + 1⟩ := ⟨_, rfl⟩
 have hcb : Bd c := by rw [hc]; exact .inr ⟨rfl, rfl⟩
 have hck : c.k ≠ 1 := by rw [hc]; simp
 have hrho : rho c [(⟨0, [], n⟩ : Tok)] (r1 ++ [⟨0, [], n⟩]) = r1 ++ [c] ++ [⟨0, [], n⟩] := by
  unfold rho; rw [List.dropLast_concat, List.append_assoc]; rfl
 have hrho3 : rho c [(⟨0, [], n⟩ : Tok)] (l30 ++ [e]) = l30 ++ c :: [⟨0, [], n⟩] := by
  unfold rho; rw [List.dropLast_concat]
 have hres := (rc_x (D := True) (rest := [(⟨0, [], n⟩ : Tok)]) hcb reOk 50 49 (.inr ⟨trivial, by omega⟩)).E false _ hl0.2.2 a1 (l30 ++ [e]) hE
 rw [hrho3, ← nls_rho htr h0, hrho] at hres
 -- the tokens of the bracketed text
 obtain ⟨T, hT⟩ : ∃ T, (⟨8, [40], 0⟩ : Tok) :: (r1 ++ [c] ++ [⟨0, [], n⟩]) = T := ⟨_, rfl⟩
 have hf : fx T = [40] := by rw [← hT]; rfl
 have hk8 : (tk T).k = 8 := by rw [← hT]; rfl
 have hnx : nx T = r1 ++ [c] ++ [⟨0, [], n⟩] := by rw [← hT]; rfl
 have hsT : sepsP T = T := by rw [← hT]; unfold sepsP; rw [List.dropWhile_cons, if_neg (by simp [sepB])]
 have hlex : lexL (40 :: (s ++ [41])) = .ok ((⟨8, [40], 0⟩ : Tok) :: (r1 ++ [c])) := by rw [hx, hr1, hc]
 have hTT : ((⟨8, [40], 0⟩ : Tok) :: (r1 ++ [c])) ++ [⟨0, [], (40 :: (s ++ [41])).length⟩] = T := by rw [hn, ← hT]; rfl
 have hitem : itemP reOk T = bnd ((rcP reOk 50).E false T) fun e l2 => if fx l2 = [123] then bnd (blockP (stP reOk 50) l2) fun b l3 => .ok (nd oRule [e, b], l3) else if (tk l2).k = 1 ∨ (tk l2).k = 0 ∨ fx l2 = [59] then .ok (nd oRule [e, nd [100, 101, 102, 97, 117, 108, 116] []], l2) else .error (refE l2) := by
  unfold itemP
  rw [hf, if_neg (by decide), if_neg (by decide), if_neg (by decide), if_neg (by decide)]
 have hprog : progP reOk T = bnd (itemP reOk T) fun t l2 => itemsL reOk T.length l2 ([] ++ [t]) := by
  unfold progP
  conv => lhs; unfold itemsL
  rw [hsT, if_neg (by omega)]
 rcases hres with hres | ⟨_, p, hres⟩
 ·
  right
  have hw : withinP [40] ((rcP reOk 49).E false) [41] T = .ok (a1, [⟨0, [], n⟩]) := by
   unfold withinP wantP
   rw [if_pos hf, bnd_ok, hnx, hres, bnd_ok, nls_app hck hnl, if_pos (by rw [hc]; rfl), bnd_ok]
   rw [hc]; rfl
  have he := expr_in reOk (rcP reOk 49) hf hk8 hw false
  refine ⟨u0, parseW_of hlex (l2 := [⟨0, [], n⟩]) ?_, hfl⟩
  rw [hTT, hprog, hitem, show (rcP reOk 50).E false T = .ok (a1, [⟨0, [], n⟩]) from he, bnd_ok, lone_fx, if_neg (by decide), if_pos (.inr (.inl rfl)), bnd_ok]
  rw [hu0, hqq, hbd]
  obtain ⟨k, hk2⟩ : ∃ k, T.length = k + 1 := ⟨T.length - 1, by rw [← hT]; simp⟩
  rw [hk2]
  unfold itemsL
  exact if_pos rfl
 ·
  left
  have hw : withinP [40] ((rcP reOk 49).E false) [41] T = .error (p, 14) := by
   unfold withinP wantP
   rw [if_pos hf, bnd_ok, hnx, hres, bnd_err]
  have he := expr_in_err reOk (rcP reOk 49) hf hk8 hw false
  refine ⟨p, ?_⟩
  unfold parseW
  rw [hlex]
  simp only
  rw [hTT, hprog, hitem, show (rcP reOk 50).E false T = .error (p, 14) from he, bnd_err, bnd_err]
end Go.Proofs.YtmbfdkiejneheaaGreatDoor
