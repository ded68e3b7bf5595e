/-
  CONTRACT of layer 10's link: a piece's leaves may stand behind another's.
-/
import Derived.Test.YtmlpkimbcjkbkaaGreatDoorMtW4
import Derived.Test.YtmlpkimbcjkbkaaGreatDoorOrd
import Derived.Deep.DeepCutAuto
import Derived.Deep.CutBlock
namespace Go.Proofs.YtmlpkimbcjkbkaaGreatDoor
open Go.RowKit
attribute [local go_sem] Oper.semAt_some

/-- One value lies in block b. -/
def BC (V : World) (b : Nat) (v : Value) : Prop := V.heap[b]? = some (.cells #[v] 95 (0, 0))
theorem BC.lt {V : World} {b : Nat} {v : Value} (h : BC V b v) : b < V.heap.size := (Array.getElem?_eq_some_iff.1 h).1
theorem BC.next {V V' : World} {b : Nat} {v : Value} (h : BC V b v) (hb : Below V.heap.size V V') : BC V' b v := (hb.block b h.lt).trans h
theorem BC.new (V : World) (v : Value) : BC (V.alloc (.cells #[v] 95)) V.heap.size v := mt_heap_new _ _
theorem BC.set {V : World} {b : Nat} {v : Value} (h : BC V b v) (u : Value) : BC (V.setCell ⟨b, 0, none⟩ u) b u := rg_setCell h u
theorem BC.setNe {V : World} {b k : Nat} {v : Value} (h : BC V b v) (hk : b ≠ k) (u : Value) : BC (V.setCell ⟨k, 0, none⟩ u) b v := (Below.heap_setCell V ⟨k, 0, none⟩ u b hk).trans h
/-- Behind link's first line. -/
def LkR (W V : World) (P Q : Nat) (x y : Value) : Prop := Below W.heap.size W V ∧ W.heap.size ≤ P ∧ W.heap.size ≤ Q ∧ BC V P x ∧ BC V Q y
theorem lk_fin {W V : World} {P Q : Nat} {x y u v : Value} (h : Below W.heap.size W V) (hP : BC V P u) (hQ : BC V Q v) (hp : W.heap.size ≤ P) (hq : W.heap.size ≤ Q) (hne : P ≠ Q) : LkR W ((V.setCell ⟨P, 0, none⟩ x).setCell ⟨Q, 0, none⟩ y) P Q x y :=
  ⟨(h.setCell hp x).setCell hq y, hp, hq, (hP.set x).setNe hne y, (hQ.setNe (Ne.symm hne) x).set y⟩
structure Bq (w : World) (d : Bd) (n : Nat) (T A B : Nat → Nat → Prop) : Prop where
  blk : w.heap[d.b]? = some (.cells #[.pointer (some ⟨d.p, 0, none⟩), .int .i64 (n : Int)] 91 (0, 0))
  prog : w.heap[d.p]? = some (.cells d.prog 93 (0, 0))
  tk : Tb w d.t 256 d.m T
  ah : Tb w d.a d.L d.m A
  bh : Tb w d.h d.L d.m B
  dz : Dz w
theorem Bl.q {w : World} {d : Bd} {n : Nat} {T B : Nat → Nat → Prop} (h : Bl w d n T B) : Bq w d n T (fun r x => B x r) B := ⟨h.blk, h.prog, h.tk, h.ah, h.bh, h.dz⟩
section
variable {w w' : World} {d : Bd} {n : Nat} {T A B : Nat → Nat → Prop}
theorem Bq.kept (h : Bq w d n T A B) (hk : ∀ k, k = d.b ∨ k = d.p ∨ k = d.t ∨ k = d.a ∨ k = d.h ∨ k = (0 : Nat) → k < w.heap.size → w'.heap[k]? = w.heap[k]?) : Bq w' d n T A B :=
  ⟨(hk _ (.inl rfl) (Array.getElem?_eq_some_iff.1 h.blk).1).trans h.blk, (hk _ (.inr (.inl rfl)) (Array.getElem?_eq_some_iff.1 h.prog).1).trans h.prog, h.tk.kept (hk _ (.inr (.inr (.inl rfl))) h.tk.lt),
    h.ah.kept (hk _ (.inr (.inr (.inr (.inl rfl)))) h.ah.lt), h.bh.kept (hk _ (.inr (.inr (.inr (.inr (.inl rfl))))) h.bh.lt), h.dz.kept (hk _ (.inr (.inr (.inr (.inr (.inr rfl))))) h.dz.lt)⟩
theorem Bq.next (h : Bq w d n T A B) (hb : Below w.heap.size w w') : Bq w' d n T A B := h.kept fun k _ hl => hb.block k hl
theorem Bq.lt (h : Bq w d n T A B) : d.b < w.heap.size ∧ d.p < w.heap.size ∧ d.t < w.heap.size ∧ d.a < w.heap.size ∧ d.h < w.heap.size := ⟨(Array.getElem?_eq_some_iff.1 h.blk).1, (Array.getElem?_eq_some_iff.1 h.prog).1, h.tk.lt, h.ah.lt, h.bh.lt⟩
end
set_option maxHeartbeats 8000000 in
set_option maxRecDepth 100000 in
theorem mlink_any {w : World} {d : Bd} {n : Nat} {T B : Nat → Nat → Prop} (hd : d.ok) (h : Bl w d n T B) {E E2 : Nat → Bool} {gf gl gf2 gl2 : Nat} {U V : Nat → Nat → Prop} (hl : Tb w gl 4 d.m U) (hf : Tb w gf2 4 d.m V)
    (h1 : gl ≠ d.a ∧ gl ≠ d.h ∧ gf2 ≠ d.a ∧ gf2 ≠ d.h) (hU : ∀ x, U 0 x → x < d.L) (hV : ∀ x, V 0 x → x < d.L) :
    Calls Tryz.prog 76 #[.pointer (some ⟨d.b, 0, none⟩), pcV d.m E gf gl, pcV d.m E2 gf2 gl2] w fun e w' => e = .returned (.tuple #[]) ∧ Bl w' d n T (fun r x => B r x ∨ (U 0 r ∧ V 0 x)) ∧ Chg (fun k => k = d.a ∨ k = d.h) w w' := by
  have hdm := hd.m
  have hdL := hd.L
  have h4m : 4 * d.m ≤ 1000000000 := by omega
  have hLm : d.L * d.m ≤ 1000000000 := by
    have := Nat.mul_le_mul hdL hdm
    omega
  obtain ⟨o1, ho1⟩ : ∃ o1, rwO 4 d.m 0 = o1 := ⟨_, rfl⟩
  obtain ⟨c1, hc1⟩ : ∃ c1, 4 * d.m - 0 * d.m = c1 := ⟨_, rfl⟩
  have HO1 : Hid (0 < d.m → o1 = 0 * d.m) := Lib.hid (by rw [← ho1]; exact rwO_eq (by omega))
  have CR1 : Hid (∀ W, Calls Tryz.prog 41 #[.agg #[.int .i64 (d.m : Int), .slice (some ⟨gl, 0, none⟩) (4 * d.m) (4 * d.m)], .int .i64 0] W fun e w' => e = .returned (.slice (some ⟨gl, o1, none⟩) d.m c1) ∧ Below W.heap.size W w') := Lib.hid fun W =>
    (mrow_any gl 4 d.m 0 (by omega) h4m (by omega) W).mono fun e w' ⟨h1, h2⟩ => ⟨by rw [h1, ← ho1, ← hc1]; rfl, by rw [h2]; exact (Below.refl _ _).alloc (Nat.le_refl _) _⟩
  have CR2 : Hid (∀ W, Calls Tryz.prog 41 #[.agg #[.int .i64 (d.m : Int), .slice (some ⟨gf2, 0, none⟩) (4 * d.m) (4 * d.m)], .int .i64 0] W fun e w' => e = .returned (.slice (some ⟨gf2, o1, none⟩) d.m c1) ∧ Below W.heap.size W w') := Lib.hid fun W =>
    (mrow_any gf2 4 d.m 0 (by omega) h4m (by omega) W).mono fun e w' ⟨h1, h2⟩ => ⟨by rw [h1, ← ho1, ← hc1]; rfl, by rw [h2]; exact (Below.refl _ _).alloc (Nat.le_refl _) _⟩
  clear ho1 hc1
  have HBL := Lib.hid h
  have HL := Lib.hid hl
  have HF := Lib.hid hf
  have HD := Lib.hid hd
  have HNE := Lib.hid h1
  have HU := Lib.hid hU
  have HV := Lib.hid hV
  have hlt := h.lt
  have hgll := hl.lt
  have hgfl := hf.lt
  clear h hl hf hd h1 hU hV
  obtain ⟨W1, hW1⟩ : ∃ W1, ((w.alloc (.cells #[.pointer (some ⟨d.b, 0, none⟩)] 84)).alloc (.cells #[.bool (E 0), .bool (E 1), .bool (E 2), .bool (E 3), .int .i64 (d.m : Int), .slice (some ⟨gf, 0, none⟩) (4 * d.m) (4 * d.m), .int .i64 (d.m : Int), .slice (some ⟨gl, 0, none⟩) (4 * d.m) (4 * d.m)] 88)).alloc (.cells #[.bool (E2 0), .bool (E2 1), .bool (E2 2), .bool (E2 3), .int .i64 (d.m : Int), .slice (some ⟨gf2, 0, none⟩) (4 * d.m) (4 * d.m), .int .i64 (d.m : Int), .slice (some ⟨gl2, 0, none⟩) (4 * d.m) (4 * d.m)] 88) = W1 := ⟨_, rfl⟩
  have hbA : Below w.heap.size w W1 := by rw [← hW1]; exact (((Below.refl _ _).alloc (Nat.le_refl _) _).alloc (by simp) _).alloc (by simp; omega) _
  have hzA : W1.heap.size = w.heap.size + 3 := by rw [← hW1]; simp
  have hx0 : W1.heap[w.heap.size]? = some (.cells #[.pointer (some ⟨d.b, 0, none⟩)] 84 (0, 0)) := by rw [← hW1]; exact (Below.heap_alloc _ _ _ (by simp; omega)).trans ((Below.heap_alloc _ _ _ (by simp)).trans (mt_heap_new _ _))
  have hx1 : W1.heap[w.heap.size + 1]? = some (.cells #[.bool (E 0), .bool (E 1), .bool (E 2), .bool (E 3), .int .i64 (d.m : Int), .slice (some ⟨gf, 0, none⟩) (4 * d.m) (4 * d.m), .int .i64 (d.m : Int), .slice (some ⟨gl, 0, none⟩) (4 * d.m) (4 * d.m)] 88 (0, 0)) := by
    rw [← hW1]
    have := mt_heap_new (w.alloc (.cells #[.pointer (some ⟨d.b, 0, none⟩)] 84)) (.cells #[.bool (E 0), .bool (E 1), .bool (E 2), .bool (E 3), .int .i64 (d.m : Int), .slice (some ⟨gf, 0, none⟩) (4 * d.m) (4 * d.m), .int .i64 (d.m : Int), .slice (some ⟨gl, 0, none⟩) (4 * d.m) (4 * d.m)] 88)
    rw [World.size_alloc] at this
    exact (Below.heap_alloc _ _ _ (by simp)).trans this
  have hx2 : W1.heap[w.heap.size + 1 + 1]? = some (.cells #[.bool (E2 0), .bool (E2 1), .bool (E2 2), .bool (E2 3), .int .i64 (d.m : Int), .slice (some ⟨gf2, 0, none⟩) (4 * d.m) (4 * d.m), .int .i64 (d.m : Int), .slice (some ⟨gl2, 0, none⟩) (4 * d.m) (4 * d.m)] 88 (0, 0)) := by
    rw [← hW1]
    have := mt_heap_new ((w.alloc (.cells #[.pointer (some ⟨d.b, 0, none⟩)] 84)).alloc (.cells #[.bool (E 0), .bool (E 1), .bool (E 2), .bool (E 3), .int .i64 (d.m : Int), .slice (some ⟨gf, 0, none⟩) (4 * d.m) (4 * d.m), .int .i64 (d.m : Int), .slice (some ⟨gl, 0, none⟩) (4 * d.m) (4 * d.m)] 88)) (.cells #[.bool (E2 0), .bool (E2 1), .bool (E2 2), .bool (E2 3), .int .i64 (d.m : Int), .slice (some ⟨gf2, 0, none⟩) (4 * d.m) (4 * d.m), .int .i64 (d.m : Int), .slice (some ⟨gl2, 0, none⟩) (4 * d.m) (4 * d.m)] 88)
    rwa [World.size_alloc, World.size_alloc] at this
  have HX0 := Lib.hid hx0
  have HSK : Hid (∀ V, Below W1.heap.size W1 V → V.cell? ⟨w.heap.size + 1, 6, none⟩ = some (.int .i64 (d.m : Int)) ∧ V.cell? ⟨w.heap.size + 1, 7, none⟩ = some (.slice (some ⟨gl, 0, none⟩) (4 * d.m) (4 * d.m)) ∧ V.cell? ⟨w.heap.size + 1 + 1, 4, none⟩ = some (.int .i64 (d.m : Int)) ∧ V.cell? ⟨w.heap.size + 1 + 1, 5, none⟩ = some (.slice (some ⟨gf2, 0, none⟩) (4 * d.m) (4 * d.m)) ∧ Below W1.heap.size W1 V) := Lib.hid fun V hV => by
    have e1 := (hV.block (w.heap.size + 1) (by omega)).trans hx1
    have e2 := (hV.block (w.heap.size + 1 + 1) (by omega)).trans hx2
    exact ⟨rg_cell e1, rg_cell e1, rg_cell e2, rg_cell e2, hV⟩
  have HBA := Lib.hid hbA
  have HW1 := Lib.hid hW1
  clear hbA hx0 hx1 hx2 hW1
  refine (callsIn_wide (n := 6)).1 ?_
  refine callsIn_of_wp_marks Tryz.func76 rfl trivial ?_ rfl
  simp only [Tryz.ntmps76, List.size_toArray, List.length_cons, List.length_nil, Nat.reduceAdd, Nat.reduceSub, Array.replicate_succ, Array.replicate_zero, List.push_toArray, List.append_toArray, List.nil_append, List.cons_append]
  refine wpIn_wide.2 ?_
  unfold pcV
  go_upto_region 1 with fail
  rw [HW1.out]
  clear HW1
  go_cut [6, 7] from 10 to 43 (fun v6 v7 wx => ∃ P Q : Nat, v6 = .pointer (some ⟨P, 0, none⟩) ∧ v7 = .pointer (some ⟨Q, 0, none⟩) ∧ P ≠ Q ∧ Hid (LkR W1 wx P Q (.slice (some ⟨gl, o1, none⟩) d.m c1) (.slice (some ⟨gf2, o1, none⟩) d.m c1)))
  case first =>
    refine wp_mono (Q := NoP _) ?_ (fun e a w h => h.2)
    refine wp_region_L (st := [8, 9]) (S := fun V => V.cell? ⟨w.heap.size + 1, 6, none⟩ = some (.int .i64 (d.m : Int)) ∧ V.cell? ⟨w.heap.size + 1, 7, none⟩ = some (.slice (some ⟨gl, 0, none⟩) (4 * d.m) (4 * d.m)) ∧ V.cell? ⟨w.heap.size + 1 + 1, 4, none⟩ = some (.int .i64 (d.m : Int)) ∧ V.cell? ⟨w.heap.size + 1 + 1, 5, none⟩ = some (.slice (some ⟨gf2, 0, none⟩) (4 * d.m) (4 * d.m)) ∧ Below W1.heap.size W1 V) (by kernel_rfl) (HSK.out _ (drew_below W1)) (fun hHeld => ?_)
    generalize W1.drew = w8 at *
    refine wpAnyL_take (i := 0) (oi := _) (v := ?_) rfl (by kernel_rfl) (by kernel_rfl) (by kernel_rfl) (by decide) (by kernel_rfl) (by kernel_rfl) (by kernel_rfl) (fun c _ _ h => absurd rfl (h.1 c)) (Or.inl ⟨by rfl, ?_⟩) (by assumption) ?_
    rotate_left
    · (intro w hSw; obtain ⟨q1, q2, q3, q4, _⟩ := hSw; go_simp; try with_reducible rfl)
    try simp only [nrm]
    refine wpAnyL_take (i := 1) (oi := _) (v := ?_) rfl (by kernel_rfl) (by kernel_rfl) (by kernel_rfl) (by decide) (by kernel_rfl) (by kernel_rfl) (by kernel_rfl) (fun c _ _ h => absurd rfl (h.1 c)) (Or.inl ⟨by rfl, ?_⟩) (by assumption) ?_
    rotate_left
    · (intro w hSw; obtain ⟨q1, q2, q3, q4, _⟩ := hSw; go_simp; try with_reducible rfl)
    try simp only [nrm]
    refine wpAnyL_take (i := 3) (oi := _) (v := ?_) rfl (by kernel_rfl) (by kernel_rfl) (by kernel_rfl) (by decide) (by kernel_rfl) (by kernel_rfl) (by kernel_rfl) (fun c _ _ h => absurd rfl (h.1 c)) (Or.inl ⟨by rfl, ?_⟩) (by assumption) ?_
    rotate_left
    · (intro w hSw; obtain ⟨q1, q2, q3, q4, _⟩ := hSw; go_simp; try with_reducible rfl)
    try simp only [nrm]
    refine wpAnyL_take (i := 4) (oi := _) (v := ?_) rfl (by kernel_rfl) (by kernel_rfl) (by kernel_rfl) (by decide) (by kernel_rfl) (by kernel_rfl) (by kernel_rfl) (fun c _ _ h => absurd rfl (h.1 c)) (Or.inl ⟨by rfl, ?_⟩) (by assumption) ?_
    rotate_left
    · (intro w hSw; obtain ⟨q1, q2, q3, q4, _⟩ := hSw; go_simp; try with_reducible rfl)
    try simp only [nrm]
    refine wpAnyL_ready (rs := [2, 6, 7]) (by kernel_rfl) (by simp) ?_
    refine AllReadyL.cons (o := _) rfl (fun K hK => ?_) (AllReadyL.cons (o := _) rfl (fun K hK => ?_) (AllReadyL.cons (o := _) rfl (fun K hK => ?_) AllReadyL.nil))
    · go_simp
      refine (CR1.out _).mono ?_
      rintro e w9 ⟨rfl, hb9⟩
      have hHeld9 := HSK.out _ (hHeld.2.2.2.2.trans (hb9.mono hHeld.2.2.2.2.size))
      refine hK.out _ _ hHeld9 (fun hHeld => ?_)
      clear hK K hb9 hHeld9
      obtain ⟨w8, hw8⟩ : ∃ x, x = w9 := ⟨_, rfl⟩
      subst hw8
      try simp only [nrm]
      refine wpAnyL_ready (rs := [5, 6, 7]) (by kernel_rfl) (by simp) ?_
      refine AllReadyL.cons (o := _) rfl (fun K hK => ?_) (AllReadyL.cons (o := _) rfl (fun K hK => ?_) (AllReadyL.cons (o := _) rfl (fun K hK => ?_) AllReadyL.nil))
      · go_simp
        refine (CR2.out _).mono ?_
        rintro e w9 ⟨rfl, hb9⟩
        have hHeld9 := HSK.out _ (hHeld.2.2.2.2.trans (hb9.mono hHeld.2.2.2.2.size))
        refine hK.out _ _ hHeld9 (fun hHeld => ?_)
        clear hK K hb9 hHeld9
        obtain ⟨w8, hw8⟩ : ∃ x, x = w9 := ⟨_, rfl⟩
        subst hw8
        try simp only [nrm]
        refine wpAnyL_ready (rs := [6, 7]) (by kernel_rfl) (by simp) ?_
        refine AllReadyL.cons (o := _) rfl (fun K hK => ?_) (AllReadyL.cons (o := _) rfl (fun K hK => ?_) AllReadyL.nil)
        · go_simp
          have hba : Below w8.heap.size w8 (w8.alloc (Obj.cells #[.slice none 0 0] 95)) := (Below.refl _ _).alloc (Nat.le_refl _) _
          have h6 := BC.new w8 (.slice none 0 0)
          have hl6 := hHeld.2.2.2.2.size
          refine hK.out _ _ (HSK.out _ (hHeld.2.2.2.2.trans (hba.mono hHeld.2.2.2.2.size))) (fun hHeld => ?_)
          clear hK K hba
          generalize w8.heap.size = P6 at *
          generalize w8.alloc (Obj.cells #[.slice none 0 0] 95) = w9 at *
          obtain ⟨w8, hw8⟩ : ∃ x, x = w9 := ⟨_, rfl⟩
          subst hw8
          try simp only [nrm]
          refine rdL 7 rfl (fun K hK => ?_)
          go_simp
          have hba : Below w8.heap.size w8 (w8.alloc (Obj.cells #[.slice none 0 0] 95)) := (Below.refl _ _).alloc (Nat.le_refl _) _
          have h7 := BC.new w8 (.slice none 0 0)
          have hl7 := hHeld.2.2.2.2.size
          have hne : P6 ≠ w8.heap.size := Nat.ne_of_lt h6.lt
          have h6 := h6.next hba
          refine hK.out _ _ (HSK.out _ (hHeld.2.2.2.2.trans (hba.mono hHeld.2.2.2.2.size))) (fun hHeld => ?_)
          clear hK K hba
          generalize w8.heap.size = P7 at *
          generalize w8.alloc (Obj.cells #[.slice none 0 0] 95) = w9 at *
          obtain ⟨w8, hw8⟩ : ∃ x, x = w9 := ⟨_, rfl⟩
          subst hw8
          try simp only [nrm]
          have HFIN := Lib.hid (fun x y => lk_fin (x := x) (y := y) hHeld.2.2.2.2 h6 h7 hl6 hl7 (by first | exact hne | exact Ne.symm hne))
          have HNE67 := Lib.hid (show P6 ≠ P7 by first | exact hne | exact Ne.symm hne)
          have z6 : w8.cell? ⟨P6, 0, none⟩ = some (.slice none 0 0) := rg_cell h6
          have f6 : w8.frozen? ⟨P6, 0, none⟩ = false := rg_frozen h6
          have z7 : w8.cell? ⟨P7, 0, none⟩ = some (.slice none 0 0) := rg_cell h7
          have f7 : w8.frozen? ⟨P7, 0, none⟩ = false := rg_frozen h7
          refine wpAnyL_ready (rs := [8]) (by kernel_rfl) (by simp) ?_
          refine AllReadyL.store (o := _) rfl (by decide) (by decide) (fun K hK => ?_) AllReadyL.nil
          go_simp
          refine hK.out _ _ ?_
          clear hK K
          try simp only [nrm]
          refine wpAnyL_ready (rs := [9]) (by kernel_rfl) (by simp) ?_
          refine AllReadyL.store (o := _) rfl (by decide) (by decide) (fun K hK => ?_) AllReadyL.nil
          go_simp
          refine hK.out _ _ ?_
          clear hK K
          try simp only [nrm]
          refine wpAnyL_done (by kernel_rfl) ?_ _
          refine ⟨fun c h => (by cases h), ?_⟩
          go_wp2_with fail
          go_meet
          exact ⟨P6, P7, rfl, rfl, HNE67.out, Lib.hid (HFIN.out _ _)⟩
        · go_simp
          have hba : Below w8.heap.size w8 (w8.alloc (Obj.cells #[.slice none 0 0] 95)) := (Below.refl _ _).alloc (Nat.le_refl _) _
          have h7 := BC.new w8 (.slice none 0 0)
          have hl7 := hHeld.2.2.2.2.size
          refine hK.out _ _ (HSK.out _ (hHeld.2.2.2.2.trans (hba.mono hHeld.2.2.2.2.size))) (fun hHeld => ?_)
          clear hK K hba
          generalize w8.heap.size = P7 at *
          generalize w8.alloc (Obj.cells #[.slice none 0 0] 95) = w9 at *
          obtain ⟨w8, hw8⟩ : ∃ x, x = w9 := ⟨_, rfl⟩
          subst hw8
          try simp only [nrm]
          refine rdL 6 rfl (fun K hK => ?_)
          go_simp
          have hba : Below w8.heap.size w8 (w8.alloc (Obj.cells #[.slice none 0 0] 95)) := (Below.refl _ _).alloc (Nat.le_refl _) _
          have h6 := BC.new w8 (.slice none 0 0)
          have hl6 := hHeld.2.2.2.2.size
          have hne : P7 ≠ w8.heap.size := Nat.ne_of_lt h7.lt
          have h7 := h7.next hba
          refine hK.out _ _ (HSK.out _ (hHeld.2.2.2.2.trans (hba.mono hHeld.2.2.2.2.size))) (fun hHeld => ?_)
          clear hK K hba
          generalize w8.heap.size = P6 at *
          generalize w8.alloc (Obj.cells #[.slice none 0 0] 95) = w9 at *
          obtain ⟨w8, hw8⟩ : ∃ x, x = w9 := ⟨_, rfl⟩
          subst hw8
          try simp only [nrm]
          have HFIN := Lib.hid (fun x y => lk_fin (x := x) (y := y) hHeld.2.2.2.2 h6 h7 hl6 hl7 (by first | exact hne | exact Ne.symm hne))
          have HNE67 := Lib.hid (show P6 ≠ P7 by first | exact hne | exact Ne.symm hne)
          have z6 : w8.cell? ⟨P6, 0, none⟩ = some (.slice none 0 0) := rg_cell h6
          have f6 : w8.frozen? ⟨P6, 0, none⟩ = false := rg_frozen h6
          have z7 : w8.cell? ⟨P7, 0, none⟩ = some (.slice none 0 0) := rg_cell h7
          have f7 : w8.frozen? ⟨P7, 0, none⟩ = false := rg_frozen h7
          refine wpAnyL_ready (rs := [8]) (by kernel_rfl) (by simp) ?_
          refine AllReadyL.store (o := _) rfl (by decide) (by decide) (fun K hK => ?_) AllReadyL.nil
          go_simp
          refine hK.out _ _ ?_
          clear hK K
          try simp only [nrm]
          refine wpAnyL_ready (rs := [9]) (by kernel_rfl) (by simp) ?_
          refine AllReadyL.store (o := _) rfl (by decide) (by decide) (fun K hK => ?_) AllReadyL.nil
          go_simp
          refine hK.out _ _ ?_
          clear hK K
          try simp only [nrm]
          refine wpAnyL_done (by kernel_rfl) ?_ _
          refine ⟨fun c h => (by cases h), ?_⟩
          go_wp2_with fail
          go_meet
          exact ⟨P6, P7, rfl, rfl, HNE67.out, Lib.hid (HFIN.out _ _)⟩
      · go_simp
        have hba : Below w8.heap.size w8 (w8.alloc (Obj.cells #[.slice none 0 0] 95)) := (Below.refl _ _).alloc (Nat.le_refl _) _
        have h6 := BC.new w8 (.slice none 0 0)
        have hl6 := hHeld.2.2.2.2.size
        refine hK.out _ _ (HSK.out _ (hHeld.2.2.2.2.trans (hba.mono hHeld.2.2.2.2.size))) (fun hHeld => ?_)
        clear hK K hba
        generalize w8.heap.size = P6 at *
        generalize w8.alloc (Obj.cells #[.slice none 0 0] 95) = w9 at *
        obtain ⟨w8, hw8⟩ : ∃ x, x = w9 := ⟨_, rfl⟩
        subst hw8
        try simp only [nrm]
        refine wpAnyL_ready (rs := [5, 7]) (by kernel_rfl) (by simp) ?_
        refine AllReadyL.cons (o := _) rfl (fun K hK => ?_) (AllReadyL.cons (o := _) rfl (fun K hK => ?_) AllReadyL.nil)
        · go_simp
          refine (CR2.out _).mono ?_
          rintro e w9 ⟨rfl, hb9⟩
          have h6 := h6.next hb9
          have hHeld9 := HSK.out _ (hHeld.2.2.2.2.trans (hb9.mono hHeld.2.2.2.2.size))
          refine hK.out _ _ hHeld9 (fun hHeld => ?_)
          clear hK K hb9 hHeld9
          obtain ⟨w8, hw8⟩ : ∃ x, x = w9 := ⟨_, rfl⟩
          subst hw8
          try simp only [nrm]
          refine rdL 7 rfl (fun K hK => ?_)
          go_simp
          have hba : Below w8.heap.size w8 (w8.alloc (Obj.cells #[.slice none 0 0] 95)) := (Below.refl _ _).alloc (Nat.le_refl _) _
          have h7 := BC.new w8 (.slice none 0 0)
          have hl7 := hHeld.2.2.2.2.size
          have hne : P6 ≠ w8.heap.size := Nat.ne_of_lt h6.lt
          have h6 := h6.next hba
          refine hK.out _ _ (HSK.out _ (hHeld.2.2.2.2.trans (hba.mono hHeld.2.2.2.2.size))) (fun hHeld => ?_)
          clear hK K hba
          generalize w8.heap.size = P7 at *
          generalize w8.alloc (Obj.cells #[.slice none 0 0] 95) = w9 at *
          obtain ⟨w8, hw8⟩ : ∃ x, x = w9 := ⟨_, rfl⟩
          subst hw8
          try simp only [nrm]
          have HFIN := Lib.hid (fun x y => lk_fin (x := x) (y := y) hHeld.2.2.2.2 h6 h7 hl6 hl7 (by first | exact hne | exact Ne.symm hne))
          have HNE67 := Lib.hid (show P6 ≠ P7 by first | exact hne | exact Ne.symm hne)
          have z6 : w8.cell? ⟨P6, 0, none⟩ = some (.slice none 0 0) := rg_cell h6
          have f6 : w8.frozen? ⟨P6, 0, none⟩ = false := rg_frozen h6
          have z7 : w8.cell? ⟨P7, 0, none⟩ = some (.slice none 0 0) := rg_cell h7
          have f7 : w8.frozen? ⟨P7, 0, none⟩ = false := rg_frozen h7
          refine wpAnyL_ready (rs := [8]) (by kernel_rfl) (by simp) ?_
          refine AllReadyL.store (o := _) rfl (by decide) (by decide) (fun K hK => ?_) AllReadyL.nil
          go_simp
          refine hK.out _ _ ?_
          clear hK K
          try simp only [nrm]
          refine wpAnyL_ready (rs := [9]) (by kernel_rfl) (by simp) ?_
          refine AllReadyL.store (o := _) rfl (by decide) (by decide) (fun K hK => ?_) AllReadyL.nil
          go_simp
          refine hK.out _ _ ?_
          clear hK K
          try simp only [nrm]
          refine wpAnyL_done (by kernel_rfl) ?_ _
          refine ⟨fun c h => (by cases h), ?_⟩
          go_wp2_with fail
          go_meet
          exact ⟨P6, P7, rfl, rfl, HNE67.out, Lib.hid (HFIN.out _ _)⟩
        · go_simp
          have hba : Below w8.heap.size w8 (w8.alloc (Obj.cells #[.slice none 0 0] 95)) := (Below.refl _ _).alloc (Nat.le_refl _) _
          have h7 := BC.new w8 (.slice none 0 0)
          have hl7 := hHeld.2.2.2.2.size
          have hne : P6 ≠ w8.heap.size := Nat.ne_of_lt h6.lt
          have h6 := h6.next hba
          refine hK.out _ _ (HSK.out _ (hHeld.2.2.2.2.trans (hba.mono hHeld.2.2.2.2.size))) (fun hHeld => ?_)
          clear hK K hba
          generalize w8.heap.size = P7 at *
          generalize w8.alloc (Obj.cells #[.slice none 0 0] 95) = w9 at *
          obtain ⟨w8, hw8⟩ : ∃ x, x = w9 := ⟨_, rfl⟩
          subst hw8
          try simp only [nrm]
          refine rdL 5 rfl (fun K hK => ?_)
          go_simp
          refine (CR2.out _).mono ?_
          rintro e w9 ⟨rfl, hb9⟩
          have h6 := h6.next hb9
          have h7 := h7.next hb9
          have hHeld9 := HSK.out _ (hHeld.2.2.2.2.trans (hb9.mono hHeld.2.2.2.2.size))
          refine hK.out _ _ hHeld9 (fun hHeld => ?_)
          clear hK K hb9 hHeld9
          obtain ⟨w8, hw8⟩ : ∃ x, x = w9 := ⟨_, rfl⟩
          subst hw8
          try simp only [nrm]
          have HFIN := Lib.hid (fun x y => lk_fin (x := x) (y := y) hHeld.2.2.2.2 h6 h7 hl6 hl7 (by first | exact hne | exact Ne.symm hne))
          have HNE67 := Lib.hid (show P6 ≠ P7 by first | exact hne | exact Ne.symm hne)
          have z6 : w8.cell? ⟨P6, 0, none⟩ = some (.slice none 0 0) := rg_cell h6
          have f6 : w8.frozen? ⟨P6, 0, none⟩ = false := rg_frozen h6
          have z7 : w8.cell? ⟨P7, 0, none⟩ = some (.slice none 0 0) := rg_cell h7
          have f7 : w8.frozen? ⟨P7, 0, none⟩ = false := rg_frozen h7
          refine wpAnyL_ready (rs := [8]) (by kernel_rfl) (by simp) ?_
          refine AllReadyL.store (o := _) rfl (by decide) (by decide) (fun K hK => ?_) AllReadyL.nil
          go_simp
          refine hK.out _ _ ?_
          clear hK K
          try simp only [nrm]
          refine wpAnyL_ready (rs := [9]) (by kernel_rfl) (by simp) ?_
          refine AllReadyL.store (o := _) rfl (by decide) (by decide) (fun K hK => ?_) AllReadyL.nil
          go_simp
          refine hK.out _ _ ?_
          clear hK K
          try simp only [nrm]
          refine wpAnyL_done (by kernel_rfl) ?_ _
          refine ⟨fun c h => (by cases h), ?_⟩
          go_wp2_with fail
          go_meet
          exact ⟨P6, P7, rfl, rfl, HNE67.out, Lib.hid (HFIN.out _ _)⟩
      · go_simp
        have hba : Below w8.heap.size w8 (w8.alloc (Obj.cells #[.slice none 0 0] 95)) := (Below.refl _ _).alloc (Nat.le_refl _) _
        have h7 := BC.new w8 (.slice none 0 0)
        have hl7 := hHeld.2.2.2.2.size
        refine hK.out _ _ (HSK.out _ (hHeld.2.2.2.2.trans (hba.mono hHeld.2.2.2.2.size))) (fun hHeld => ?_)
        clear hK K hba
        generalize w8.heap.size = P7 at *
        generalize w8.alloc (Obj.cells #[.slice none 0 0] 95) = w9 at *
        obtain ⟨w8, hw8⟩ : ∃ x, x = w9 := ⟨_, rfl⟩
        subst hw8
        try simp only [nrm]
        refine wpAnyL_ready (rs := [5, 6]) (by kernel_rfl) (by simp) ?_
        refine AllReadyL.cons (o := _) rfl (fun K hK => ?_) (AllReadyL.cons (o := _) rfl (fun K hK => ?_) AllReadyL.nil)
        · go_simp
          refine (CR2.out _).mono ?_
          rintro e w9 ⟨rfl, hb9⟩
          have h7 := h7.next hb9
          have hHeld9 := HSK.out _ (hHeld.2.2.2.2.trans (hb9.mono hHeld.2.2.2.2.size))
          refine hK.out _ _ hHeld9 (fun hHeld => ?_)
          clear hK K hb9 hHeld9
          obtain ⟨w8, hw8⟩ : ∃ x, x = w9 := ⟨_, rfl⟩
          subst hw8
          try simp only [nrm]
          refine rdL 6 rfl (fun K hK => ?_)
          go_simp
          have hba : Below w8.heap.size w8 (w8.alloc (Obj.cells #[.slice none 0 0] 95)) := (Below.refl _ _).alloc (Nat.le_refl _) _
          have h6 := BC.new w8 (.slice none 0 0)
          have hl6 := hHeld.2.2.2.2.size
          have hne : P7 ≠ w8.heap.size := Nat.ne_of_lt h7.lt
          have h7 := h7.next hba
          refine hK.out _ _ (HSK.out _ (hHeld.2.2.2.2.trans (hba.mono hHeld.2.2.2.2.size))) (fun hHeld => ?_)
          clear hK K hba
          generalize w8.heap.size = P6 at *
          generalize w8.alloc (Obj.cells #[.slice none 0 0] 95) = w9 at *
          obtain ⟨w8, hw8⟩ : ∃ x, x = w9 := ⟨_, rfl⟩
          subst hw8
          try simp only [nrm]
          have HFIN := Lib.hid (fun x y => lk_fin (x := x) (y := y) hHeld.2.2.2.2 h6 h7 hl6 hl7 (by first | exact hne | exact Ne.symm hne))
          have HNE67 := Lib.hid (show P6 ≠ P7 by first | exact hne | exact Ne.symm hne)
          have z6 : w8.cell? ⟨P6, 0, none⟩ = some (.slice none 0 0) := rg_cell h6
          have f6 : w8.frozen? ⟨P6, 0, none⟩ = false := rg_frozen h6
          have z7 : w8.cell? ⟨P7, 0, none⟩ = some (.slice none 0 0) := rg_cell h7
          have f7 : w8.frozen? ⟨P7, 0, none⟩ = false := rg_frozen h7
          refine wpAnyL_ready (rs := [8]) (by kernel_rfl) (by simp) ?_
          refine AllReadyL.store (o := _) rfl (by decide) (by decide) (fun K hK => ?_) AllReadyL.nil
          go_simp
          refine hK.out _ _ ?_
          clear hK K
          try simp only [nrm]
          refine wpAnyL_ready (rs := [9]) (by kernel_rfl) (by simp) ?_
          refine AllReadyL.store (o := _) rfl (by decide) (by decide) (fun K hK => ?_) AllReadyL.nil
          go_simp
          refine hK.out _ _ ?_
          clear hK K
          try simp only [nrm]
          refine wpAnyL_done (by kernel_rfl) ?_ _
          refine ⟨fun c h => (by cases h), ?_⟩
          go_wp2_with fail
          go_meet
          exact ⟨P6, P7, rfl, rfl, HNE67.out, Lib.hid (HFIN.out _ _)⟩
        · go_simp
          have hba : Below w8.heap.size w8 (w8.alloc (Obj.cells #[.slice none 0 0] 95)) := (Below.refl _ _).alloc (Nat.le_refl _) _
          have h6 := BC.new w8 (.slice none 0 0)
          have hl6 := hHeld.2.2.2.2.size
          have hne : P7 ≠ w8.heap.size := Nat.ne_of_lt h7.lt
          have h7 := h7.next hba
          refine hK.out _ _ (HSK.out _ (hHeld.2.2.2.2.trans (hba.mono hHeld.2.2.2.2.size))) (fun hHeld => ?_)
          clear hK K hba
          generalize w8.heap.size = P6 at *
          generalize w8.alloc (Obj.cells #[.slice none 0 0] 95) = w9 at *
          obtain ⟨w8, hw8⟩ : ∃ x, x = w9 := ⟨_, rfl⟩
          subst hw8
          try simp only [nrm]
          refine rdL 5 rfl (fun K hK => ?_)
          go_simp
          refine (CR2.out _).mono ?_
          rintro e w9 ⟨rfl, hb9⟩
          have h6 := h6.next hb9
          have h7 := h7.next hb9
          have hHeld9 := HSK.out _ (hHeld.2.2.2.2.trans (hb9.mono hHeld.2.2.2.2.size))
          refine hK.out _ _ hHeld9 (fun hHeld => ?_)
          clear hK K hb9 hHeld9
          obtain ⟨w8, hw8⟩ : ∃ x, x = w9 := ⟨_, rfl⟩
          subst hw8
          try simp only [nrm]
          have HFIN := Lib.hid (fun x y => lk_fin (x := x) (y := y) hHeld.2.2.2.2 h6 h7 hl6 hl7 (by first | exact hne | exact Ne.symm hne))
          have HNE67 := Lib.hid (show P6 ≠ P7 by first | exact hne | exact Ne.symm hne)
          have z6 : w8.cell? ⟨P6, 0, none⟩ = some (.slice none 0 0) := rg_cell h6
          have f6 : w8.frozen? ⟨P6, 0, none⟩ = false := rg_frozen h6
          have z7 : w8.cell? ⟨P7, 0, none⟩ = some (.slice none 0 0) := rg_cell h7
          have f7 : w8.frozen? ⟨P7, 0, none⟩ = false := rg_frozen h7
          refine wpAnyL_ready (rs := [8]) (by kernel_rfl) (by simp) ?_
          refine AllReadyL.store (o := _) rfl (by decide) (by decide) (fun K hK => ?_) AllReadyL.nil
          go_simp
          refine hK.out _ _ ?_
          clear hK K
          try simp only [nrm]
          refine wpAnyL_ready (rs := [9]) (by kernel_rfl) (by simp) ?_
          refine AllReadyL.store (o := _) rfl (by decide) (by decide) (fun K hK => ?_) AllReadyL.nil
          go_simp
          refine hK.out _ _ ?_
          clear hK K
          try simp only [nrm]
          refine wpAnyL_done (by kernel_rfl) ?_ _
          refine ⟨fun c h => (by cases h), ?_⟩
          go_wp2_with fail
          go_meet
          exact ⟨P6, P7, rfl, rfl, HNE67.out, Lib.hid (HFIN.out _ _)⟩
    · go_simp
      have hba : Below w8.heap.size w8 (w8.alloc (Obj.cells #[.slice none 0 0] 95)) := (Below.refl _ _).alloc (Nat.le_refl _) _
      have h6 := BC.new w8 (.slice none 0 0)
      have hl6 := hHeld.2.2.2.2.size
      refine hK.out _ _ (HSK.out _ (hHeld.2.2.2.2.trans (hba.mono hHeld.2.2.2.2.size))) (fun hHeld => ?_)
      clear hK K hba
      generalize w8.heap.size = P6 at *
      generalize w8.alloc (Obj.cells #[.slice none 0 0] 95) = w9 at *
      obtain ⟨w8, hw8⟩ : ∃ x, x = w9 := ⟨_, rfl⟩
      subst hw8
      try simp only [nrm]
      refine wpAnyL_ready (rs := [2, 7]) (by kernel_rfl) (by simp) ?_
      refine AllReadyL.cons (o := _) rfl (fun K hK => ?_) (AllReadyL.cons (o := _) rfl (fun K hK => ?_) AllReadyL.nil)
      · go_simp
        refine (CR1.out _).mono ?_
        rintro e w9 ⟨rfl, hb9⟩
        have h6 := h6.next hb9
        have hHeld9 := HSK.out _ (hHeld.2.2.2.2.trans (hb9.mono hHeld.2.2.2.2.size))
        refine hK.out _ _ hHeld9 (fun hHeld => ?_)
        clear hK K hb9 hHeld9
        obtain ⟨w8, hw8⟩ : ∃ x, x = w9 := ⟨_, rfl⟩
        subst hw8
        try simp only [nrm]
        refine wpAnyL_ready (rs := [5, 7]) (by kernel_rfl) (by simp) ?_
        refine AllReadyL.cons (o := _) rfl (fun K hK => ?_) (AllReadyL.cons (o := _) rfl (fun K hK => ?_) AllReadyL.nil)
        · go_simp
          refine (CR2.out _).mono ?_
          rintro e w9 ⟨rfl, hb9⟩
          have h6 := h6.next hb9
          have hHeld9 := HSK.out _ (hHeld.2.2.2.2.trans (hb9.mono hHeld.2.2.2.2.size))
          refine hK.out _ _ hHeld9 (fun hHeld => ?_)
          clear hK K hb9 hHeld9
          obtain ⟨w8, hw8⟩ : ∃ x, x = w9 := ⟨_, rfl⟩
          subst hw8
          try simp only [nrm]
          refine rdL 7 rfl (fun K hK => ?_)
          go_simp
          have hba : Below w8.heap.size w8 (w8.alloc (Obj.cells #[.slice none 0 0] 95)) := (Below.refl _ _).alloc (Nat.le_refl _) _
          have h7 := BC.new w8 (.slice none 0 0)
          have hl7 := hHeld.2.2.2.2.size
          have hne : P6 ≠ w8.heap.size := Nat.ne_of_lt h6.lt
          have h6 := h6.next hba
          refine hK.out _ _ (HSK.out _ (hHeld.2.2.2.2.trans (hba.mono hHeld.2.2.2.2.size))) (fun hHeld => ?_)
          clear hK K hba
          generalize w8.heap.size = P7 at *
          generalize w8.alloc (Obj.cells #[.slice none 0 0] 95) = w9 at *
          obtain ⟨w8, hw8⟩ : ∃ x, x = w9 := ⟨_, rfl⟩
          subst hw8
          try simp only [nrm]
          have HFIN := Lib.hid (fun x y => lk_fin (x := x) (y := y) hHeld.2.2.2.2 h6 h7 hl6 hl7 (by first | exact hne | exact Ne.symm hne))
          have HNE67 := Lib.hid (show P6 ≠ P7 by first | exact hne | exact Ne.symm hne)
          have z6 : w8.cell? ⟨P6, 0, none⟩ = some (.slice none 0 0) := rg_cell h6
          have f6 : w8.frozen? ⟨P6, 0, none⟩ = false := rg_frozen h6
          have z7 : w8.cell? ⟨P7, 0, none⟩ = some (.slice none 0 0) := rg_cell h7
          have f7 : w8.frozen? ⟨P7, 0, none⟩ = false := rg_frozen h7
          refine wpAnyL_ready (rs := [8]) (by kernel_rfl) (by simp) ?_
          refine AllReadyL.store (o := _) rfl (by decide) (by decide) (fun K hK => ?_) AllReadyL.nil
          go_simp
          refine hK.out _ _ ?_
          clear hK K
          try simp only [nrm]
          refine wpAnyL_ready (rs := [9]) (by kernel_rfl) (by simp) ?_
          refine AllReadyL.store (o := _) rfl (by decide) (by decide) (fun K hK => ?_) AllReadyL.nil
          go_simp
          refine hK.out _ _ ?_
          clear hK K
          try simp only [nrm]
          refine wpAnyL_done (by kernel_rfl) ?_ _
          refine ⟨fun c h => (by cases h), ?_⟩
          go_wp2_with fail
          go_meet
          exact ⟨P6, P7, rfl, rfl, HNE67.out, Lib.hid (HFIN.out _ _)⟩
        · go_simp
          have hba : Below w8.heap.size w8 (w8.alloc (Obj.cells #[.slice none 0 0] 95)) := (Below.refl _ _).alloc (Nat.le_refl _) _
          have h7 := BC.new w8 (.slice none 0 0)
          have hl7 := hHeld.2.2.2.2.size
          have hne : P6 ≠ w8.heap.size := Nat.ne_of_lt h6.lt
          have h6 := h6.next hba
          refine hK.out _ _ (HSK.out _ (hHeld.2.2.2.2.trans (hba.mono hHeld.2.2.2.2.size))) (fun hHeld => ?_)
          clear hK K hba
          generalize w8.heap.size = P7 at *
          generalize w8.alloc (Obj.cells #[.slice none 0 0] 95) = w9 at *
          obtain ⟨w8, hw8⟩ : ∃ x, x = w9 := ⟨_, rfl⟩
          subst hw8
          try simp only [nrm]
          refine rdL 5 rfl (fun K hK => ?_)
          go_simp
          refine (CR2.out _).mono ?_
          rintro e w9 ⟨rfl, hb9⟩
          have h6 := h6.next hb9
          have h7 := h7.next hb9
          have hHeld9 := HSK.out _ (hHeld.2.2.2.2.trans (hb9.mono hHeld.2.2.2.2.size))
          refine hK.out _ _ hHeld9 (fun hHeld => ?_)
          clear hK K hb9 hHeld9
          obtain ⟨w8, hw8⟩ : ∃ x, x = w9 := ⟨_, rfl⟩
          subst hw8
          try simp only [nrm]
          have HFIN := Lib.hid (fun x y => lk_fin (x := x) (y := y) hHeld.2.2.2.2 h6 h7 hl6 hl7 (by first | exact hne | exact Ne.symm hne))
          have HNE67 := Lib.hid (show P6 ≠ P7 by first | exact hne | exact Ne.symm hne)
          have z6 : w8.cell? ⟨P6, 0, none⟩ = some (.slice none 0 0) := rg_cell h6
          have f6 : w8.frozen? ⟨P6, 0, none⟩ = false := rg_frozen h6
          have z7 : w8.cell? ⟨P7, 0, none⟩ = some (.slice none 0 0) := rg_cell h7
          have f7 : w8.frozen? ⟨P7, 0, none⟩ = false := rg_frozen h7
          refine wpAnyL_ready (rs := [8]) (by kernel_rfl) (by simp) ?_
          refine AllReadyL.store (o := _) rfl (by decide) (by decide) (fun K hK => ?_) AllReadyL.nil
          go_simp
          refine hK.out _ _ ?_
          clear hK K
          try simp only [nrm]
          refine wpAnyL_ready (rs := [9]) (by kernel_rfl) (by simp) ?_
          refine AllReadyL.store (o := _) rfl (by decide) (by decide) (fun K hK => ?_) AllReadyL.nil
          go_simp
          refine hK.out _ _ ?_
          clear hK K
          try simp only [nrm]
          refine wpAnyL_done (by kernel_rfl) ?_ _
          refine ⟨fun c h => (by cases h), ?_⟩
          go_wp2_with fail
          go_meet
          exact ⟨P6, P7, rfl, rfl, HNE67.out, Lib.hid (HFIN.out _ _)⟩
      · go_simp
        have hba : Below w8.heap.size w8 (w8.alloc (Obj.cells #[.slice none 0 0] 95)) := (Below.refl _ _).alloc (Nat.le_refl _) _
        have h7 := BC.new w8 (.slice none 0 0)
        have hl7 := hHeld.2.2.2.2.size
        have hne : P6 ≠ w8.heap.size := Nat.ne_of_lt h6.lt
        have h6 := h6.next hba
        refine hK.out _ _ (HSK.out _ (hHeld.2.2.2.2.trans (hba.mono hHeld.2.2.2.2.size))) (fun hHeld => ?_)
        clear hK K hba
        generalize w8.heap.size = P7 at *
        generalize w8.alloc (Obj.cells #[.slice none 0 0] 95) = w9 at *
        obtain ⟨w8, hw8⟩ : ∃ x, x = w9 := ⟨_, rfl⟩
        subst hw8
        try simp only [nrm]
        refine rdL 2 rfl (fun K hK => ?_)
        go_simp
        refine (CR1.out _).mono ?_
        rintro e w9 ⟨rfl, hb9⟩
        have h6 := h6.next hb9
        have h7 := h7.next hb9
        have hHeld9 := HSK.out _ (hHeld.2.2.2.2.trans (hb9.mono hHeld.2.2.2.2.size))
        refine hK.out _ _ hHeld9 (fun hHeld => ?_)
        clear hK K hb9 hHeld9
        obtain ⟨w8, hw8⟩ : ∃ x, x = w9 := ⟨_, rfl⟩
        subst hw8
        try simp only [nrm]
        refine rdL 5 rfl (fun K hK => ?_)
        go_simp
        refine (CR2.out _).mono ?_
        rintro e w9 ⟨rfl, hb9⟩
        have h6 := h6.next hb9
        have h7 := h7.next hb9
        have hHeld9 := HSK.out _ (hHeld.2.2.2.2.trans (hb9.mono hHeld.2.2.2.2.size))
        refine hK.out _ _ hHeld9 (fun hHeld => ?_)
        clear hK K hb9 hHeld9
        obtain ⟨w8, hw8⟩ : ∃ x, x = w9 := ⟨_, rfl⟩
        subst hw8
        try simp only [nrm]
        have HFIN := Lib.hid (fun x y => lk_fin (x := x) (y := y) hHeld.2.2.2.2 h6 h7 hl6 hl7 (by first | exact hne | exact Ne.symm hne))
        have HNE67 := Lib.hid (show P6 ≠ P7 by first | exact hne | exact Ne.symm hne)
        have z6 : w8.cell? ⟨P6, 0, none⟩ = some (.slice none 0 0) := rg_cell h6
        have f6 : w8.frozen? ⟨P6, 0, none⟩ = false := rg_frozen h6
        have z7 : w8.cell? ⟨P7, 0, none⟩ = some (.slice none 0 0) := rg_cell h7
        have f7 : w8.frozen? ⟨P7, 0, none⟩ = false := rg_frozen h7
        refine wpAnyL_ready (rs := [8]) (by kernel_rfl) (by simp) ?_
        refine AllReadyL.store (o := _) rfl (by decide) (by decide) (fun K hK => ?_) AllReadyL.nil
        go_simp
        refine hK.out _ _ ?_
        clear hK K
        try simp only [nrm]
        refine wpAnyL_ready (rs := [9]) (by kernel_rfl) (by simp) ?_
        refine AllReadyL.store (o := _) rfl (by decide) (by decide) (fun K hK => ?_) AllReadyL.nil
        go_simp
        refine hK.out _ _ ?_
        clear hK K
        try simp only [nrm]
        refine wpAnyL_done (by kernel_rfl) ?_ _
        refine ⟨fun c h => (by cases h), ?_⟩
        go_wp2_with fail
        go_meet
        exact ⟨P6, P7, rfl, rfl, HNE67.out, Lib.hid (HFIN.out _ _)⟩
    · go_simp
      have hba : Below w8.heap.size w8 (w8.alloc (Obj.cells #[.slice none 0 0] 95)) := (Below.refl _ _).alloc (Nat.le_refl _) _
      have h7 := BC.new w8 (.slice none 0 0)
      have hl7 := hHeld.2.2.2.2.size
      refine hK.out _ _ (HSK.out _ (hHeld.2.2.2.2.trans (hba.mono hHeld.2.2.2.2.size))) (fun hHeld => ?_)
      clear hK K hba
      generalize w8.heap.size = P7 at *
      generalize w8.alloc (Obj.cells #[.slice none 0 0] 95) = w9 at *
      obtain ⟨w8, hw8⟩ : ∃ x, x = w9 := ⟨_, rfl⟩
      subst hw8
      try simp only [nrm]
      refine wpAnyL_ready (rs := [2, 6]) (by kernel_rfl) (by simp) ?_
      refine AllReadyL.cons (o := _) rfl (fun K hK => ?_) (AllReadyL.cons (o := _) rfl (fun K hK => ?_) AllReadyL.nil)
      · go_simp
        refine (CR1.out _).mono ?_
        rintro e w9 ⟨rfl, hb9⟩
        have h7 := h7.next hb9
        have hHeld9 := HSK.out _ (hHeld.2.2.2.2.trans (hb9.mono hHeld.2.2.2.2.size))
        refine hK.out _ _ hHeld9 (fun hHeld => ?_)
        clear hK K hb9 hHeld9
        obtain ⟨w8, hw8⟩ : ∃ x, x = w9 := ⟨_, rfl⟩
        subst hw8
        try simp only [nrm]
        refine wpAnyL_ready (rs := [5, 6]) (by kernel_rfl) (by simp) ?_
        refine AllReadyL.cons (o := _) rfl (fun K hK => ?_) (AllReadyL.cons (o := _) rfl (fun K hK => ?_) AllReadyL.nil)
        · go_simp
          refine (CR2.out _).mono ?_
          rintro e w9 ⟨rfl, hb9⟩
          have h7 := h7.next hb9
          have hHeld9 := HSK.out _ (hHeld.2.2.2.2.trans (hb9.mono hHeld.2.2.2.2.size))
          refine hK.out _ _ hHeld9 (fun hHeld => ?_)
          clear hK K hb9 hHeld9
          obtain ⟨w8, hw8⟩ : ∃ x, x = w9 := ⟨_, rfl⟩
          subst hw8
          try simp only [nrm]
          refine rdL 6 rfl (fun K hK => ?_)
          go_simp
          have hba : Below w8.heap.size w8 (w8.alloc (Obj.cells #[.slice none 0 0] 95)) := (Below.refl _ _).alloc (Nat.le_refl _) _
          have h6 := BC.new w8 (.slice none 0 0)
          have hl6 := hHeld.2.2.2.2.size
          have hne : P7 ≠ w8.heap.size := Nat.ne_of_lt h7.lt
          have h7 := h7.next hba
          refine hK.out _ _ (HSK.out _ (hHeld.2.2.2.2.trans (hba.mono hHeld.2.2.2.2.size))) (fun hHeld => ?_)
          clear hK K hba
          generalize w8.heap.size = P6 at *
          generalize w8.alloc (Obj.cells #[.slice none 0 0] 95) = w9 at *
          obtain ⟨w8, hw8⟩ : ∃ x, x = w9 := ⟨_, rfl⟩
          subst hw8
          try simp only [nrm]
          have HFIN := Lib.hid (fun x y => lk_fin (x := x) (y := y) hHeld.2.2.2.2 h6 h7 hl6 hl7 (by first | exact hne | exact Ne.symm hne))
          have HNE67 := Lib.hid (show P6 ≠ P7 by first | exact hne | exact Ne.symm hne)
          have z6 : w8.cell? ⟨P6, 0, none⟩ = some (.slice none 0 0) := rg_cell h6
          have f6 : w8.frozen? ⟨P6, 0, none⟩ = false := rg_frozen h6
          have z7 : w8.cell? ⟨P7, 0, none⟩ = some (.slice none 0 0) := rg_cell h7
          have f7 : w8.frozen? ⟨P7, 0, none⟩ = false := rg_frozen h7
          refine wpAnyL_ready (rs := [8]) (by kernel_rfl) (by simp) ?_
          refine AllReadyL.store (o := _) rfl (by decide) (by decide) (fun K hK => ?_) AllReadyL.nil
          go_simp
          refine hK.out _ _ ?_
          clear hK K
          try simp only [nrm]
          refine wpAnyL_ready (rs := [9]) (by kernel_rfl) (by simp) ?_
          refine AllReadyL.store (o := _) rfl (by decide) (by decide) (fun K hK => ?_) AllReadyL.nil
          go_simp
          refine hK.out _ _ ?_
          clear hK K
          try simp only [nrm]
          refine wpAnyL_done (by kernel_rfl) ?_ _
          refine ⟨fun c h => (by cases h), ?_⟩
          go_wp2_with fail
          go_meet
          exact ⟨P6, P7, rfl, rfl, HNE67.out, Lib.hid (HFIN.out _ _)⟩
        · go_simp
          have hba : Below w8.heap.size w8 (w8.alloc (Obj.cells #[.slice none 0 0] 95)) := (Below.refl _ _).alloc (Nat.le_refl _) _
          have h6 := BC.new w8 (.slice none 0 0)
          have hl6 := hHeld.2.2.2.2.size
          have hne : P7 ≠ w8.heap.size := Nat.ne_of_lt h7.lt
          have h7 := h7.next hba
          refine hK.out _ _ (HSK.out _ (hHeld.2.2.2.2.trans (hba.mono hHeld.2.2.2.2.size))) (fun hHeld => ?_)
          clear hK K hba
          generalize w8.heap.size = P6 at *
          generalize w8.alloc (Obj.cells #[.slice none 0 0] 95) = w9 at *
          obtain ⟨w8, hw8⟩ : ∃ x, x = w9 := ⟨_, rfl⟩
          subst hw8
          try simp only [nrm]
          refine rdL 5 rfl (fun K hK => ?_)
          go_simp
          refine (CR2.out _).mono ?_
          rintro e w9 ⟨rfl, hb9⟩
          have h6 := h6.next hb9
          have h7 := h7.next hb9
          have hHeld9 := HSK.out _ (hHeld.2.2.2.2.trans (hb9.mono hHeld.2.2.2.2.size))
          refine hK.out _ _ hHeld9 (fun hHeld => ?_)
          clear hK K hb9 hHeld9
          obtain ⟨w8, hw8⟩ : ∃ x, x = w9 := ⟨_, rfl⟩
          subst hw8
          try simp only [nrm]
          have HFIN := Lib.hid (fun x y => lk_fin (x := x) (y := y) hHeld.2.2.2.2 h6 h7 hl6 hl7 (by first | exact hne | exact Ne.symm hne))
          have HNE67 := Lib.hid (show P6 ≠ P7 by first | exact hne | exact Ne.symm hne)
          have z6 : w8.cell? ⟨P6, 0, none⟩ = some (.slice none 0 0) := rg_cell h6
          have f6 : w8.frozen? ⟨P6, 0, none⟩ = false := rg_frozen h6
          have z7 : w8.cell? ⟨P7, 0, none⟩ = some (.slice none 0 0) := rg_cell h7
          have f7 : w8.frozen? ⟨P7, 0, none⟩ = false := rg_frozen h7
          refine wpAnyL_ready (rs := [8]) (by kernel_rfl) (by simp) ?_
          refine AllReadyL.store (o := _) rfl (by decide) (by decide) (fun K hK => ?_) AllReadyL.nil
          go_simp
          refine hK.out _ _ ?_
          clear hK K
          try simp only [nrm]
          refine wpAnyL_ready (rs := [9]) (by kernel_rfl) (by simp) ?_
          refine AllReadyL.store (o := _) rfl (by decide) (by decide) (fun K hK => ?_) AllReadyL.nil
          go_simp
          refine hK.out _ _ ?_
          clear hK K
          try simp only [nrm]
          refine wpAnyL_done (by kernel_rfl) ?_ _
          refine ⟨fun c h => (by cases h), ?_⟩
          go_wp2_with fail
          go_meet
          exact ⟨P6, P7, rfl, rfl, HNE67.out, Lib.hid (HFIN.out _ _)⟩
      · go_simp
        have hba : Below w8.heap.size w8 (w8.alloc (Obj.cells #[.slice none 0 0] 95)) := (Below.refl _ _).alloc (Nat.le_refl _) _
        have h6 := BC.new w8 (.slice none 0 0)
        have hl6 := hHeld.2.2.2.2.size
        have hne : P7 ≠ w8.heap.size := Nat.ne_of_lt h7.lt
        have h7 := h7.next hba
        refine hK.out _ _ (HSK.out _ (hHeld.2.2.2.2.trans (hba.mono hHeld.2.2.2.2.size))) (fun hHeld => ?_)
        clear hK K hba
        generalize w8.heap.size = P6 at *
        generalize w8.alloc (Obj.cells #[.slice none 0 0] 95) = w9 at *
        obtain ⟨w8, hw8⟩ : ∃ x, x = w9 := ⟨_, rfl⟩
        subst hw8
        try simp only [nrm]
        refine rdL 2 rfl (fun K hK => ?_)
        go_simp
        refine (CR1.out _).mono ?_
        rintro e w9 ⟨rfl, hb9⟩
        have h6 := h6.next hb9
        have h7 := h7.next hb9
        have hHeld9 := HSK.out _ (hHeld.2.2.2.2.trans (hb9.mono hHeld.2.2.2.2.size))
        refine hK.out _ _ hHeld9 (fun hHeld => ?_)
        clear hK K hb9 hHeld9
        obtain ⟨w8, hw8⟩ : ∃ x, x = w9 := ⟨_, rfl⟩
        subst hw8
        try simp only [nrm]
        refine rdL 5 rfl (fun K hK => ?_)
        go_simp
        refine (CR2.out _).mono ?_
        rintro e w9 ⟨rfl, hb9⟩
        have h6 := h6.next hb9
        have h7 := h7.next hb9
        have hHeld9 := HSK.out _ (hHeld.2.2.2.2.trans (hb9.mono hHeld.2.2.2.2.size))
        refine hK.out _ _ hHeld9 (fun hHeld => ?_)
        clear hK K hb9 hHeld9
        obtain ⟨w8, hw8⟩ : ∃ x, x = w9 := ⟨_, rfl⟩
        subst hw8
        try simp only [nrm]
        have HFIN := Lib.hid (fun x y => lk_fin (x := x) (y := y) hHeld.2.2.2.2 h6 h7 hl6 hl7 (by first | exact hne | exact Ne.symm hne))
        have HNE67 := Lib.hid (show P6 ≠ P7 by first | exact hne | exact Ne.symm hne)
        have z6 : w8.cell? ⟨P6, 0, none⟩ = some (.slice none 0 0) := rg_cell h6
        have f6 : w8.frozen? ⟨P6, 0, none⟩ = false := rg_frozen h6
        have z7 : w8.cell? ⟨P7, 0, none⟩ = some (.slice none 0 0) := rg_cell h7
        have f7 : w8.frozen? ⟨P7, 0, none⟩ = false := rg_frozen h7
        refine wpAnyL_ready (rs := [8]) (by kernel_rfl) (by simp) ?_
        refine AllReadyL.store (o := _) rfl (by decide) (by decide) (fun K hK => ?_) AllReadyL.nil
        go_simp
        refine hK.out _ _ ?_
        clear hK K
        try simp only [nrm]
        refine wpAnyL_ready (rs := [9]) (by kernel_rfl) (by simp) ?_
        refine AllReadyL.store (o := _) rfl (by decide) (by decide) (fun K hK => ?_) AllReadyL.nil
        go_simp
        refine hK.out _ _ ?_
        clear hK K
        try simp only [nrm]
        refine wpAnyL_done (by kernel_rfl) ?_ _
        refine ⟨fun c h => (by cases h), ?_⟩
        go_wp2_with fail
        go_meet
        exact ⟨P6, P7, rfl, rfl, HNE67.out, Lib.hid (HFIN.out _ _)⟩
  case rest =>
    obtain ⟨P, Q, rfl, rfl, hPQ, hF⟩ := hcut
    obtain ⟨hbw, hp, hq, hbP, hbQ⟩ := hF.out
    have hbW : Below w.heap.size w wc := HBA.out.trans (hbw.mono (by omega))
    have hz := hbw.size
    have HBL1 := Lib.hid (HBL.out.next hbW).q
    have HL1 := Lib.hid (HL.out.next hbW)
    have HF1 := Lib.hid (HF.out.next hbW)
    have HX1 : Hid (wc.heap[w.heap.size]? = some (.cells #[.pointer (some ⟨d.b, 0, none⟩)] 84 (0, 0))) := Lib.hid ((hbw.block _ (by omega)).trans HX0.out)
    have HBP := Lib.hid hbP
    have HBQ := Lib.hid hbQ
    have HBW := Lib.hid hbW
    have hPl := hbP.lt
    have hQl := hbQ.lt
    have hp0 : wc.cell? ⟨P, 0, none⟩ = some (.slice (some ⟨gl, o1, none⟩) d.m c1) := rg_cell hbP
    clear hF hbw hbP hbQ hbW HBA HSK HX0 HBL HL HF CR1 CR2
    go_wp2_with fail
    clear hp0
    refine (all_call gl o1 d.m c1 wc).mono ?_
    rintro e w5 ⟨bs1, rfl, hbs, hbk, hb1⟩
    have HBL1b := Lib.hid (HBL1.out.next hb1)
    have HL1b := Lib.hid (HL1.out.next hb1)
    have HF1b := Lib.hid (HF1.out.next hb1)
    have HX1b : Hid (w5.heap[w.heap.size]? = some (.cells #[.pointer (some ⟨d.b, 0, none⟩)] 84 (0, 0))) := Lib.hid ((hb1.block _ (Array.getElem?_eq_some_iff.1 HX1.out).1).trans HX1.out)
    have HBP1 := Lib.hid (HBP.out.next hb1)
    have HBQ1 := Lib.hid (HBQ.out.next hb1)
    have HB1 := Lib.hid hb1
    have hz1 := hb1.size
    have HBK1 := Lib.hid hbk
    have hbs1 : wc.heap.size ≤ bs1 := hbs
    have hbsl1 : bs1 < w5.heap.size := (Array.getElem?_eq_some_iff.1 hbk).1
    clear hbk hb1 hbs
    dsimp only
    go_wp2_with fail
    refine (wpIn_wide (n := 6)).1 ?_
    gi_wp2_with fail
    have hb61 : ∀ r, Below w5.heap.size w5 ((w5.alloc (.deferred (some []))).alloc (.loop r)) := fun r => ((Below.refl _ _).alloc (Nat.le_refl _) _).alloc (by simp) _
    have hne1 : gl ≠ d.h ∧ gf2 ≠ d.h := ⟨by have := HNE.out; omega, by have := HNE.out; omega⟩
    have hdz1 := HBL1b.out.bh.ne_dz HBL1b.out.dz
    have hlt1 := HBL1b.out.lt
    have HKOF1 : Hid (∀ W, Onl d.h w5 W → KpL bs1 gl d.m o1 c1 (U 0) W) := Lib.hid fun W hon =>
      ⟨(hon.block bs1 hbsl1 (by omega)).trans HBK1.out, (HL1b.out.onl hon hne1.1).rw (by omega) HO1.out, HBL1b.out.dz.kept (hon.block _ HBL1b.out.dz.lt hdz1.symm)⟩
    refine wpIn_rangeQ (F := Fence.wide) rfl (by omega) (gf := 97) (lb := #[.pointer (some ⟨bs1, 0, none⟩)]) rfl trivial (enters_of Tryz.func97 (by kernel_rfl) rfl)
      (all_seq (g := gl) (o := o1) (m := d.m) (c := c1) (Q := U 0) (by omega) bs1 _ (by omega)) (fun _ => rfl) (fun W r o h hl => KpL.put h hl o)
      (fun pre W => Tb W d.h d.L d.m (fun r x => B r x ∨ (r ∈ pre ∧ V 0 x)) ∧ Onl d.h w5 W) (fun _ _ _ => False) ?hI1 (fun _ _ _ _ _ h _ => h) ?hK01 ?h01 ?a11 ?assign1 ?body1 ?done1 ?stop1
    case hI1 =>
      rintro pre W r o ⟨h1, h2⟩ hlr
      exact ⟨h1.loop hlr o, onl_put h2 (by omega) o⟩
    case hK01 =>
      intro r
      exact HKOF1.out _ (Onl.of_below (hb61 r) (Nat.le_refl _))
    case h01 =>
      intro r
      exact ⟨(HBL1b.out.bh.next (hb61 r)).congr (fun r x _ _ => by simp), Onl.of_below (hb61 r) (Nat.le_refl _)⟩
    case assign1 =>
      intro l' x W K hK
      simp only [encL]
      gi_wp2
      exact hK
    case stop1 => rintro D c pre W _ h; exact h.elim
    case body1 =>
      rintro l' pre x W ⟨ht, hon⟩ hkp ⟨r, hlr⟩ hD hlen hsp
      have hxm : x ∈ ups (U 0) (64 * d.m) := hsp.subset (by simp)
      have hxR : x < d.L := HU.out x ((ups_mem _).1 hxm).2
      have HT := Lib.hid ht
      have HON := Lib.hid hon
      have HL0 := Lib.hid hlr
      clear ht hon hkp hlr hD hlen hsp hxm
      have HSK : Hid (∀ Z, Onl d.h W Z → ((fun Z => Z.cell? ⟨w.heap.size, 0, none⟩ = some (.pointer (some ⟨d.b, 0, none⟩)) ∧ Z.cell? ⟨d.b, 0, none⟩ = some (.pointer (some ⟨d.p, 0, none⟩)) ∧ Z.cell? ⟨d.p, 5, none⟩ = some (.int .i64 (d.m : Int)) ∧ Z.cell? ⟨d.p, 6, none⟩ = some (.slice (some ⟨d.h, 0, none⟩) (d.L * d.m) (d.L * d.m)) ∧ Z.cell? ⟨Q, 0, none⟩ = some (.slice (some ⟨gf2, o1, none⟩) d.m c1)) Z)) := Lib.hid fun Z hV => by
        have hdd := HD.out
        have hXl := (Array.getElem?_eq_some_iff.1 HX1b.out).1
        have e1 := (((HON.out.trans hV).block w.heap.size hXl (by omega)).trans HX1b.out)
        have e2 := (((HON.out.trans hV).block d.b hlt1.1 hdd.bh).trans HBL1b.out.blk)
        have e3 := (((HON.out.trans hV).block d.p hlt1.2.1 hdd.ph).trans HBL1b.out.prog)
        have e4 := (((HON.out.trans hV).block Q HBQ1.out.lt (by omega)).trans HBQ1.out)
        exact ⟨rg_cell e1, rg_cell e2, rg_cell e3, rg_cell e3, rg_cell e4⟩
      have CR := Lib.hid (fun W' => mrow_any d.h d.L d.m x hxR hLm (by omega) W')
      have CJ : Hid (∀ Z, Below W.heap.size W Z → Calls Tryz.prog 40 #[.slice (some ⟨d.h, rwO d.L d.m x, none⟩) d.m (d.L * d.m - x * d.m), .slice (some ⟨gf2, o1, none⟩) d.m c1] Z fun e w' => e = .returned (.tuple #[]) ∧ Tb w' d.h d.L d.m (fun r z => (B r z ∨ (r ∈ pre ∧ V 0 z)) ∨ (r = x ∧ V 0 z)) ∧ Sm d.h Z w') := Lib.hid fun Z hV =>
        mjoin_any (HT.out.next hV) ((HF1b.out.onl HON.out hne1.2).next hV) hne1.2.symm hxR (by omega) (by omega) (fun h => rwO_eq hxR h) HO1.out _ _
      unfold rwV tbV at CR
      gi_wp2_with fail
      refine wpIn_region_I (S := fun Z => Z.cell? ⟨w.heap.size, 0, none⟩ = some (.pointer (some ⟨d.b, 0, none⟩)) ∧ Z.cell? ⟨d.b, 0, none⟩ = some (.pointer (some ⟨d.p, 0, none⟩)) ∧ Z.cell? ⟨d.p, 5, none⟩ = some (.int .i64 (d.m : Int)) ∧ Z.cell? ⟨d.p, 6, none⟩ = some (.slice (some ⟨d.h, 0, none⟩) (d.L * d.m) (d.L * d.m)) ∧ Z.cell? ⟨Q, 0, none⟩ = some (.slice (some ⟨gf2, o1, none⟩) d.m c1)) (by kernel_rfl) (HSK.out _ (Onl.of_below (drew_below W) (Nat.le_refl _))) (fun hHeld => ?_)
      refine wpAnyI_take (i := 0) (oi := _) (v := ?_) (by kernel_rfl) rfl (by kernel_rfl) (by kernel_rfl) (by kernel_rfl) (fun _ _ _ h => h) (Or.inl ⟨by rfl, ?_⟩) (fun _ => rfl) (by assumption) ?_
      rotate_left
      · (intro w hSw; obtain ⟨q0, q1, q2, q3, q4⟩ := hSw; go_simp; try with_reducible rfl)
      try simp only [nrm]
      refine wpAnyI_take (i := 1) (oi := _) (v := ?_) (by kernel_rfl) rfl (by kernel_rfl) (by kernel_rfl) (by kernel_rfl) (fun _ _ _ h => h) (Or.inl ⟨by rfl, ?_⟩) (fun _ => rfl) (by assumption) ?_
      rotate_left
      · (intro w hSw; obtain ⟨q0, q1, q2, q3, q4⟩ := hSw; go_simp; try with_reducible rfl)
      try simp only [nrm]
      refine wpAnyI_take (i := 2) (oi := _) (v := ?_) (by kernel_rfl) rfl (by kernel_rfl) (by kernel_rfl) (by kernel_rfl) (fun _ _ _ h => h) (Or.inl ⟨by rfl, ?_⟩) (fun _ => rfl) (by assumption) ?_
      rotate_left
      · (intro w hSw; obtain ⟨q0, q1, q2, q3, q4⟩ := hSw; go_simp; try with_reducible rfl)
      try simp only [nrm]
      refine wpAnyI_take (i := 3) (oi := _) (v := ?_) (by kernel_rfl) rfl (by kernel_rfl) (by kernel_rfl) (by kernel_rfl) (fun _ _ _ h => h) (Or.inl ⟨by rfl, ?_⟩) (fun _ => rfl) (by assumption) ?_
      rotate_left
      · (intro w hSw; obtain ⟨q0, q1, q2, q3, q4⟩ := hSw; go_simp; try with_reducible rfl)
      try simp only [nrm]
      refine wpAnyI_take (i := 4) (oi := _) (v := ?_) (by kernel_rfl) rfl (by kernel_rfl) (by kernel_rfl) (by kernel_rfl) (fun _ _ _ h => h) (Or.inl ⟨by rfl, ?_⟩) (fun _ => rfl) (by assumption) ?_
      rotate_left
      · (intro w hSw; obtain ⟨q0, q1, q2, q3, q4⟩ := hSw; go_simp; try with_reducible rfl)
      try simp only [nrm]
      refine wpAnyI_take (i := 5) (oi := _) (v := ?_) (by kernel_rfl) rfl (by kernel_rfl) (by kernel_rfl) (by kernel_rfl) (fun _ _ _ h => h) (Or.inl ⟨by rfl, ?_⟩) (fun _ => rfl) (by assumption) ?_
      rotate_left
      · (intro w hSw; obtain ⟨q0, q1, q2, q3, q4⟩ := hSw; go_simp; try with_reducible rfl)
      try simp only [nrm]
      refine wpAnyI_take (i := 6) (oi := _) (v := ?_) (by kernel_rfl) rfl (by kernel_rfl) (by kernel_rfl) (by kernel_rfl) (fun _ _ _ h => h) (Or.inl ⟨by rfl, ?_⟩) (fun _ => rfl) (by assumption) ?_
      rotate_left
      · (intro w hSw; obtain ⟨q0, q1, q2, q3, q4⟩ := hSw; go_simp; try with_reducible rfl)
      try simp only [nrm]
      refine wpAnyI_take (i := 7) (oi := _) (v := ?_) (by kernel_rfl) rfl (by kernel_rfl) (by kernel_rfl) (by kernel_rfl) (fun _ _ _ h => h) (Or.inl ⟨by rfl, ?_⟩) (fun _ => rfl) (by assumption) ?_
      rotate_left
      · (intro w hSw; obtain ⟨q0, q1, q2, q3, q4⟩ := hSw; go_simp; try with_reducible rfl)
      try simp only [nrm]
      refine wpAnyI_take (i := 9) (oi := _) (v := ?_) (by kernel_rfl) rfl (by kernel_rfl) (by kernel_rfl) (by kernel_rfl) (fun _ _ _ h => h) (Or.inl ⟨by rfl, ?_⟩) (fun _ => rfl) (by assumption) ?_
      rotate_left
      · (intro w hSw; obtain ⟨q0, q1, q2, q3, q4⟩ := hSw; go_simp; try with_reducible rfl)
      try simp only [nrm]
      refine wpAnyI_ready (rs := [8]) (by kernel_rfl) (by simp) ?_
      refine AllReadyI.cons (o := _) rfl (fun K hK => ?_) AllReadyI.nil
      go_simp
      refine ⟨trivial, (CallsIn.inRound l' (callsIn_wide.2 (CR.out _))).mono ?_⟩
      rintro e w8 ⟨rfl, hw8⟩
      have HV8 : Hid (Below W.heap.size W w8) := Lib.hid (by rw [hw8]; exact (drew_below W).alloc (Nat.le_refl _) _)
      clear hw8
      refine hK.out _ _ (HSK.out _ (Onl.of_below HV8.out (Nat.le_refl _))) (fun hHeld => ?_)
      clear hK K
      try simp only [nrm]
      refine wpAnyI_ready (rs := [10]) (by kernel_rfl) (by simp) ?_
      refine AllReadyI.cons (o := _) rfl (fun K hK => ?_) AllReadyI.nil
      go_simp
      refine ⟨trivial, (CallsIn.inRound l' (callsIn_wide.2 (CJ.out _ HV8.out))).mono ?_⟩
      rintro e w9 ⟨rfl, ht9, hs9⟩
      have HO9 := Lib.hid ((Onl.of_below HV8.out (Nat.le_refl _)).trans hs9.onl)
      have HT9 := Lib.hid ht9
      clear ht9 hs9
      refine hK.out _ _ (HSK.out _ HO9.out) (fun hHeld => ?_)
      clear hK K
      try simp only [nrm]
      refine wpAnyI_done (by kernel_rfl) ?_ _
      clear hHeld HSK CR CJ
      gi_wp2_with fail
      have hz := HON.out.size
      have ht := HT9.out.congr (Q := fun r z => B r z ∨ (r ∈ pre ++ [x] ∧ V 0 z)) (fun r z _ _ => by
        simp only [List.mem_append, List.mem_singleton]
        constructor
        · rintro ((h | ⟨h, h1⟩) | ⟨h, h1⟩)
          · exact .inl h
          · exact .inr ⟨.inl h, h1⟩
          · exact .inr ⟨.inr h, h1⟩
        · rintro (h | ⟨h | h, h1⟩)
          · exact .inl (.inl h)
          · exact .inl (.inr ⟨h, h1⟩)
          · exact .inr ⟨h, h1⟩)
      exact ⟨onl_two HO9.out (by omega) (by omega) (by have := (Array.getElem?_eq_some_iff.1 HL0.out).1; omega), HKOF1.out _ (HON.out.trans HO9.out), ht, HON.out.trans HO9.out⟩
    case done1 =>
    rintro D1 xs w6 hS ⟨ht, hon⟩ hkp hD1 hD
    clear hkp
    have hz6 := hon.size
    have hdd := HD.out
    have HBL2 : Hid (Bq w6 d n T (fun r x => B x r) (fun r x => B r x ∨ (U 0 r ∧ V 0 x))) := Lib.hid
      ⟨(hon.block _ hlt1.1 hdd.bh).trans HBL1b.out.blk, (hon.block _ hlt1.2.1 hdd.ph).trans HBL1b.out.prog, HBL1b.out.tk.onl hon hdd.th, HBL1b.out.ah.onl hon hdd.ah, ht.congr (fun r x hr _ => by
        rw [hS]
        simp only [ups_mem]
        have : r < 64 * d.m := by omega
        simp [this]), HBL1b.out.dz.kept (hon.block _ HBL1b.out.dz.lt hdz1.symm)⟩
    have HF2 := Lib.hid (HF1b.out.onl hon hne1.2)
    have HL2 := Lib.hid (HL1b.out.onl hon hne1.1)
    have HX2 : Hid (w6.heap[w.heap.size]? = some (.cells #[.pointer (some ⟨d.b, 0, none⟩)] 84 (0, 0))) := Lib.hid ((hon.block _ (Array.getElem?_eq_some_iff.1 HX1b.out).1 (by omega)).trans HX1b.out)
    have HBP1c : Hid (BC w6 P (.slice (some ⟨gl, o1, none⟩) d.m c1)) := Lib.hid ((hon.block _ HBP1.out.lt (by omega)).trans HBP1.out)
    have HBQ1c : Hid (BC w6 Q (.slice (some ⟨gf2, o1, none⟩) d.m c1)) := Lib.hid ((hon.block _ HBQ1.out.lt (by omega)).trans HBQ1.out)
    have HON6 := Lib.hid hon
    have hq0 : w6.cell? ⟨Q, 0, none⟩ = some (.slice (some ⟨gf2, o1, none⟩) d.m c1) := rg_cell HBQ1c.out
    have HMK := Lib.hid hD
    clear hS ht hon hD HKOF1 HBK1
    go_wp2_with fail
    clear hq0
    refine (all_call gf2 o1 d.m c1 w6).mono ?_
    rintro e w7 ⟨bs2, rfl, hbs, hbk, hb2⟩
    have HBL2b := Lib.hid (HBL2.out.next hb2)
    have HF2b := Lib.hid (HF2.out.next hb2)
    have HL2b := Lib.hid (HL2.out.next hb2)
    have HX2b : Hid (w7.heap[w.heap.size]? = some (.cells #[.pointer (some ⟨d.b, 0, none⟩)] 84 (0, 0))) := Lib.hid ((hb2.block _ (Array.getElem?_eq_some_iff.1 HX2.out).1).trans HX2.out)
    have HBP2 := Lib.hid (HBP1c.out.next hb2)
    have HBQ2 := Lib.hid (HBQ1c.out.next hb2)
    have HB2 := Lib.hid hb2
    have hz2 := hb2.size
    have HBK2 := Lib.hid hbk
    have hbs2 : w6.heap.size ≤ bs2 := hbs
    have hbsl2 : bs2 < w7.heap.size := (Array.getElem?_eq_some_iff.1 hbk).1
    clear hbk hb2 hbs
    dsimp only
    go_wp2_with fail
    refine (wpIn_wide (n := 6)).1 ?_
    gi_wp2_with fail
    have hb62 : ∀ r, Below w7.heap.size w7 ((w7.alloc (.deferred (some []))).alloc (.loop r)) := fun r => ((Below.refl _ _).alloc (Nat.le_refl _) _).alloc (by simp) _
    have hne2 : gf2 ≠ d.a ∧ gl ≠ d.a := ⟨by have := HNE.out; omega, by have := HNE.out; omega⟩
    have hdz2 := HBL2b.out.ah.ne_dz HBL2b.out.dz
    have hlt2 := HBL2b.out.lt
    have HKOF2 : Hid (∀ W, Onl d.a w7 W → KpL bs2 gf2 d.m o1 c1 (V 0) W) := Lib.hid fun W hon =>
      ⟨(hon.block bs2 hbsl2 (by omega)).trans HBK2.out, (HF2b.out.onl hon hne2.1).rw (by omega) HO1.out, HBL2b.out.dz.kept (hon.block _ HBL2b.out.dz.lt hdz2.symm)⟩
    refine wpIn_rangeQ (F := Fence.wide) rfl (by omega) (gf := 97) (lb := #[.pointer (some ⟨bs2, 0, none⟩)]) rfl trivial (enters_of Tryz.func97 (by kernel_rfl) rfl)
      (all_seq (g := gf2) (o := o1) (m := d.m) (c := c1) (Q := V 0) (by omega) bs2 _ (by omega)) (fun _ => rfl) (fun W r o h hl => KpL.put h hl o)
      (fun pre W => Tb W d.a d.L d.m (fun r x => B x r ∨ (r ∈ pre ∧ U 0 x)) ∧ Onl d.a w7 W) (fun _ _ _ => False) ?hI2 (fun _ _ _ _ _ h _ => h) ?hK02 ?h02 ?a12 ?assign2 ?body2 ?done2 ?stop2
    case hI2 =>
      rintro pre W r o ⟨h1, h2⟩ hlr
      exact ⟨h1.loop hlr o, onl_put h2 (by omega) o⟩
    case hK02 =>
      intro r
      exact HKOF2.out _ (Onl.of_below (hb62 r) (Nat.le_refl _))
    case h02 =>
      intro r
      exact ⟨(HBL2b.out.ah.next (hb62 r)).congr (fun r x _ _ => by simp), Onl.of_below (hb62 r) (Nat.le_refl _)⟩
    case assign2 =>
      intro l' x W K hK
      simp only [encL]
      gi_wp2
      exact hK
    case stop2 => rintro D c pre W _ h; exact h.elim
    case body2 =>
      rintro l' pre x W ⟨ht, hon⟩ hkp ⟨r, hlr⟩ hD hlen hsp
      have hxm : x ∈ ups (V 0) (64 * d.m) := hsp.subset (by simp)
      have hxR : x < d.L := HV.out x ((ups_mem _).1 hxm).2
      have HT := Lib.hid ht
      have HON := Lib.hid hon
      have HL0 := Lib.hid hlr
      clear ht hon hkp hlr hD hlen hsp hxm
      have HSK : Hid (∀ Z, Onl d.a W Z → ((fun Z => Z.cell? ⟨w.heap.size, 0, none⟩ = some (.pointer (some ⟨d.b, 0, none⟩)) ∧ Z.cell? ⟨d.b, 0, none⟩ = some (.pointer (some ⟨d.p, 0, none⟩)) ∧ Z.cell? ⟨d.p, 3, none⟩ = some (.int .i64 (d.m : Int)) ∧ Z.cell? ⟨d.p, 4, none⟩ = some (.slice (some ⟨d.a, 0, none⟩) (d.L * d.m) (d.L * d.m)) ∧ Z.cell? ⟨P, 0, none⟩ = some (.slice (some ⟨gl, o1, none⟩) d.m c1)) Z)) := Lib.hid fun Z hV => by
        have hdd := HD.out
        have hXl := (Array.getElem?_eq_some_iff.1 HX2b.out).1
        have e1 := (((HON.out.trans hV).block w.heap.size hXl (by omega)).trans HX2b.out)
        have e2 := (((HON.out.trans hV).block d.b hlt2.1 hdd.ba).trans HBL2b.out.blk)
        have e3 := (((HON.out.trans hV).block d.p hlt2.2.1 hdd.pa).trans HBL2b.out.prog)
        have e4 := (((HON.out.trans hV).block P HBP2.out.lt (by omega)).trans HBP2.out)
        exact ⟨rg_cell e1, rg_cell e2, rg_cell e3, rg_cell e3, rg_cell e4⟩
      have CR := Lib.hid (fun W' => mrow_any d.a d.L d.m x hxR hLm (by omega) W')
      have CJ : Hid (∀ Z, Below W.heap.size W Z → Calls Tryz.prog 40 #[.slice (some ⟨d.a, rwO d.L d.m x, none⟩) d.m (d.L * d.m - x * d.m), .slice (some ⟨gl, o1, none⟩) d.m c1] Z fun e w' => e = .returned (.tuple #[]) ∧ Tb w' d.a d.L d.m (fun r z => (B z r ∨ (r ∈ pre ∧ U 0 z)) ∨ (r = x ∧ U 0 z)) ∧ Sm d.a Z w') := Lib.hid fun Z hV =>
        mjoin_any (HT.out.next hV) ((HL2b.out.onl HON.out hne2.2).next hV) hne2.2.symm hxR (by omega) (by omega) (fun h => rwO_eq hxR h) HO1.out _ _
      unfold rwV tbV at CR
      gi_wp2_with fail
      refine wpIn_region_I (S := fun Z => Z.cell? ⟨w.heap.size, 0, none⟩ = some (.pointer (some ⟨d.b, 0, none⟩)) ∧ Z.cell? ⟨d.b, 0, none⟩ = some (.pointer (some ⟨d.p, 0, none⟩)) ∧ Z.cell? ⟨d.p, 3, none⟩ = some (.int .i64 (d.m : Int)) ∧ Z.cell? ⟨d.p, 4, none⟩ = some (.slice (some ⟨d.a, 0, none⟩) (d.L * d.m) (d.L * d.m)) ∧ Z.cell? ⟨P, 0, none⟩ = some (.slice (some ⟨gl, o1, none⟩) d.m c1)) (by kernel_rfl) (HSK.out _ (Onl.of_below (drew_below W) (Nat.le_refl _))) (fun hHeld => ?_)
      refine wpAnyI_take (i := 0) (oi := _) (v := ?_) (by kernel_rfl) rfl (by kernel_rfl) (by kernel_rfl) (by kernel_rfl) (fun _ _ _ h => h) (Or.inl ⟨by rfl, ?_⟩) (fun _ => rfl) (by assumption) ?_
      rotate_left
      · (intro w hSw; obtain ⟨q0, q1, q2, q3, q4⟩ := hSw; go_simp; try with_reducible rfl)
      try simp only [nrm]
      refine wpAnyI_take (i := 1) (oi := _) (v := ?_) (by kernel_rfl) rfl (by kernel_rfl) (by kernel_rfl) (by kernel_rfl) (fun _ _ _ h => h) (Or.inl ⟨by rfl, ?_⟩) (fun _ => rfl) (by assumption) ?_
      rotate_left
      · (intro w hSw; obtain ⟨q0, q1, q2, q3, q4⟩ := hSw; go_simp; try with_reducible rfl)
      try simp only [nrm]
      refine wpAnyI_take (i := 2) (oi := _) (v := ?_) (by kernel_rfl) rfl (by kernel_rfl) (by kernel_rfl) (by kernel_rfl) (fun _ _ _ h => h) (Or.inl ⟨by rfl, ?_⟩) (fun _ => rfl) (by assumption) ?_
      rotate_left
      · (intro w hSw; obtain ⟨q0, q1, q2, q3, q4⟩ := hSw; go_simp; try with_reducible rfl)
      try simp only [nrm]
      refine wpAnyI_take (i := 3) (oi := _) (v := ?_) (by kernel_rfl) rfl (by kernel_rfl) (by kernel_rfl) (by kernel_rfl) (fun _ _ _ h => h) (Or.inl ⟨by rfl, ?_⟩) (fun _ => rfl) (by assumption) ?_
      rotate_left
      · (intro w hSw; obtain ⟨q0, q1, q2, q3, q4⟩ := hSw; go_simp; try with_reducible rfl)
      try simp only [nrm]
      refine wpAnyI_take (i := 4) (oi := _) (v := ?_) (by kernel_rfl) rfl (by kernel_rfl) (by kernel_rfl) (by kernel_rfl) (fun _ _ _ h => h) (Or.inl ⟨by rfl, ?_⟩) (fun _ => rfl) (by assumption) ?_
      rotate_left
      · (intro w hSw; obtain ⟨q0, q1, q2, q3, q4⟩ := hSw; go_simp; try with_reducible rfl)
      try simp only [nrm]
      refine wpAnyI_take (i := 5) (oi := _) (v := ?_) (by kernel_rfl) rfl (by kernel_rfl) (by kernel_rfl) (by kernel_rfl) (fun _ _ _ h => h) (Or.inl ⟨by rfl, ?_⟩) (fun _ => rfl) (by assumption) ?_
      rotate_left
      · (intro w hSw; obtain ⟨q0, q1, q2, q3, q4⟩ := hSw; go_simp; try with_reducible rfl)
      try simp only [nrm]
      refine wpAnyI_take (i := 6) (oi := _) (v := ?_) (by kernel_rfl) rfl (by kernel_rfl) (by kernel_rfl) (by kernel_rfl) (fun _ _ _ h => h) (Or.inl ⟨by rfl, ?_⟩) (fun _ => rfl) (by assumption) ?_
      rotate_left
      · (intro w hSw; obtain ⟨q0, q1, q2, q3, q4⟩ := hSw; go_simp; try with_reducible rfl)
      try simp only [nrm]
      refine wpAnyI_take (i := 7) (oi := _) (v := ?_) (by kernel_rfl) rfl (by kernel_rfl) (by kernel_rfl) (by kernel_rfl) (fun _ _ _ h => h) (Or.inl ⟨by rfl, ?_⟩) (fun _ => rfl) (by assumption) ?_
      rotate_left
      · (intro w hSw; obtain ⟨q0, q1, q2, q3, q4⟩ := hSw; go_simp; try with_reducible rfl)
      try simp only [nrm]
      refine wpAnyI_take (i := 9) (oi := _) (v := ?_) (by kernel_rfl) rfl (by kernel_rfl) (by kernel_rfl) (by kernel_rfl) (fun _ _ _ h => h) (Or.inl ⟨by rfl, ?_⟩) (fun _ => rfl) (by assumption) ?_
      rotate_left
      · (intro w hSw; obtain ⟨q0, q1, q2, q3, q4⟩ := hSw; go_simp; try with_reducible rfl)
      try simp only [nrm]
      refine wpAnyI_ready (rs := [8]) (by kernel_rfl) (by simp) ?_
      refine AllReadyI.cons (o := _) rfl (fun K hK => ?_) AllReadyI.nil
      go_simp
      refine ⟨trivial, (CallsIn.inRound l' (callsIn_wide.2 (CR.out _))).mono ?_⟩
      rintro e w8 ⟨rfl, hw8⟩
      have HV8 : Hid (Below W.heap.size W w8) := Lib.hid (by rw [hw8]; exact (drew_below W).alloc (Nat.le_refl _) _)
      clear hw8
      refine hK.out _ _ (HSK.out _ (Onl.of_below HV8.out (Nat.le_refl _))) (fun hHeld => ?_)
      clear hK K
      try simp only [nrm]
      refine wpAnyI_ready (rs := [10]) (by kernel_rfl) (by simp) ?_
      refine AllReadyI.cons (o := _) rfl (fun K hK => ?_) AllReadyI.nil
      go_simp
      refine ⟨trivial, (CallsIn.inRound l' (callsIn_wide.2 (CJ.out _ HV8.out))).mono ?_⟩
      rintro e w9 ⟨rfl, ht9, hs9⟩
      have HO9 := Lib.hid ((Onl.of_below HV8.out (Nat.le_refl _)).trans hs9.onl)
      have HT9 := Lib.hid ht9
      clear ht9 hs9
      refine hK.out _ _ (HSK.out _ HO9.out) (fun hHeld => ?_)
      clear hK K
      try simp only [nrm]
      refine wpAnyI_done (by kernel_rfl) ?_ _
      clear hHeld HSK CR CJ
      gi_wp2_with fail
      have hz := HON.out.size
      have ht := HT9.out.congr (Q := fun r z => B z r ∨ (r ∈ pre ++ [x] ∧ U 0 z)) (fun r z _ _ => by
        simp only [List.mem_append, List.mem_singleton]
        constructor
        · rintro ((h | ⟨h, h1⟩) | ⟨h, h1⟩)
          · exact .inl h
          · exact .inr ⟨.inl h, h1⟩
          · exact .inr ⟨.inr h, h1⟩
        · rintro (h | ⟨h | h, h1⟩)
          · exact .inl (.inl h)
          · exact .inl (.inr ⟨h, h1⟩)
          · exact .inr ⟨h, h1⟩)
      exact ⟨onl_two HO9.out (by omega) (by omega) (by have := (Array.getElem?_eq_some_iff.1 HL0.out).1; omega), HKOF2.out _ (HON.out.trans HO9.out), ht, HON.out.trans HO9.out⟩
    case done2 =>
    rintro D2 xs w8 hS ⟨ht, hon⟩ hkp hD2 hD
    clear hkp
    have hz8 := hon.size
    have hdd := HD.out
    have hD1l : D1 < w6.heap.size := (Array.getElem?_eq_some_iff.1 HMK.out).1
    have hM2 : (w8.putObj D2 (.deferred none)).heap[D1]? = some (.deferred (some [])) :=
      (World.putObj_heap_other (by omega)).trans ((hon.block _ (by omega) (fun e => by have h1 := HMK.out; have h2 := HBL2.out.ah; unfold Tb at h2; rw [e, h2] at h1; cases h1)).trans ((HB2.out.block _ hD1l).trans HMK.out))
    have HM2 := Lib.hid hM2
    have HD2 := Lib.hid hD
    have hkeep : ∀ k, k < w7.heap.size → k ≠ D1 → ((w8.putObj D2 (.deferred none)).putObj D1 (.deferred none)).heap[k]? = w8.heap[k]? := fun k hk hne =>
      (World.putObj_heap_other (Ne.symm hne.symm)).trans (World.putObj_heap_other (by omega))
    have hnd : ∀ (k : Nat) (x : Obj), w6.heap[k]? = some x → (∀ l, x ≠ .deferred l) → k ≠ D1 := fun k x h1 h2 e => by
      subst e
      have := HMK.out
      rw [h1] at this
      exact h2 _ (Option.some.inj this)
    have hB : Bl ((w8.putObj D2 (.deferred none)).putObj D1 (.deferred none)) d n T (fun r x => B r x ∨ (U 0 r ∧ V 0 x)) := by
      have q1 := hlt2
      have n1 := hnd _ _ HBL2.out.blk (fun l e => by cases e)
      have n2 := hnd _ _ HBL2.out.prog (fun l e => by cases e)
      have n3 := hnd _ _ HBL2.out.tk (fun l e => by cases e)
      have n4 := hnd _ _ HBL2.out.ah (fun l e => by cases e)
      have n5 := hnd _ _ HBL2.out.bh (fun l e => by cases e)
      have n6 : (0 : Nat) ≠ D1 := fun e => by
        have h0 := HBL2.out.dz 0 (by decide)
        rw [e] at h0
        simp [World.cell?, HMK.out] at h0
      have hzl := HBL2b.out.dz.lt
      refine ⟨(hkeep _ q1.1 n1).trans ((hon.block _ q1.1 hdd.ba).trans HBL2b.out.blk), (hkeep _ q1.2.1 n2).trans ((hon.block _ q1.2.1 hdd.pa).trans HBL2b.out.prog), (HBL2b.out.tk.onl hon hdd.ta).kept (hkeep _ q1.2.2.1 n3), ?_, (HBL2b.out.bh.onl hon hdd.ah.symm).kept (hkeep _ q1.2.2.2.2 n5), (HBL2b.out.dz.kept (hon.block _ hzl hdz2.symm)).kept (hkeep _ hzl n6)⟩
      refine (ht.kept (hkeep _ q1.2.2.2.1 n4)).congr fun r x hr hx => ?_
      rw [hS]
      simp only [ups_mem]
      have : r < 64 * d.m := by omega
      simp [this, and_comm]
    have hC : Chg (fun k => k = d.a ∨ k = d.h) w ((w8.putObj D2 (.deferred none)).putObj D1 (.deferred none)) := by
      refine Chg.put (Chg.put (((((Chg.of_below HBW.out (Nat.le_refl _)).then (Chg.of_below HB1.out (Nat.le_refl _))).then (Chg.of_onl HON6.out (fun _ => .inr rfl))).then (Chg.of_below HB2.out (Nat.le_refl _))).then (Chg.of_onl hon (fun _ => .inl rfl))) (by have := HBW.out.size; omega) _) (by have := HBW.out.size; omega) _
    have HFF := Lib.hid (And.intro hB hC)
    clear hB hC hkeep hnd ht hon hS hD hM2
    go_wp2_with fail
    refine ⟨by simp, .inl ⟨_, _, rfl, run_takeDeferred HD2.out, ?_⟩⟩
    refine ⟨by simp, .inl ⟨_, _, rfl, run_takeDeferred HM2.out, ?_⟩⟩
    refine ⟨.tuple #[], ?_, rfl, HFF.out⟩
    simp [results, Tryz.results76, go_sem]
end Go.Proofs.YtmlpkimbcjkbkaaGreatDoor
