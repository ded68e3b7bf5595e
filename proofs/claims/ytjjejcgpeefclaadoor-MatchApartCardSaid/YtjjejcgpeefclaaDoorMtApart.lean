/-
  THE WALK of MatchApart: no two of all matches overlap.
-/
import Derived.Test.YtjjejcgpeefclaaDoorMtAl2
import Derived.Test.YtjjejcgpeefclaaDoorMtA
import Derived.Test.YtjjejcgpeefclaaDoorCutA
import Derived.Test.YtjjejcgpeefclaaDoorMtLk
import Derived.Deep.DeepCutAuto
import Derived.Deep.CutBlock
namespace Go.Proofs.YtjjejcgpeefclaaDoor
open Go.RowKit
attribute [local go_sem] Oper.semAt_some

theorem appat_any (s0 : ByteArray) (h : s0.size ≤ maxLen) (w : World) : Calls Tryd.prog 10 #[.string s0] w fun e w' => e = .returned (.string (cutB s0 40)) ∧ w = w' := by
  have C0 := Lib.hid (cut_any s0 40 w h (by omega))
  clear h
  go_enter Tryd.func10, Tryd.ntmps10
  go_wp2_with fail
  refine C0.out.mono ?_
  rintro e w1 ⟨rfl, rfl⟩
  go_wp2_with fail
  go_ret
  exact ⟨rfl, rfl⟩
/-- A box of one cell. -/
def Bx (V : World) (b : Nat) (t : TypeId) (v : Value) : Prop := V.heap[b]? = some (.cells #[v] t (0, 0))
theorem Bx.lt {V : World} {b : Nat} {t : TypeId} {v : Value} (h : Bx V b t v) : b < V.heap.size := (Array.getElem?_eq_some_iff.1 h).1
theorem Bx.next {V V' : World} {b : Nat} {t : TypeId} {v : Value} (h : Bx V b t v) (hb : Below V.heap.size V V') : Bx V' b t v := (hb.block b h.lt).trans h
theorem Bx.new (V : World) (t : TypeId) (v : Value) : Bx (V.alloc (.cells #[v] t)) V.heap.size t v := mt_heap_new _ _
theorem Bx.set {V : World} {b : Nat} {t : TypeId} {v : Value} (h : Bx V b t v) (u : Value) : Bx (V.setCell ⟨b, 0, none⟩ u) b t u := rg_setCell h u
theorem Bx.setNe {V : World} {b k : Nat} {t : TypeId} {v : Value} (h : Bx V b t v) (hk : b ≠ k) (u : Value) : Bx (V.setCell ⟨k, 0, none⟩ u) b t v := (Below.heap_setCell V ⟨k, 0, none⟩ u b hk).trans h
theorem Bx.put {V : World} {b k : Nat} {t : TypeId} {v : Value} (h : Bx V b t v) (hk : b ≠ k) (x : Obj) : Bx (V.putObj k x) b t v := (World.putObj_heap_other hk).trans h
theorem Bx.neLoop {V : World} {b k : Nat} {t : TypeId} {v : Value} {r : Loop} (h : Bx V b t v) (hl : V.heap[k]? = some (.loop r)) : b ≠ k := fun e => by
  subst e; unfold Bx at h; rw [hl] at h; cases h
theorem below_put {B : Nat} {a w : World} (h : Below B a w) {k : Nat} (hk : B ≤ k) (x : Obj) : Below B a (w.putObj k x) :=
  ⟨h.os, h.tape, h.output, by rw [World.putObj_size]; exact h.size, fun j hj => (World.putObj_heap_other (by omega)).trans (h.block j hj)⟩
/-- The text's box and the answer's. -/
def Ap (w V : World) (t : ByteArray) : Prop := Below w.heap.size w V ∧ Bx V w.heap.size 9 (.string t) ∧ Bx V (w.heap.size + 1) 4 (.bool false)
theorem Ap.next {w V V' : World} {t : ByteArray} (h : Ap w V t) (hb : Below V.heap.size V V') : Ap w V' t := ⟨h.1.trans (hb.mono h.1.size), h.2.1.next hb, h.2.2.next hb⟩
theorem ap_fin {w V : World} {t0 t : ByteArray} (h : Ap w V t0) : Ap w (V.setCell ⟨w.heap.size, 0, none⟩ (.string t)) t := ⟨h.1.setCell (Nat.le_refl _) _, h.2.1.set _, h.2.2.setNe (by omega) _⟩
/-- Behind some rounds: where the last match ended, how many there were. -/
def ApI (w : World) (b : Nat) (t : ByteArray) (pre : List (Nat × Nat)) (W : World) : Prop := Ap w W t ∧ Bx W b 3 (.int .i64 (lastOf pre : Int)) ∧ Bx W (b + 1) 3 (.int .i64 (pre.length : Int))
theorem ApI.next {w W W' : World} {b : Nat} {t : ByteArray} {pre : List (Nat × Nat)} (h : ApI w b t pre W) (hb : Below W.heap.size W W') : ApI w b t pre W' := ⟨h.1.next hb, h.2.1.next hb, h.2.2.next hb⟩
theorem ApI.put {w W : World} {b k : Nat} {t : ByteArray} {pre : List (Nat × Nat)} {r : Loop} (h : ApI w b t pre W) (hk : w.heap.size ≤ k) (hl : W.heap[k]? = some (.loop r)) (x : Obj) : ApI w b t pre (W.putObj k x) :=
  ⟨⟨below_put h.1.1 hk x, h.1.2.1.put (h.1.2.1.neLoop hl) x, h.1.2.2.put (h.1.2.2.neLoop hl) x⟩, h.2.1.put (h.2.1.neLoop hl) x, h.2.2.put (h.2.2.neLoop hl) x⟩
theorem ApI.step {w W : World} {b : Nat} {t : ByteArray} {pre : List (Nat × Nat)} (h : ApI w b t pre W) (hb : w.heap.size + 2 ≤ b) (x : Nat × Nat) : ApI w b t (pre ++ [x]) ((W.setCell ⟨b, 0, none⟩ (.int .i64 (x.2 : Int))).setCell ⟨b + 1, 0, none⟩ (.int .i64 ((pre.length : Int) + 1))) := by
  refine ⟨⟨(h.1.1.setCell (by show w.heap.size ≤ b; omega) _).setCell (by show w.heap.size ≤ b + 1; omega) _, (h.1.2.1.setNe (by omega) _).setNe (by omega) _, (h.1.2.2.setNe (by omega) _).setNe (by omega) _⟩, ?_, ?_⟩
  · rw [lastOf_snoc]
    exact (h.2.1.set _).setNe (by omega) _
  · rw [show (((pre ++ [x]).length : Nat) : Int) = (pre.length : Int) + 1 from by simp]
    exact (h.2.2.setNe (by omega) _).set _
theorem kps_set {bs : Nat} {d : Pd} {t : RT} {s : ByteArray} {g b : Nat} {W : World} (h : KpS bs d t s g W) (hne : ∀ k, k = bs ∨ k = d.p ∨ k = d.t ∨ k = d.a ∨ k = d.h ∨ k = d.f ∨ k = d.l ∨ k = g ∨ k = (0 : Nat) → k ≠ b) (u : Value) : KpS bs d t s g (W.setCell ⟨b, 0, none⟩ u) :=
  h.kept fun k hk _ => Below.heap_setCell W ⟨b, 0, none⟩ u k (hne k hk)
set_option maxHeartbeats 4000000 in
set_option maxRecDepth 100000 in
theorem apart_walk (s0 t0 : ByteArray) (hs : s0.size ≤ maxLen) (ht : t0.size ≤ maxLen) (w : World) (hdz : Dz w) :
    Calls Tryd.prog 6 #[.string s0, .string t0] w fun e w' => e = .returned (.bool true) ∧ Below w.heap.size w w' := by
  have CS := Lib.hid fun Z => appat_any s0 hs Z
  have CT := Lib.hid fun Z => cut_any t0 40 Z ht (by omega)
  have hss := cutB_size s0 40
  have hts := cutB_size t0 40
  generalize cutB s0 40 = s at *
  generalize cutB t0 40 = t at *
  have HDZ := Lib.hid hdz
  have CAW := Lib.hid fun Z (hz : Dz Z) => mawake_any Z hz
  obtain ⟨W1, hW1⟩ : ∃ W1, ((w.alloc (.cells #[.string t0] 9)).alloc (.cells #[.bool false] 4)) = W1 := ⟨_, rfl⟩
  have hbA : Below w.heap.size w W1 := by rw [← hW1]; exact ((Below.refl _ _).alloc (Nat.le_refl _) _).alloc (by simp) _
  have hx0 : Bx W1 w.heap.size 9 (.string t0) := by rw [← hW1]; exact (Bx.new w _ _).next ((Below.refl _ _).alloc (Nat.le_refl _) _)
  have hx1 : Bx W1 (w.heap.size + 1) 4 (.bool false) := by
    rw [← hW1]
    have := Bx.new (w.alloc (.cells #[.string t0] 9)) 4 (.bool false)
    rwa [World.size_alloc] at this
  have HA0 : Hid (Ap w W1.drew t0) := Lib.hid ⟨hbA.drew, hx0, hx1⟩
  have HW1 := Lib.hid hW1
  clear hs ht hdz hbA hx0 hx1 hW1
  refine (callsIn_wide (n := 6)).1 ?_
  refine callsIn_of_wp_marks Tryd.func6 rfl trivial ?_ rfl
  simp only [Tryd.ntmps6, List.size_toArray, List.length_cons, List.length_nil, Nat.reduceAdd, Nat.reduceSub, Array.replicate_succ, Array.replicate_zero, List.push_toArray, List.append_toArray, List.nil_append, List.cons_append]
  refine wpIn_wide.2 ?_
  go_upto_region 1 with fail
  rw [HW1.out]
  clear HW1
  go_cut [0] from 14 to 17 (fun v0 wx => v0 = .string s ∧ Hid (Ap w wx t))
  case first =>
    refine wp_mono (Q := NoP _) ?_ (fun e a w h => h.2)
    refine wp_region_L (st := [5]) (S := fun Z => Z.cell? ⟨w.heap.size, 0, none⟩ = some (.string t0)) (by kernel_rfl) (rg_cell HA0.out.2.1) (fun hHeld => ?_)
    generalize W1.drew = w8 at *
    refine wpAnyL_take (i := 0) (oi := _) (v := ?_) rfl (by kernel_rfl) (by kernel_rfl) (by kernel_rfl) (by decide) (by kernel_rfl) (by kernel_rfl) (by kernel_rfl) (fun c _ _ h => absurd rfl (h.1 c)) (Or.inl ⟨by rfl, ?_⟩) (by assumption) ?_
    rotate_left
    · (intro w hSw; have q0 := hSw; go_simp; try with_reducible rfl)
    try simp only [List.getElem_toArray, List.getElem_cons_zero, Act.put, List.setIfInBounds_toArray, List.set_cons_zero, List.set_cons_succ]
    refine wpAnyL_take (i := 2) (oi := _) (v := ?_) rfl (by kernel_rfl) (by kernel_rfl) (by kernel_rfl) (by decide) (by kernel_rfl) (by kernel_rfl) (by kernel_rfl) (fun c _ _ h => absurd rfl (h.1 c)) (Or.inl ⟨by rfl, ?_⟩) (by assumption) ?_
    rotate_left
    · (intro w hSw; have q0 := hSw; go_simp; try with_reducible rfl)
    try simp only [List.getElem_toArray, List.getElem_cons_zero, List.getElem_cons_succ, Act.put, List.setIfInBounds_toArray, List.set_cons_zero, List.set_cons_succ]
    refine wpAnyL_ready (rs := [1]) (by kernel_rfl) (by simp) ?_
    refine AllReadyL.cons (o := _) rfl (fun K hK => ?_) AllReadyL.nil
    go_simp
    refine (CS.out _).mono ?_
    rintro e w9 ⟨rfl, rfl⟩
    refine hK.out _ _ hHeld (fun hHeld => ?_)
    clear hK K
    try simp only [List.getElem_toArray, List.getElem_cons_zero, List.getElem_cons_succ, Act.put, List.setIfInBounds_toArray, List.set_cons_zero, List.set_cons_succ]
    refine wpAnyL_ready (rs := [3]) (by kernel_rfl) (by simp) ?_
    refine AllReadyL.cons (o := _) rfl (fun K hK => ?_) AllReadyL.nil
    go_simp
    refine (CT.out _).mono ?_
    rintro e w9 ⟨rfl, rfl⟩
    refine hK.out _ _ hHeld (fun hHeld => ?_)
    clear hK K
    try simp only [List.getElem_toArray, List.getElem_cons_zero, List.getElem_cons_succ, Act.put, List.setIfInBounds_toArray, List.set_cons_zero, List.set_cons_succ]
    refine wpAnyL_take (i := 4) (oi := _) (v := ?_) rfl (by kernel_rfl) (by kernel_rfl) (by kernel_rfl) (by decide) (by kernel_rfl) (by kernel_rfl) (by kernel_rfl) (fun c _ _ h => absurd rfl (h.1 c)) (Or.inl ⟨by rfl, ?_⟩) (by assumption) ?_
    rotate_left
    · (intro w hSw; have q0 := hSw; go_simp; try with_reducible rfl)
    try simp only [List.getElem_toArray, List.getElem_cons_zero, List.getElem_cons_succ, Act.put, List.setIfInBounds_toArray, List.set_cons_zero]
    have z0 : w8.cell? ⟨w.heap.size, 0, none⟩ = some (.string t0) := rg_cell HA0.out.2.1
    have f0 : w8.frozen? ⟨w.heap.size, 0, none⟩ = false := rg_frozen HA0.out.2.1
    refine wpAnyL_ready (rs := [5]) (by kernel_rfl) (by simp) ?_
    refine AllReadyL.store (o := _) rfl (by decide) (by decide) (fun K hK => ?_) AllReadyL.nil
    go_simp
    refine hK.out _ _ ?_
    clear hK K
    try simp only [List.getElem_toArray, List.getElem_cons_zero, List.getElem_cons_succ, Act.put, List.setIfInBounds_toArray, List.set_cons_zero]
    refine wpAnyL_done (by kernel_rfl) ?_ _
    refine ⟨fun c h => (by cases h), ?_⟩
    go_wp2_with fail
    go_meet
    exact ⟨rfl, Lib.hid (ap_fin HA0.out)⟩
  case rest =>
    obtain ⟨rfl, HA⟩ := hcut
    clear HA0
    have HZ := Lib.hid (HDZ.out.next HA.out.1)
    have CP := Lib.hid (rparse_any s wc (by omega))
    clear HDZ CS CT
    go_wp2_with fail
    refine CP.out.mono ?_
    rintro e w2 ⟨hb2, (⟨t1, r, nd, ht, rfl, htr⟩ | ⟨n, k, ht, hk, hn, rfl⟩)⟩
    · obtain ⟨nop, nst, kp, kn, kc⟩ := nd
      have hz2 := hb2.size
      have hfine := top_fine ht
      have hlen : s.data.toList.length = s.size := by simp
      obtain ⟨W3, hW3⟩ : ∃ W3, w2.alloc (.cells #[.int .i64 nop, .int .u64 nst.a, .int .u64 nst.b, .int .u64 nst.c, .int .u64 nst.d, .slice kp kn kc] 50) = W3 := ⟨_, rfl⟩
      have hb3 : Below w2.heap.size w2 W3 := by rw [← hW3]; exact (Below.refl _ _).alloc (Nat.le_refl _) _
      have HZ3 := Lib.hid ((HZ.out.next hb2).next hb3)
      have HA3 := Lib.hid ((HA.out.next hb2).next hb3)
      have HC := Lib.hid (mcomp_any t1 hfine.1 (by omega) (htr.kept (B' := fun g => wc.heap.size ≤ g) (fun g _ hl => hb3.block g hl) (fun g hg _ => hg)) HZ3.out)
      have HX3 : Hid (W3.heap[w2.heap.size]? = some (.cells #[.int .i64 nop, .int .u64 nst.a, .int .u64 nst.b, .int .u64 nst.c, .int .u64 nst.d, .slice kp kn kc] 50 (0, 0))) := Lib.hid (by rw [← hW3]; exact mt_heap_new _ _)
      have x0 : W3.cell? ⟨w2.heap.size, 0, none⟩ = some (.int .i64 nop) := rg_cell HX3.out
      have x1 : W3.cell? ⟨w2.heap.size, 1, none⟩ = some (.int .u64 nst.a) := rg_cell HX3.out
      have x2 : W3.cell? ⟨w2.heap.size, 2, none⟩ = some (.int .u64 nst.b) := rg_cell HX3.out
      have x3 : W3.cell? ⟨w2.heap.size, 3, none⟩ = some (.int .u64 nst.c) := rg_cell HX3.out
      have x4 : W3.cell? ⟨w2.heap.size, 4, none⟩ = some (.int .u64 nst.d) := rg_cell HX3.out
      have x5 : W3.cell? ⟨w2.heap.size, 5, none⟩ = some (.slice kp kn kc) := rg_cell HX3.out
      have HW3 := Lib.hid hW3
      clear ht hb2 hb3 hW3 htr hfine hlen HX3 CP HZ HA
      unfold Nd.val at HC ⊢
      simp only at HC ⊢
      go_upto_region 3 with fail
      rw [HW3.out]
      clear HW3
      go_wp2_with fail
      refine HC.out.mono ?_
      rintro e w4 ⟨d, rfl, hpg, hb4⟩
      have HPG := Lib.hid hpg
      have HA4 := Lib.hid (HA3.out.next hb4)
      clear hpg hb4 HC HZ3 HA3 x0 x1 x2 x3 x4 x5
      obtain ⟨W5, hW5⟩ : ∃ W5, (w4.alloc (.cells #[.int .i64 0] 3)).alloc (.cells #[.int .i64 0] 3) = W5 := ⟨_, rfl⟩
      have hb5 : Below w4.heap.size w4 W5 := by rw [← hW5]; exact ((Below.refl _ _).alloc (Nat.le_refl _) _).alloc (by simp) _
      have hz5 : W5.heap.size = w4.heap.size + 2 := by rw [← hW5]; simp
      have hx10 : Bx W5 w4.heap.size 3 (.int .i64 0) := by rw [← hW5]; exact (Bx.new w4 _ _).next ((Below.refl _ _).alloc (Nat.le_refl _) _)
      have hx11 : Bx W5 (w4.heap.size + 1) 3 (.int .i64 0) := by
        rw [← hW5]
        have := Bx.new (w4.alloc (.cells #[.int .i64 0] 3)) 3 (.int .i64 0)
        rwa [World.size_alloc] at this
      have hdl := HPG.out.lt
      have hzl := HPG.out.dz.lt
      have HI5 : Hid (ApI w w4.heap.size t [] W5) := Lib.hid ⟨HA4.out.next hb5, hx10, hx11⟩
      have hwb : w.heap.size + 2 ≤ w4.heap.size := by have := HA4.out.2.2.lt; omega
      have CALL := Lib.hid (mAll_call t (by omega) (HPG.out.next hb5))
      have HW5 := Lib.hid hW5
      generalize hB : w4.heap.size = B at *
      clear hW5 hb5 hx10 hx11 HA4 HPG
      go_upto_region 10 with fail
      try simp only [hB]
      rw [HW5.out]
      clear HW5
      have q0 : W5.cell? ⟨w.heap.size, 0, none⟩ = some (.string t) := rg_cell HI5.out.1.2.1
      go_wp2_with fail
      clear q0
      refine CALL.out.mono ?_
      rintro e w6 ⟨bs, g, rfl, hbs, hgs, hkp, hb6⟩
      have HKP := Lib.hid hkp
      have HI6 := Lib.hid (HI5.out.next hb6)
      have hz6 := hb6.size
      clear hkp hb6 CALL HI5
      dsimp only
      go_wp2_with fail
      refine (wpIn_wide (n := 6)).1 ?_
      gi_wp2_with fail
      have hb7 : ∀ r, Below w6.heap.size w6 ((w6.alloc (.deferred (some []))).alloc (.loop r)) := fun r => ((Below.refl _ _).alloc (Nat.le_refl _) _).alloc (by simp) _
      have HNE : Hid (∀ k, k = bs ∨ k = d.p ∨ k = d.t ∨ k = d.a ∨ k = d.h ∨ k = d.f ∨ k = d.l ∨ k = g ∨ k = (0 : Nat) → k ≠ B ∧ k ≠ B + 1) := Lib.hid fun k hk => by
        obtain ⟨l1, l2, l3, l4, l5, l6⟩ := hdl
        rcases hk with rfl | rfl | rfl | rfl | rfl | rfl | rfl | rfl | rfl <;> exact ⟨by omega, by omega⟩
      refine wpIn_rangeR (F := Fence.wide) rfl (by omega) (gf := 27) (lb := #[.pointer (some ⟨bs, 0, none⟩)]) rfl trivial (enters_of Tryd.func27 (by kernel_rfl) rfl)
        (mAll_seq (s := t) (t := t1) (d := d) (g := g) (by omega) bs _ (by omega)) (fun _ => rfl) (fun W r o h hl => KpS.put h hl o)
        (fun pre W => ApI w B t pre W) (fun _ _ _ => False) (fun pre W W' h hb => h.next hb) ?hI (fun _ _ _ _ _ h _ => h) ?hK0 ?h0 ?a1 ?assign ?body ?done ?stop
      case hI =>
        rintro pre W r o h hlr
        exact h.put (by omega) hlr o
      case hK0 =>
        intro r
        exact HKP.out.next (hb7 r)
      case h0 =>
        intro r
        exact HI6.out.next (hb7 r)
      case assign =>
        intro l' x W K hK
        simp only [encP]
        gi_wp2
        exact hK
      case stop => rintro D c pre W _ h; exact h.elim
      case body =>
        rintro l' pre ⟨i, j⟩ W hi hkp ⟨r, hlr⟩ hD hlen hsp
        obtain ⟨g1, g2, g3, g4⟩ := hsp.good
        have hDl : w6.heap.size + 1 < W.heap.size := (Array.getElem?_eq_some_iff.1 hlr).1
        have HST := Lib.hid (hi.step hwb (i, j))
        have HKS : Hid (KpS bs d t1 t g ((W.setCell ⟨B, 0, none⟩ (.int .i64 (j : Int))).setCell ⟨B + 1, 0, none⟩ (.int .i64 ((pre.length : Int) + 1)))) := Lib.hid (kps_set (kps_set hkp (fun k hk => (HNE.out k hk).1) _) (fun k hk => (HNE.out k hk).2) _)
        have HTW : Hid (Two w6.heap.size W ((W.setCell ⟨B, 0, none⟩ (.int .i64 (j : Int))).setCell ⟨B + 1, 0, none⟩ (.int .i64 ((pre.length : Int) + 1)))) := Lib.hid
          ⟨(Below.heap_setCell _ ⟨B + 1, 0, none⟩ _ _ (by show w6.heap.size ≠ B + 1; omega)).trans (Below.heap_setCell _ ⟨B, 0, none⟩ _ _ (by show w6.heap.size ≠ B; omega)),
           (Below.heap_setCell _ ⟨B + 1, 0, none⟩ _ _ (by show w6.heap.size + 1 ≠ B + 1; omega)).trans (Below.heap_setCell _ ⟨B, 0, none⟩ _ _ (by show w6.heap.size + 1 ≠ B; omega))⟩
        have c0 : W.cell? ⟨w.heap.size, 0, none⟩ = some (.string t) := rg_cell hi.1.2.1
        have c1 : W.cell? ⟨B, 0, none⟩ = some (.int .i64 (lastOf pre : Int)) := rg_cell hi.2.1
        have c2 : W.cell? ⟨B + 1, 0, none⟩ = some (.int .i64 (pre.length : Int)) := rg_cell hi.2.2
        have k1 : W.frozen? ⟨B, 0, none⟩ = false := rg_frozen hi.2.1
        have hi' := hi.2.2.setNe (show B + 1 ≠ B by omega) (.int .i64 (j : Int))
        have c3 : (W.setCell ⟨B, 0, none⟩ (.int .i64 (j : Int))).cell? ⟨B + 1, 0, none⟩ = some (.int .i64 (pre.length : Int)) := rg_cell hi'
        have k3 : (W.setCell ⟨B, 0, none⟩ (.int .i64 (j : Int))).frozen? ⟨B + 1, 0, none⟩ = false := rg_frozen hi'
        have hNp : (pre.length : Int) ≤ 42 := by omega
        have n1 : ¬ (i : Int) < (lastOf pre : Int) := by have : lastOf pre ≤ i := g1; omega
        have n2 : ¬ (j : Int) < (i : Int) := by have : i ≤ j := g2; omega
        have n3 : ¬ (t.size : Int) < (j : Int) := by have : j ≤ t.size := g3; omega
        have hcase : ¬ 0 < (pre.length : Int) ∨ (0 < (pre.length : Int) ∧ ((i : Int) == (j : Int)) = false) ∨ (0 < (pre.length : Int) ∧ ((i : Int) == (j : Int)) = true ∧ ((i : Int) == (lastOf pre : Int)) = false) := by
          by_cases hp : pre = []
          · left; subst hp; simp
          · have hpl : 0 < pre.length := List.length_pos_iff.2 hp
            have hpi : 0 < (pre.length : Int) := by omega
            right
            by_cases hij : i = j
            · right
              refine ⟨hpi, by rw [hij]; simp, ?_⟩
              rw [Bool.eq_false_iff]; intro h
              have := eq_of_beq h
              exact g4 hp ⟨hij, by show i = lastOf pre; omega⟩
            · left
              refine ⟨hpi, ?_⟩
              rw [Bool.eq_false_iff]; intro h
              have := eq_of_beq h
              omega
        generalize lastOf pre = la at *
        clear hi hi' hkp hlr hD hlen hsp g1 g2 g3 g4 HNE
        rcases hcase with h | ⟨h, h'⟩ | ⟨h, h', h''⟩
        all_goals
          gi_wp2_with fail
          exact ⟨HTW.out, HKS.out, HST.out⟩
      case done =>
        rintro D xs W hS hI hkp rfl hD
        have hDl := (Array.getElem?_eq_some_iff.1 hD).1
        have HD := Lib.hid hD
        have HS := Lib.hid hS.any
        have HI := Lib.hid hI
        have CIN := Lib.hid fun Z (hz : Below W.heap.size W Z) => mIn_any t (by omega) (hkp.2.pg.next hz)
        have CAWZ := Lib.hid fun Z (hz : Below W.heap.size W Z) => CAW.out Z (hkp.2.pg.dz.next hz)
        have HSK : Hid (∀ Z, Below W.heap.size W Z → Z.cell? ⟨B + 1, 0, none⟩ = some (.int .i64 (xs.length : Int)) ∧ Z.cell? ⟨w.heap.size, 0, none⟩ = some (.string t) ∧ Below W.heap.size W Z) := Lib.hid fun Z hz =>
          ⟨rg_cell (HI.out.2.2.next hz), rg_cell (HI.out.1.2.1.next hz), hz⟩
        have hneD : w6.heap.size ≠ w.heap.size + 1 := by omega
        clear hD hS hI hkp HNE HKP HI6 CAW
        go_wp2_with fail
        refine wp_mono (Q := NoP _) ?_ (fun e a w h => h.2)
        refine wp_region_L (st := [9]) (S := fun Z => Z.cell? ⟨B + 1, 0, none⟩ = some (.int .i64 (xs.length : Int)) ∧ Z.cell? ⟨w.heap.size, 0, none⟩ = some (.string t) ∧ Below W.heap.size W Z) (by kernel_rfl) (HSK.out _ (drew_below W)) (fun hHeld => ?_)
        generalize W.drew = w8 at *
        refine wpAnyL_ready (rs := [0]) (by kernel_rfl) (by simp) ?_
        refine AllReadyL.cons (o := _) rfl (fun K hK => ?_) AllReadyL.nil
        go_simp
        refine (CAWZ.out _ hHeld.2.2).mono ?_
        rintro e w9 ⟨rfl, hb9⟩
        have hHeld9 := HSK.out _ (hHeld.2.2.trans (hb9.mono hHeld.2.2.size))
        refine hK.out _ _ hHeld9 (fun hHeld => ?_)
        clear hK K hb9 hHeld9
        try simp only [List.getElem_toArray, List.getElem_cons_zero, List.getElem_cons_succ, Act.put, List.setIfInBounds_toArray, List.set_cons_zero, List.set_cons_succ]
        refine wpAnyL_take (i := 1) (oi := _) (v := ?_) rfl (by kernel_rfl) (by kernel_rfl) (by kernel_rfl) (by decide) (by kernel_rfl) (by kernel_rfl) (by kernel_rfl) (fun c _ _ h => absurd rfl (h.1 c)) (Or.inl ⟨by rfl, ?_⟩) (by assumption) ?_
        rotate_left
        · (intro w hSw; obtain ⟨q0, q1, _⟩ := hSw; go_simp; try with_reducible rfl)
        try simp only [List.getElem_toArray, List.getElem_cons_zero, List.getElem_cons_succ, Act.put, List.setIfInBounds_toArray, List.set_cons_zero, List.set_cons_succ]
        refine wpAnyL_take (i := 2) (oi := _) (v := ?_) rfl (by kernel_rfl) (by kernel_rfl) (by kernel_rfl) (by decide) (by kernel_rfl) (by kernel_rfl) (by kernel_rfl) (fun c _ _ h => absurd rfl (h.1 c)) (Or.inl ⟨by rfl, ?_⟩) (by assumption) ?_
        rotate_left
        · (intro w hSw; obtain ⟨q0, q1, _⟩ := hSw; go_simp; try with_reducible rfl)
        try simp only [List.getElem_toArray, List.getElem_cons_zero, List.getElem_cons_succ, Act.put, List.setIfInBounds_toArray, List.set_cons_zero, List.set_cons_succ]
        refine wpAnyL_take (i := 3) (oi := _) (v := ?_) rfl (by kernel_rfl) (by kernel_rfl) (by kernel_rfl) (by decide) (by kernel_rfl) (by kernel_rfl) (by kernel_rfl) (fun c _ _ h => absurd rfl (h.1 c)) (Or.inl ⟨by rfl, ?_⟩) (by assumption) ?_
        rotate_left
        · (intro w hSw; obtain ⟨q0, q1, _⟩ := hSw; go_simp; try with_reducible rfl)
        try simp only [List.getElem_toArray, List.getElem_cons_zero, List.getElem_cons_succ, Act.put, List.setIfInBounds_toArray, List.set_cons_zero, List.set_cons_succ]
        refine wpAnyL_take (i := 4) (oi := _) (v := ?_) rfl (by kernel_rfl) (by kernel_rfl) (by kernel_rfl) (by decide) (by kernel_rfl) (by kernel_rfl) (by kernel_rfl) (fun c _ _ h => absurd rfl (h.1 c)) (Or.inl ⟨by rfl, ?_⟩) (by assumption) ?_
        rotate_left
        · (intro w hSw; obtain ⟨q0, q1, _⟩ := hSw; go_simp; try with_reducible rfl)
        try simp only [List.getElem_toArray, List.getElem_cons_zero, List.getElem_cons_succ, Act.put, List.setIfInBounds_toArray, List.set_cons_zero, List.set_cons_succ]
        refine wpAnyL_take (i := 5) (oi := _) (v := ?_) rfl (by kernel_rfl) (by kernel_rfl) (by kernel_rfl) (by decide) (by kernel_rfl) (by kernel_rfl) (by kernel_rfl) (fun c _ _ h => absurd rfl (h.1 c)) (Or.inl ⟨by rfl, ?_⟩) (by assumption) ?_
        rotate_left
        · (intro w hSw; obtain ⟨q0, q1, _⟩ := hSw; go_simp; try with_reducible rfl)
        try simp only [List.getElem_toArray, List.getElem_cons_zero, List.getElem_cons_succ, Act.put, List.setIfInBounds_toArray, List.set_cons_zero, List.set_cons_succ]
        refine wpAnyL_ready (rs := [6]) (by kernel_rfl) (by simp) ?_
        refine AllReadyL.cons (o := _) rfl (fun K hK => ?_) AllReadyL.nil
        go_simp
        refine (CIN.out _ hHeld.2.2).mono ?_
        rintro e w10 ⟨bb, rfl, hbb, hb10⟩
        have hbe : bb = decide (0 < (xs.length : Int)) := by
          rw [Bool.eq_iff_iff, hbb, ← HS.out, decide_eq_true_iff, ← List.length_pos_iff]
          omega
        subst hbe
        have hHeld10 := HSK.out _ (hHeld.2.2.trans (hb10.mono hHeld.2.2.size))
        refine hK.out _ _ hHeld10 (fun hHeld => ?_)
        clear hK K hb10 hHeld10 hbb
        try simp only [List.getElem_toArray, List.getElem_cons_zero, List.getElem_cons_succ, Act.put, List.setIfInBounds_toArray, List.set_cons_zero, List.set_cons_succ]
        refine wpAnyL_take (i := 7) (oi := _) (v := ?_) rfl (by kernel_rfl) (by kernel_rfl) (by kernel_rfl) (by decide) (by kernel_rfl) (by kernel_rfl) (by kernel_rfl) (fun c _ _ h => absurd rfl (h.1 c)) (Or.inl ⟨by rfl, ?_⟩) (by assumption) ?_
        rotate_left
        · (intro w hSw; obtain ⟨q0, q1, _⟩ := hSw; go_simp; try with_reducible rfl)
        try simp only [List.getElem_toArray, List.getElem_cons_zero, List.getElem_cons_succ, Act.put, List.setIfInBounds_toArray, List.set_cons_zero, List.set_cons_succ]
        refine wpAnyL_take (i := 8) (oi := _) (v := ?_) rfl (by kernel_rfl) (by kernel_rfl) (by kernel_rfl) (by decide) (by kernel_rfl) (by kernel_rfl) (by kernel_rfl) (fun c _ _ h => absurd rfl (h.1 c)) (Or.inl ⟨by rfl, ?_⟩) (by assumption) ?_
        rotate_left
        · (intro w hSw; obtain ⟨q0, q1, _⟩ := hSw; go_simp; try with_reducible rfl)
        try simp only [List.getElem_toArray, List.getElem_cons_zero, List.getElem_cons_succ, Act.put, List.setIfInBounds_toArray, List.set_cons_zero, List.set_cons_succ]
        have hx4 := HI.out.1.next hHeld.2.2
        have z4 : w10.cell? ⟨w.heap.size + 1, 0, none⟩ = some (.bool false) := rg_cell hx4.2.2
        have f4 : w10.frozen? ⟨w.heap.size + 1, 0, none⟩ = false := rg_frozen hx4.2.2
        have HD2 : Hid ((w10.setCell ⟨w.heap.size + 1, 0, none⟩ (.bool true)).heap[w6.heap.size]? = some (.deferred (some []))) := Lib.hid ((Below.heap_setCell w10 ⟨w.heap.size + 1, 0, none⟩ _ _ hneD).trans ((hHeld.2.2.block _ hDl).trans HD.out))
        have HRES : Hid (((w10.setCell ⟨w.heap.size + 1, 0, none⟩ (.bool true)).putObj w6.heap.size (.deferred none)).cell? ⟨w.heap.size + 1, 0, none⟩ = some (.bool true)) := Lib.hid (rg_cell ((hx4.2.2.set (.bool true)).put hneD.symm _))
        have HFIN : Hid (Below w.heap.size w ((w10.setCell ⟨w.heap.size + 1, 0, none⟩ (.bool true)).putObj w6.heap.size (.deferred none))) := Lib.hid (below_put (hx4.1.setCell (by show w.heap.size ≤ w.heap.size + 1; omega) _) (by omega) _)
        refine wpAnyL_ready (rs := [9]) (by kernel_rfl) (by simp) ?_
        refine AllReadyL.store (o := _) rfl (by decide) (by decide) (fun K hK => ?_) AllReadyL.nil
        go_simp
        refine hK.out _ _ ?_
        clear hK K
        try simp only [List.getElem_toArray, List.getElem_cons_zero, List.getElem_cons_succ, Act.put, List.setIfInBounds_toArray, List.set_cons_zero, List.set_cons_succ]
        refine wpAnyL_done (by kernel_rfl) ?_ _
        refine ⟨fun c h => (by cases h), ?_⟩
        go_wp2_with fail
        refine ⟨by simp, .inl ⟨_, _, rfl, run_takeDeferred HD2.out, ?_⟩⟩
        refine ⟨.bool true, ?_, rfl, HFIN.out⟩
        simp [results, Tryd.results6, go_sem, HRES.out]
    · obtain ⟨W3, hW3⟩ : ∃ W3, w2.alloc (.cells #[.int .i64 0, .int .u64 0, .int .u64 0, .int .u64 0, .int .u64 0, .slice none 0 0] 50) = W3 := ⟨_, rfl⟩
      have hb3 : Below w2.heap.size w2 W3 := by rw [← hW3]; exact (Below.refl _ _).alloc (Nat.le_refl _) _
      have HA3 := Lib.hid ((HA.out.next hb2).next hb3)
      have CAW3 := Lib.hid (CAW.out W3 ((HZ.out.next hb2).next hb3))
      have hkn : ((k : Int) != 0) = true := by rcases hk with rfl | rfl <;> rfl
      have HW3 := Lib.hid hW3
      clear hb2 hb3 hW3 ht hk hn CP HZ HA
      unfold Nd.val Nd.zero W4.zero
      simp only
      go_upto_region 3 with fail
      rw [HW3.out]
      clear HW3
      go_wp2_with fail
      refine CAW3.out.mono ?_
      rintro e w4 ⟨rfl, hb4⟩
      have HA4 := Lib.hid (HA3.out.next hb4)
      have z4 : w4.cell? ⟨w.heap.size + 1, 0, none⟩ = some (.bool false) := rg_cell HA4.out.2.2
      have f4 : w4.frozen? ⟨w.heap.size + 1, 0, none⟩ = false := rg_frozen HA4.out.2.2
      have HFIN : Hid (Below w.heap.size w (w4.setCell ⟨w.heap.size + 1, 0, none⟩ (.bool true))) := Lib.hid (HA4.out.1.setCell (by show w.heap.size ≤ w.heap.size + 1; omega) _)
      have HRES : Hid ((w4.setCell ⟨w.heap.size + 1, 0, none⟩ (.bool true)).cell? ⟨w.heap.size + 1, 0, none⟩ = some (.bool true)) := Lib.hid (rg_cell (HA4.out.2.2.set _))
      clear hb4 CAW3 HA3
      go_wp2_with fail
      refine ⟨.bool true, ?_, rfl, HFIN.out⟩
      simp [results, Tryd.results6, go_sem, HRES.out]
end Go.Proofs.YtjjejcgpeefclaaDoor
