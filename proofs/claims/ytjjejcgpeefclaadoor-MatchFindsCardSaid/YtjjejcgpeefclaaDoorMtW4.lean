/-
  THE BUILDER of layer 10 in memory; a piece as a value.
-/
import Derived.Test.YtjjejcgpeefclaaDoorOrdI
namespace Go.Proofs.YtjjejcgpeefclaaDoor
open Go.RowKit
attribute [local go_sem] Oper.semAt_some

/-- The loop's own two blocks stand where block g isn't one of them. -/
theorem onl_two {g D : Nat} {W W' : World} (h : Onl g W W') (h1 : D ≠ g) (h2 : D + 1 ≠ g) (hd : D + 1 < W.heap.size) : Two D W W' :=
  ⟨h.block D (by omega) h1, h.block (D + 1) hd h2⟩
theorem onl_put {g k : Nat} {u w : World} (h : Onl g u w) (hk : u.heap.size ≤ k) (o : Obj) : Onl g u (w.putObj k o) :=
  ⟨h.os, h.tape, h.output, by rw [World.putObj_size]; exact h.size, fun j hj hn => (World.putObj_heap_other (by omega)).trans (h.block j hj hn)⟩
theorem Tb.loop {w : World} {g R m k : Nat} {P : Nat → Nat → Prop} {r : Loop} (h : Tb w g R m P) (hl : w.heap[k]? = some (.loop r)) (o : Obj) : Tb (w.putObj k o) g R m P :=
  h.kept (World.putObj_heap_other fun e => by subst e; unfold Tb at h; rw [hl] at h; cases h)
theorem drew_below (w : World) : Below w.heap.size w w.drew := ⟨rfl, rfl, rfl, Nat.le_refl _, fun _ _ => rfl⟩
set_option maxHeartbeats 4000000 in
set_option maxRecDepth 100000 in
theorem mrows_any {w : World} {g g2 g3 R R2 m i o o3 : Nat} {P Q : Nat → Nat → Prop} {S : Nat → Prop} (h : Tb w g R m P) (hi : i < R) (ho : 0 < m → o = i * m)
    (h2 : Tb w g2 R2 m Q) (hne2 : g ≠ g2) (hR2 : R2 * m ≤ 1000000000) (hR2b : R2 ≤ 1000000000) (hdz : Dz w) (hm : m ≤ 10000000) (hS2 : ∀ x, x < 64 * m → S x → x < R2)
    (hS : ∀ W P', Tb W g R m P' → (∀ r x, r ≠ i → (P' r x ↔ P r x)) → (∀ k, k ≠ g → k < w.heap.size → W.heap[k]? = w.heap[k]?) → Rw W g3 o3 m S) (c c3 : Nat) :
    Calls Tryd.prog 41 #[.slice (some ⟨g, o, none⟩) m c, tbV g2 R2 m, .slice (some ⟨g3, o3, none⟩) m c3] w fun e w' => e = .returned (.tuple #[]) ∧ Tb w' g R m (fun r x => P r x ∨ (r = i ∧ ∃ y, y < 64 * m ∧ S y ∧ Q y x)) ∧ Onl g w w' := by
  refine (callsIn_wide (n := 6)).1 ?_
  refine callsIn_of_wp_marks Tryd.func41 rfl trivial ?_ rfl
  simp only [Tryd.ntmps41, List.size_toArray, List.length_cons, List.length_nil, Nat.reduceAdd, Nat.reduceSub, Array.replicate_succ, Array.replicate_zero, List.push_toArray, List.append_toArray, List.nil_append, List.cons_append]
  have hgd := h.ne_dz hdz
  have hgl := h.lt
  have hg2l := h2.lt
  unfold tbV
  have HS := Lib.hid hS
  have HS2 := Lib.hid hS2
  have H1 := Lib.hid h
  have H2 := Lib.hid h2
  have HZ := Lib.hid hdz
  have HOO := Lib.hid ho
  have hbA : Below w.heap.size w ((w.alloc (.cells #[.slice (some ⟨g, o, none⟩) m c] 91)).alloc (.cells #[.int .i64 (m : Int), .slice (some ⟨g2, 0, none⟩) (R2 * m) (R2 * m)] 63)) := ((Below.refl _ _).alloc (Nat.le_refl _) _).alloc (by simp) _
  have hzA : ((w.alloc (.cells #[.slice (some ⟨g, o, none⟩) m c] 91)).alloc (.cells #[.int .i64 (m : Int), .slice (some ⟨g2, 0, none⟩) (R2 * m) (R2 * m)] 63)).heap.size = w.heap.size + 2 := by simp
  have hlA : ((w.alloc (.cells #[.slice (some ⟨g, o, none⟩) m c] 91)).alloc (.cells #[.int .i64 (m : Int), .slice (some ⟨g2, 0, none⟩) (R2 * m) (R2 * m)] 63)).heap[w.heap.size]? = some (.cells #[.slice (some ⟨g, o, none⟩) m c] 91 (0, 0)) := (Below.heap_alloc _ _ _ (by simp)).trans (mt_heap_new _ _)
  have htA : ((w.alloc (.cells #[.slice (some ⟨g, o, none⟩) m c] 91)).alloc (.cells #[.int .i64 (m : Int), .slice (some ⟨g2, 0, none⟩) (R2 * m) (R2 * m)] 63)).heap[w.heap.size + 1]? = some (.cells #[.int .i64 (m : Int), .slice (some ⟨g2, 0, none⟩) (R2 * m) (R2 * m)] 63 (0, 0)) := by
    have := mt_heap_new (w.alloc (.cells #[.slice (some ⟨g, o, none⟩) m c] 91)) (.cells #[.int .i64 (m : Int), .slice (some ⟨g2, 0, none⟩) (R2 * m) (R2 * m)] 63)
    rwa [World.size_alloc] at this
  have HBA := Lib.hid hbA
  have HLA := Lib.hid hlA
  have HTA := Lib.hid htA
  clear h h2 hdz hS hS2 ho hbA hlA htA
  gi_wp2_with fail
  generalize ((w.alloc (.cells #[.slice (some ⟨g, o, none⟩) m c] 91)).alloc (.cells #[.int .i64 (m : Int), .slice (some ⟨g2, 0, none⟩) (R2 * m) (R2 * m)] 63)) = W1 at *
  refine ⟨trivial, (callsIn_wide.2 (all_call g3 o3 m c3 W1)).mono ?_⟩
  rintro e w5 ⟨bs, rfl, hbs, hbk, hb5⟩
  have HB5 : Hid (Below w.heap.size w w5) := Lib.hid (HBA.out.trans (hb5.mono (by omega)))
  have HL5 : Hid (w5.heap[w.heap.size]? = some (.cells #[.slice (some ⟨g, o, none⟩) m c] 91 (0, 0))) := Lib.hid ((hb5.block _ (by omega)).trans HLA.out)
  have HT5 : Hid (w5.heap[w.heap.size + 1]? = some (.cells #[.int .i64 (m : Int), .slice (some ⟨g2, 0, none⟩) (R2 * m) (R2 * m)] 63 (0, 0))) := Lib.hid ((hb5.block _ (by omega)).trans HTA.out)
  have hz5 := hb5.size
  have HBK := Lib.hid hbk
  have hbs1 : w.heap.size + 2 ≤ bs := by omega
  have hbsl : bs < w5.heap.size := (Array.getElem?_eq_some_iff.1 hbk).1
  clear hbk hb5 HBA HLA HTA hbs
  dsimp only
  gi_wp2_with fail
  have hb6 : ∀ r, Below w5.heap.size w5 ((w5.alloc (.deferred (some []))).alloc (.loop r)) := fun r => ((Below.refl _ _).alloc (Nat.le_refl _) _).alloc (by simp) _
  have HKOF : Hid (∀ W P', Tb W g R m P' → (∀ r x, r ≠ i → (P' r x ↔ P r x)) → Onl g w5 W → KpL bs g3 m o3 c3 S W) := Lib.hid fun W P' ht hp hon =>
    ⟨(hon.block bs hbsl (by omega)).trans HBK.out, HS.out W P' ht hp (fun k hk hl => (hon.block k (by omega) hk).trans (HB5.out.block k hl)), (HZ.out.kept (HB5.out.block _ HZ.out.lt)).kept (hon.block _ (by have := HZ.out.lt; omega) hgd.symm)⟩
  refine wpIn_rangeQ (F := Fence.wide) rfl (by omega) (gf := 70) (lb := #[.pointer (some ⟨bs, 0, none⟩)]) rfl trivial (enters_of Tryd.func70 (by kernel_rfl) rfl)
    (all_seq (g := g3) (o := o3) (m := m) (c := c3) (Q := S) hm bs _ (by omega)) (fun _ => rfl) (fun W r o h hl => KpL.put h hl o)
    (fun pre W => Tb W g R m (fun r x => P r x ∨ (r = i ∧ ∃ y, y ∈ pre ∧ Q y x)) ∧ Onl g w5 W) (fun _ _ _ => False) ?hI (fun _ _ _ _ _ h _ => h) ?hK0 ?h0 ?a1 ?assign ?body ?done ?stop
  case hI =>
    rintro pre W r o ⟨h1, h2⟩ hlr
    exact ⟨h1.loop hlr o, onl_put h2 (by omega) o⟩
  case hK0 =>
    intro r
    exact HKOF.out _ P ((H1.out.below HB5.out (by omega)).next (hb6 r)) (fun _ _ _ => Iff.rfl) (Onl.of_below (hb6 r) (Nat.le_refl _))
  case h0 =>
    intro r
    exact ⟨((H1.out.below HB5.out (by omega)).next (hb6 r)).congr (fun r x _ _ => by simp), Onl.of_below (hb6 r) (Nat.le_refl _)⟩
  case assign =>
    intro l' x W K hK
    simp only [encL]
    gi_wp2
    exact hK
  case stop => rintro D c pre W _ h; exact h.elim
  case body =>
    rintro l' pre x W ⟨ht, hon⟩ hkp ⟨r, hlr⟩ hD hlen hsp
    have hxm : x ∈ ups S (64 * m) := hsp.subset (by simp)
    have hx1 := (ups_mem _).1 hxm
    have hxR : x < R2 := HS2.out x hx1.1 hx1.2
    have HT := Lib.hid ht
    have HON := Lib.hid hon
    have HL0 := Lib.hid hlr
    have HD0 := Lib.hid hD
    have HKW := Lib.hid hkp
    have HX := Lib.hid hx1
    clear ht hon hkp hlr hD hlen hsp hxm hx1
    have HSK : Hid (∀ V, Onl g W V → ((fun V => V.cell? ⟨w.heap.size, 0, none⟩ = some (.slice (some ⟨g, o, none⟩) m c) ∧ V.cell? ⟨w.heap.size + 1, 0, none⟩ = some (.int .i64 (m : Int)) ∧ V.cell? ⟨w.heap.size + 1, 1, none⟩ = some (.slice (some ⟨g2, 0, none⟩) (R2 * m) (R2 * m))) V)) := Lib.hid fun V hV => by
      have e1 := (((HON.out.trans hV).block w.heap.size (by omega) (by omega)).trans HL5.out)
      have e2 := (((HON.out.trans hV).block (w.heap.size + 1) (by omega) (by omega)).trans HT5.out)
      exact ⟨(rg_cell e1), (rg_cell e2), (rg_cell e2)⟩
    have CR := Lib.hid (fun W' => mrow_any g2 R2 m x hxR hR2 hR2b W')
    have CJ : Hid (∀ V, Below W.heap.size W V → Calls Tryd.prog 38 #[.slice (some ⟨g, o, none⟩) m c, .slice (some ⟨g2, rwO R2 m x, none⟩) m (R2 * m - x * m)] V fun e w' => e = .returned (.tuple #[]) ∧ Tb w' g R m (fun r z => (P r z ∨ (r = i ∧ ∃ y, y ∈ pre ∧ Q y z)) ∨ (r = i ∧ Q x z)) ∧ Sm g V w') := Lib.hid fun V hV =>
      mjoin_any (HT.out.next hV) (((H2.out.below HB5.out (by omega)).onl HON.out hne2.symm).next hV) hne2 hi hxR (by omega) HOO.out (fun h => rwO_eq hxR h) c _
    unfold rwV at CR
    clear HKW HS2
    gi_wp2_with fail
    refine wpIn_region_I (S := fun V => V.cell? ⟨w.heap.size, 0, none⟩ = some (.slice (some ⟨g, o, none⟩) m c) ∧ V.cell? ⟨w.heap.size + 1, 0, none⟩ = some (.int .i64 (m : Int)) ∧ V.cell? ⟨w.heap.size + 1, 1, none⟩ = some (.slice (some ⟨g2, 0, none⟩) (R2 * m) (R2 * m))) (by kernel_rfl) (HSK.out _ (Onl.of_below (drew_below W) (Nat.le_refl _))) (fun hHeld => ?_)
    refine wpAnyI_take (i := 0) (oi := _) (v := ?_) (by kernel_rfl) rfl (by kernel_rfl) (by kernel_rfl) (by kernel_rfl) (fun _ _ _ h => h) (Or.inl ⟨by rfl, ?_⟩) (fun _ => rfl) (by assumption) ?_
    rotate_left
    · (intro w hSw; obtain ⟨q0, q1, q2⟩ := hSw; go_simp; try with_reducible rfl)
    try simp only [nrm]
    refine wpAnyI_take (i := 1) (oi := _) (v := ?_) (by kernel_rfl) rfl (by kernel_rfl) (by kernel_rfl) (by kernel_rfl) (fun _ _ _ h => h) (Or.inl ⟨by rfl, ?_⟩) (fun _ => rfl) (by assumption) ?_
    rotate_left
    · (intro w hSw; obtain ⟨q0, q1, q2⟩ := hSw; go_simp; try with_reducible rfl)
    try simp only [nrm]
    refine wpAnyI_take (i := 2) (oi := _) (v := ?_) (by kernel_rfl) rfl (by kernel_rfl) (by kernel_rfl) (by kernel_rfl) (fun _ _ _ h => h) (Or.inl ⟨by rfl, ?_⟩) (fun _ => rfl) (by assumption) ?_
    rotate_left
    · (intro w hSw; obtain ⟨q0, q1, q2⟩ := hSw; go_simp; try with_reducible rfl)
    try simp only [nrm]
    refine wpAnyI_ready (rs := [3]) (by kernel_rfl) (by simp) ?_
    refine AllReadyI.cons (o := _) rfl (fun K hK => ?_) AllReadyI.nil
    go_simp
    refine ⟨trivial, (CallsIn.inRound l' (callsIn_wide.2 (CR.out _))).mono ?_⟩
    rintro e w8 ⟨rfl, hw8⟩
    have HV8 : Hid (Below W.heap.size W w8) := Lib.hid (by rw [hw8]; exact (drew_below W).alloc (Nat.le_refl _) _)
    clear hw8
    refine hK.out _ _ (HSK.out _ (Onl.of_below HV8.out (Nat.le_refl _))) (fun hHeld => ?_)
    clear hK K
    try simp only [nrm]
    refine wpAnyI_ready (rs := [4]) (by kernel_rfl) (by simp) ?_
    refine AllReadyI.cons (o := _) rfl (fun K hK => ?_) AllReadyI.nil
    go_simp
    refine ⟨trivial, (CallsIn.inRound l' (callsIn_wide.2 (CJ.out _ HV8.out))).mono ?_⟩
    rintro e w9 ⟨rfl, ht9, hs9⟩
    have HO9 := Lib.hid ((Onl.of_below HV8.out (Nat.le_refl _)).trans hs9.onl)
    have HT9 := Lib.hid ht9
    clear ht9 hs9
    refine hK.out _ _ (HSK.out _ HO9.out) (fun hHeld => ?_)
    clear hK K
    try simp only [nrm]
    refine wpAnyI_done (by kernel_rfl) ?_ _
    clear hHeld HSK CR CJ
    gi_wp2_with fail
    have hz := HON.out.size
    have ht := HT9.out.congr (Q := fun r z => P r z ∨ (r = i ∧ ∃ y, y ∈ pre ++ [x] ∧ Q y z)) (fun r z _ _ => by
      constructor
      · rintro ((h | ⟨h, y, h1, h2⟩) | ⟨h, h1⟩)
        · exact .inl h
        · exact .inr ⟨h, y, by simp [h1], h2⟩
        · exact .inr ⟨h, x, by simp, h1⟩
      · rintro (h | ⟨h, y, h1, h2⟩)
        · exact .inl (.inl h)
        · rcases List.mem_append.1 h1 with h1 | h1
          · exact .inl (.inr ⟨h, y, h1, h2⟩)
          · rw [List.mem_singleton] at h1
            exact .inr ⟨h, h1 ▸ h2⟩)
    exact ⟨onl_two HO9.out (by omega) (by omega) (by have := (Array.getElem?_eq_some_iff.1 HL0.out).1; omega), HKOF.out _ _ ht (fun r z hr => ⟨fun h => h.resolve_right (fun h => hr h.1), .inl⟩) (HON.out.trans HO9.out), ht, HON.out.trans HO9.out⟩
  case done =>
    rintro D xs W hS ⟨ht, hon⟩ hkp rfl hD
    have HD := Lib.hid hD
    clear hD hkp
    gi_wp2_with fail
    have hz := hon.size
    refine ⟨by simp, .inl ⟨_, _, rfl, run_takeDeferred HD.out, ?_⟩⟩
    refine ⟨.tuple #[], ?_, rfl, ?_, onl_put (Onl.trans (Onl.of_below HB5.out (Nat.le_refl _)) hon) (by omega) _⟩
    · simp [results, Tryd.results41, go_sem]
    · refine (ht.kept (World.putObj_heap_other (by omega))).congr fun r x _ _ => ?_
      rw [hS]
      simp only [ups_mem]
      constructor
      · rintro (h | ⟨h, y, ⟨h1, h2⟩, h3⟩)
        · exact .inl h
        · exact .inr ⟨h, y, h1, h2, h3⟩
      · rintro (h | ⟨h, y, h1, h2, h3⟩)
        · exact .inl h
        · exact .inr ⟨h, y, ⟨h1, h2⟩, h3⟩
end Go.Proofs.YtjjejcgpeefclaaDoor

namespace Go.Proofs.YtjjejcgpeefclaaDoor
open Go.RowKit

/-- Of what lay in memory only blocks of the kind C have turned. -/
structure Chg (C : Nat → Prop) (w w' : World) : Prop where
  os : w'.os = w.os
  tape : w'.tape = w.tape
  output : w'.output = w.output
  size : w.heap.size ≤ w'.heap.size
  block : ∀ k, k < w.heap.size → ¬ C k → w'.heap[k]? = w.heap[k]?
section
variable {C : Nat → Prop} {u v w w' : World}
theorem Chg.refl (C : Nat → Prop) (w : World) : Chg C w w := ⟨rfl, rfl, rfl, Nat.le_refl _, fun _ _ _ => rfl⟩
theorem Chg.trans {C' : Nat → Prop} (h : Chg C u v) (k : Chg C' v w) (hC : ∀ j, j < u.heap.size → C' j → C j) : Chg C u w :=
  ⟨k.os.trans h.os, k.tape.trans h.tape, k.output.trans h.output, Nat.le_trans h.size k.size, fun i hi hn => (k.block i (Nat.lt_of_lt_of_le hi h.size) (fun hc => hn (hC i hi hc))).trans (h.block i hi hn)⟩
theorem Chg.then (h : Chg C u v) (k : Chg C v w) : Chg C u w := h.trans k fun _ _ h => h
theorem Chg.of_below {B : Nat} (h : Below B w w') (hB : w.heap.size ≤ B) : Chg C w w' := ⟨h.os, h.tape, h.output, h.size, fun k hk _ => h.block k (Nat.lt_of_lt_of_le hk hB)⟩
theorem Chg.of_onl {b : Nat} (h : Onl b w w') (hb : b < w.heap.size → C b) : Chg C w w' := ⟨h.os, h.tape, h.output, h.size, fun k hk hn => h.block k hk (fun e => hn (e ▸ hb (e ▸ hk)))⟩
theorem Chg.below {n : Nat} (h : Chg C w w') (hn : n ≤ w.heap.size) (hC : ∀ k, C k → n ≤ k) : Below n w w' := ⟨h.os, h.tape, h.output, h.size, fun k hk => h.block k (Nat.lt_of_lt_of_le hk hn) (fun hc => by have := hC k hc; omega)⟩
theorem Chg.mono {C' : Nat → Prop} (h : Chg C w w') (hC : ∀ k, k < w.heap.size → C k → C' k) : Chg C' w w' := ⟨h.os, h.tape, h.output, h.size, fun k hk hn => h.block k hk (fun hc => hn (hC k hk hc))⟩
theorem Chg.set (h : Chg C u w) {p : Addr} (hp : p.block < u.heap.size → C p.block) (v : Value) : Chg C u (w.setCell p v) :=
  ⟨h.os, h.tape, h.output, by rw [World.size_setCell]; exact h.size, fun k hk hn => (Below.heap_setCell w p v k (fun e => hn (e ▸ hp (e ▸ hk)))).trans (h.block k hk hn)⟩
theorem Chg.put {k : Nat} (h : Chg C u w) (hk : u.heap.size ≤ k) (o : Obj) : Chg C u (w.putObj k o) :=
  ⟨h.os, h.tape, h.output, by rw [World.putObj_size]; exact h.size, fun j hj hn => (World.putObj_heap_other (by omega)).trans (h.block j hj hn)⟩
theorem Tb.chg {g R m : Nat} {P : Nat → Nat → Prop} (h : Tb w g R m P) (hc : Chg C w w') (hg : ¬ C g) : Tb w' g R m P := h.kept (hc.block g h.lt hg)
end
/-- No panic. -/
def NoP (Q : Exit → Act → World → Prop) (e : Exit) (a : Act) (w : World) : Prop := (∀ c, e ≠ .panic c) ∧ Q e a w
/-- A piece, as a value: where it is met by nothing, its tables' blocks. -/
def pcV (m : Nat) (E : Nat → Bool) (gf gl : Nat) : Value := .agg #[.bool (E 0), .bool (E 1), .bool (E 2), .bool (E 3), .int .i64 (m : Int), .slice (some ⟨gf, 0, none⟩) (4 * m) (4 * m), .int .i64 (m : Int), .slice (some ⟨gl, 0, none⟩) (4 * m) (4 * m)]
/-- The program that is built, and its builder: L leaves in all, m words; which blocks. -/
structure Bd where
  b : Nat
  p : Nat
  t : Nat
  a : Nat
  h : Nat
  m : Nat
  L : Nat
def Bd.prog (d : Bd) : Array Value := #[.int .i64 (d.m : Int), .int .i64 (d.m : Int), .slice (some ⟨d.t, 0, none⟩) (256 * d.m) (256 * d.m), .int .i64 (d.m : Int), .slice (some ⟨d.a, 0, none⟩) (d.L * d.m) (d.L * d.m), .int .i64 (d.m : Int), .slice (some ⟨d.h, 0, none⟩) (d.L * d.m) (d.L * d.m),
  .bool false, .bool false, .bool false, .bool false, .int .i64 0, .slice none 0 0, .int .i64 0, .slice none 0 0]
/-- The builder as it stands: the next leaf, the leaves that take a byte, which may stand behind which. -/
structure Bl (w : World) (d : Bd) (n : Nat) (T B : Nat → Nat → Prop) : Prop where
  blk : w.heap[d.b]? = some (.cells #[.pointer (some ⟨d.p, 0, none⟩), .int .i64 (n : Int)] 86 (0, 0))
  prog : w.heap[d.p]? = some (.cells d.prog 88 (0, 0))
  tk : Tb w d.t 256 d.m T
  ah : Tb w d.a d.L d.m (fun r x => B x r)
  bh : Tb w d.h d.L d.m B
  dz : Dz w
structure Bd.ok (d : Bd) : Prop where
  bp : d.b ≠ d.p
  bt : d.b ≠ d.t
  ba : d.b ≠ d.a
  bh : d.b ≠ d.h
  pt : d.p ≠ d.t
  pa : d.p ≠ d.a
  ph : d.p ≠ d.h
  ta : d.t ≠ d.a
  th : d.t ≠ d.h
  ah : d.a ≠ d.h
  m : d.m ≤ 100
  L : d.L ≤ 64 * d.m
def Bd.own (d : Bd) (k : Nat) : Prop := k = d.b ∨ k = d.t ∨ k = d.a ∨ k = d.h
section
variable {w w' : World} {d : Bd} {n : Nat} {T B : Nat → Nat → Prop}
theorem Bl.kept (h : Bl w d n T B) (hk : ∀ k, k = d.b ∨ k = d.p ∨ k = d.t ∨ k = d.a ∨ k = d.h ∨ k = (0 : Nat) → k < w.heap.size → w'.heap[k]? = w.heap[k]?) : Bl w' d n T B :=
  ⟨(hk _ (.inl rfl) (Array.getElem?_eq_some_iff.1 h.blk).1).trans h.blk, (hk _ (.inr (.inl rfl)) (Array.getElem?_eq_some_iff.1 h.prog).1).trans h.prog, h.tk.kept (hk _ (.inr (.inr (.inl rfl))) h.tk.lt),
    h.ah.kept (hk _ (.inr (.inr (.inr (.inl rfl)))) h.ah.lt), h.bh.kept (hk _ (.inr (.inr (.inr (.inr (.inl rfl))))) h.bh.lt), h.dz.kept (hk _ (.inr (.inr (.inr (.inr (.inr rfl))))) h.dz.lt)⟩
theorem Bl.next (h : Bl w d n T B) (hb : Below w.heap.size w w') : Bl w' d n T B := h.kept fun k _ hl => hb.block k hl
theorem Bl.lt (h : Bl w d n T B) : d.b < w.heap.size ∧ d.p < w.heap.size ∧ d.t < w.heap.size ∧ d.a < w.heap.size ∧ d.h < w.heap.size := ⟨(Array.getElem?_eq_some_iff.1 h.blk).1, (Array.getElem?_eq_some_iff.1 h.prog).1, h.tk.lt, h.ah.lt, h.bh.lt⟩
theorem Bl.congr {T' B' : Nat → Nat → Prop} (h : Bl w d n T B) (hT : ∀ i x, i < 256 → x < 64 * d.m → (T i x ↔ T' i x)) (hB : ∀ i x, i < 64 * d.m → x < 64 * d.m → (B i x ↔ B' i x)) (hL : d.L ≤ 64 * d.m) : Bl w d n T' B' :=
  ⟨h.blk, h.prog, h.tk.congr hT, h.ah.congr (fun i x hi hx => hB x i hx (by omega)), h.bh.congr (fun i x hi hx => hB i x (by omega) hx), h.dz⟩
end
end Go.Proofs.YtjjejcgpeefclaaDoor
