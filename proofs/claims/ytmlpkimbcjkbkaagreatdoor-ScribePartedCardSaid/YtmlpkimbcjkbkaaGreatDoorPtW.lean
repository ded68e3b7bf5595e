/-
  THE WALK of ScribeParted: the matches of a pattern and what stands between them are the text, and each match is one by itself.
-/
import Derived.Test.YtmlpkimbcjkbkaaGreatDoorLive
import Derived.Test.YtmlpkimbcjkbkaaGreatDoorMtAl2
import Derived.Test.YtmlpkimbcjkbkaaGreatDoorPartedM
import Derived.Test.YtmlpkimbcjkbkaaGreatDoorMtA
import Derived.Test.YtmlpkimbcjkbkaaGreatDoorMtLk
import Derived.Deep.DeepCutAuto
import Derived.Deep.CutBlock
import Derived.Lib.SlicesS
namespace Go.Proofs.YtmlpkimbcjkbkaaGreatDoor
open Go.RowKit
attribute [local go_sem] Oper.semAt_some

/-- The first k bytes ask neither for the text's beginning nor for its end. -/
def NoV (s : ByteArray) (k : Nat) : Prop := ∀ j (h : j < s.size), j < k → s[j] ≠ 94 ∧ s[j] ≠ 36
theorem NoV.zero (s : ByteArray) : NoV s 0 := fun j _ h => by omega
theorem NoV.next {s : ByteArray} {k : Nat} (h : NoV s k) (hk : k < s.size) (h1 : s[k] ≠ 94) (h2 : s[k] ≠ 36) : NoV s (k + 1) := fun j hj hlt => by
  by_cases e : j = k
  · subst e; exact ⟨h1, h2⟩
  · exact h j hj (by omega)
theorem NoV.all {s : ByteArray} (h : NoV s s.size) : NoB s.data.toList := fun c hc => by
  obtain ⟨j, hj, rfl⟩ := List.getElem_of_mem hc
  have hj2 : j < s.size := by simpa using hj
  exact h j hj2 hj2
/-- A box of one cell. -/
def Bo (V : World) (b : Nat) (t : TypeId) (v : Value) : Prop := V.heap[b]? = some (.cells #[v] t (0, 0))
theorem Bo.lt {V : World} {b : Nat} {t : TypeId} {v : Value} (h : Bo V b t v) : b < V.heap.size := (Array.getElem?_eq_some_iff.1 h).1
theorem Bo.next {V V' : World} {b : Nat} {t : TypeId} {v : Value} (h : Bo V b t v) (hb : Below V.heap.size V V') : Bo V' b t v := (hb.block b h.lt).trans h
theorem Bo.new (V : World) (t : TypeId) (v : Value) : Bo (V.alloc (.cells #[v] t)) V.heap.size t v := mt_heap_new _ _
theorem Bo.set {V : World} {b : Nat} {t : TypeId} {v : Value} (h : Bo V b t v) (u : Value) : Bo (V.setCell ⟨b, 0, none⟩ u) b t u := rg_setCell h u
theorem Bo.setNe {V : World} {b k : Nat} {t : TypeId} {v : Value} (h : Bo V b t v) (hk : b ≠ k) (u : Value) : Bo (V.setCell ⟨k, 0, none⟩ u) b t v := (Below.heap_setCell V ⟨k, 0, none⟩ u b hk).trans h
theorem Bo.put {V : World} {b k : Nat} {t : TypeId} {v : Value} (h : Bo V b t v) (hk : b ≠ k) (x : Obj) : Bo (V.putObj k x) b t v := (World.putObj_heap_other hk).trans h
theorem Bo.neLoop {V : World} {b k : Nat} {t : TypeId} {v : Value} {r : Loop} (h : Bo V b t v) (hl : V.heap[k]? = some (.loop r)) : b ≠ k := fun e => by
  subst e; unfold Bo at h; rw [hl] at h; cases h
theorem below_puto {B : Nat} {a w : World} (h : Below B a w) {k : Nat} (hk : B ≤ k) (x : Obj) : Below B a (w.putObj k x) :=
  ⟨h.os, h.tape, h.output, by rw [World.putObj_size]; exact h.size, fun j hj => (World.putObj_heap_other (by omega)).trans (h.block j hj)⟩
theorem Pg.below {w w' : World} {d : Pd} {t : RT} (h : Pg w d t) (hb : Below w.heap.size w w') : Pg w' d t := h.kept fun k _ hl => hb.block k hl
/-- The text's box and the answer's. -/
def Pz (w V : World) (t : ByteArray) : Prop := Below w.heap.size w V ∧ Bo V w.heap.size 9 (.string t) ∧ Bo V (w.heap.size + 1) 4 (.bool false)
theorem Pz.next {w V V' : World} {t : ByteArray} (h : Pz w V t) (hb : Below V.heap.size V V') : Pz w V' t := ⟨h.1.trans (hb.mono h.1.size), h.2.1.next hb, h.2.2.next hb⟩
theorem pz_fin {w V : World} {t0 t : ByteArray} (h : Pz w V t0) : Pz w (V.setCell ⟨w.heap.size, 0, none⟩ (.string t)) t := ⟨h.1.setCell (Nat.le_refl _) _, h.2.1.set _, h.2.2.setNe (by omega) _⟩
/-- Behind some rounds: what was put together, where the last match ended. -/
def PzI (w : World) (B : Nat) (d : Pd) (t : RT) (s : ByteArray) (pre : List (Nat × Nat)) (W : World) : Prop :=
  Pz w W s ∧ Bo W B 24 (.pointer (some ⟨d.p, 0, none⟩)) ∧ Bo W (B + 1) 9 (.string (s.extract 0 (lastOf pre))) ∧ Bo W (B + 2) 3 (.int .i64 (lastOf pre : Int)) ∧ Pg W d t
theorem PzI.next {w W W' : World} {B : Nat} {d : Pd} {t : RT} {s : ByteArray} {pre : List (Nat × Nat)} (h : PzI w B d t s pre W) (hb : Below W.heap.size W W') : PzI w B d t s pre W' := ⟨h.1.next hb, h.2.1.next hb, h.2.2.1.next hb, h.2.2.2.1.next hb, h.2.2.2.2.below hb⟩
theorem PzI.put {w W : World} {B k : Nat} {d : Pd} {t : RT} {s : ByteArray} {pre : List (Nat × Nat)} {r : Loop} (h : PzI w B d t s pre W) (hk : w.heap.size ≤ k) (hl : W.heap[k]? = some (.loop r)) (x : Obj) : PzI w B d t s pre (W.putObj k x) := by
  obtain ⟨n1, n2, n3, n4, n5, n6, n7⟩ := pg_loop h.2.2.2.2 hl
  refine ⟨⟨below_puto h.1.1 hk x, h.1.2.1.put (h.1.2.1.neLoop hl) x, h.1.2.2.put (h.1.2.2.neLoop hl) x⟩, h.2.1.put (h.2.1.neLoop hl) x, h.2.2.1.put (h.2.2.1.neLoop hl) x, h.2.2.2.1.put (h.2.2.2.1.neLoop hl) x, h.2.2.2.2.kept fun j hj _ => World.putObj_heap_other fun e => ?_⟩
  subst e
  rcases hj with h | h | h | h | h | h | h
  · exact n1 h
  · exact n2 h
  · exact n3 h
  · exact n4 h
  · exact n5 h
  · exact n6 h
  · exact n7 h
theorem kpt_set {bs : Nat} {d : Pd} {t : RT} {s : ByteArray} {g b : Nat} {W : World} (h : KpS bs d t s g W) (hne : ∀ k, k = bs ∨ k = d.p ∨ k = d.t ∨ k = d.a ∨ k = d.h ∨ k = d.f ∨ k = d.l ∨ k = g ∨ k = (0 : Nat) → k ≠ b) (u : Value) : KpS bs d t s g (W.setCell ⟨b, 0, none⟩ u) :=
  h.kept fun k hk _ => Below.heap_setCell W ⟨b, 0, none⟩ u k (hne k hk)
theorem pgt_set {d : Pd} {t : RT} {b : Nat} {W : World} (h : Pg W d t) (hne : ∀ k, k = d.p ∨ k = d.t ∨ k = d.a ∨ k = d.h ∨ k = d.f ∨ k = d.l ∨ k = (0 : Nat) → k ≠ b) (u : Value) : Pg (W.setCell ⟨b, 0, none⟩ u) d t :=
  h.kept fun k hk _ => Below.heap_setCell W ⟨b, 0, none⟩ u k (hne k hk)
/-- One round: the text up to the match's end, and where it ended. -/
theorem PzI.step {w W : World} {B : Nat} {d : Pd} {t : RT} {s : ByteArray} {pre : List (Nat × Nat)} (h : PzI w B d t s pre W) (hb : w.heap.size + 2 ≤ B) (hne : ∀ k, k = d.p ∨ k = d.t ∨ k = d.a ∨ k = d.h ∨ k = d.f ∨ k = d.l ∨ k = (0 : Nat) → k ≠ B + 1 ∧ k ≠ B + 2) (x : Nat × Nat) :
    PzI w B d t s (pre ++ [x]) ((W.setCell ⟨B + 1, 0, none⟩ (.string (s.extract 0 x.2))).setCell ⟨B + 2, 0, none⟩ (.int .i64 (x.2 : Int))) := by
  refine ⟨⟨(h.1.1.setCell (by show w.heap.size ≤ B + 1; omega) _).setCell (by show w.heap.size ≤ B + 2; omega) _, (h.1.2.1.setNe (by omega) _).setNe (by omega) _, (h.1.2.2.setNe (by omega) _).setNe (by omega) _⟩, (h.2.1.setNe (by omega) _).setNe (by omega) _, ?_, ?_, pgt_set (pgt_set h.2.2.2.2 (fun k hk => (hne k hk).1) _) (fun k hk => (hne k hk).2) _⟩
  · rw [lastOf_snoc]
    exact (h.2.2.1.set _).setNe (by omega) _
  · rw [lastOf_snoc]
    exact (h.2.2.2.1.setNe (by omega) _).set _
set_option maxHeartbeats 8000000 in
set_option maxRecDepth 100000 in
theorem parted_walk (p0 s0 : ByteArray) (hp0 : p0.size ≤ maxLen) (hs0 : s0.size ≤ maxLen) (w : World) (hG : Gl w ∧ Dz w) :
    Calls Tryz.prog 3 #[.string p0, .string s0] w fun e w' => e = .returned (.bool true) ∧ Below w.heap.size w w' := by
  have CS := Lib.hid fun Z => cut_any p0 30 Z hp0 (by omega)
  have CT := Lib.hid fun Z => cut_any s0 60 Z hs0 (by omega)
  have hps := cutB_size p0 30
  have hss := cutB_size s0 60
  generalize cutB p0 30 = p at *
  generalize cutB s0 60 = s at *
  obtain ⟨W1, hW1⟩ : ∃ W1, ((w.alloc (.cells #[.string s0] 9)).alloc (.cells #[.bool false] 4)) = W1 := ⟨_, rfl⟩
  have hbA : Below w.heap.size w W1 := by rw [← hW1]; exact ((Below.refl _ _).alloc (Nat.le_refl _) _).alloc (by simp) _
  have hx0 : Bo W1 w.heap.size 9 (.string s0) := by rw [← hW1]; exact (Bo.new w _ _).next ((Below.refl _ _).alloc (Nat.le_refl _) _)
  have hx1 : Bo W1 (w.heap.size + 1) 4 (.bool false) := by
    rw [← hW1]
    have := Bo.new (w.alloc (.cells #[.string s0] 9)) 4 (.bool false)
    rwa [World.size_alloc] at this
  have HA1 : Hid (Pz w W1 s0) := Lib.hid ⟨hbA, hx0, hx1⟩
  have HDZ := Lib.hid hG.2
  have CL := Lib.hid (live_any W1 (hG.1.next hbA))
  have HW1 := Lib.hid hW1
  clear hp0 hs0 hG hbA hx0 hx1 hW1
  refine (callsIn_wide (n := 6)).1 ?_
  refine callsIn_of_wp_marks Tryz.func3 rfl trivial ?_ rfl
  simp only [Tryz.ntmps3, List.size_toArray, List.length_cons, List.length_nil, Nat.reduceAdd, Nat.reduceSub, Array.replicate_succ, Array.replicate_zero, List.push_toArray, List.append_toArray, List.nil_append, List.cons_append]
  refine wpIn_wide.2 ?_
  go_upto_region 1 with fail
  rw [HW1.out]
  clear HW1
  go_wp2_with fail
  refine CL.out.mono ?_
  rintro e wl ⟨rfl, hbl⟩
  have HA0 : Hid (Pz w wl.drew s0) := Lib.hid ((HA1.out.next hbl).next (drew_below wl))
  clear hbl CL HA1
  go_upto_region 3 with fail
  go_cut [0] from 18 to 21 (fun v0 wx => v0 = .string p ∧ Hid (Pz w wx s))
  case first =>
    refine wp_mono (Q := NoP _) ?_ (fun e a w h => h.2)
    refine wp_region_L (st := [5]) (S := fun Z => Z.cell? ⟨w.heap.size, 0, none⟩ = some (.string s0)) (by kernel_rfl) (rg_cell HA0.out.2.1) (fun hHeld => ?_)
    generalize wl.drew = w8 at *
    refine wpAnyL_take (i := 0) (oi := _) (v := ?_) rfl (by kernel_rfl) (by kernel_rfl) (by kernel_rfl) (by decide) (by kernel_rfl) (by kernel_rfl) (by kernel_rfl) (fun c _ _ h => absurd rfl (h.1 c)) (Or.inl ⟨by rfl, ?_⟩) (by assumption) ?_
    rotate_left
    · (intro w hSw; have q0 := hSw; go_simp; try with_reducible rfl)
    try simp only [nrm]
    refine wpAnyL_take (i := 2) (oi := _) (v := ?_) rfl (by kernel_rfl) (by kernel_rfl) (by kernel_rfl) (by decide) (by kernel_rfl) (by kernel_rfl) (by kernel_rfl) (fun c _ _ h => absurd rfl (h.1 c)) (Or.inl ⟨by rfl, ?_⟩) (by assumption) ?_
    rotate_left
    · (intro w hSw; have q0 := hSw; go_simp; try with_reducible rfl)
    try simp only [nrm]
    refine rdL 1 rfl (fun K hK => ?_)
    go_simp
    refine (CS.out _).mono ?_
    rintro e w9 ⟨rfl, rfl⟩
    refine hK.out _ _ (hHeld) (fun hHeld => ?_)
    clear hK K
    try simp only [nrm]
    refine rdL 3 rfl (fun K hK => ?_)
    go_simp
    refine (CT.out _).mono ?_
    rintro e w9 ⟨rfl, rfl⟩
    refine hK.out _ _ (hHeld) (fun hHeld => ?_)
    clear hK K
    try simp only [nrm]
    refine wpAnyL_take (i := 4) (oi := _) (v := ?_) rfl (by kernel_rfl) (by kernel_rfl) (by kernel_rfl) (by decide) (by kernel_rfl) (by kernel_rfl) (by kernel_rfl) (fun c _ _ h => absurd rfl (h.1 c)) (Or.inl ⟨by rfl, ?_⟩) (by assumption) ?_
    rotate_left
    · (intro w hSw; have q0 := hSw; go_simp; try with_reducible rfl)
    try simp only [nrm]
    have z0 : w8.cell? ⟨w.heap.size, 0, none⟩ = some (.string s0) := rg_cell HA0.out.2.1
    have f0 : w8.frozen? ⟨w.heap.size, 0, none⟩ = false := rg_frozen HA0.out.2.1
    refine wpAnyL_ready (rs := [5]) (by kernel_rfl) (by simp) ?_
    refine AllReadyL.store (o := _) rfl (by decide) (by decide) (fun K hK => ?_) AllReadyL.nil
    go_simp
    refine hK.out _ _ ?_
    clear hK K
    try simp only [nrm]
    refine wpAnyL_done (by kernel_rfl) ?_ _
    refine ⟨fun c h => (by cases h), ?_⟩
    go_wp2_with fail
    go_meet
    exact ⟨rfl, Lib.hid (pz_fin HA0.out)⟩
  case rest =>
    obtain ⟨rfl, HA⟩ := hcut
    clear HA0
    have HZ := Lib.hid (HDZ.out.next HA.out.1)
    clear HDZ CS CT
    go_wp2_with fail
    go_loopw [5] (fun iv wr => ∃ k : Nat, k ≤ p.size ∧ iv = .int .i64 (k : Int) ∧ Hid (NoV p k) ∧ wc = wr) (fun iv _ => p.size - (intOf iv).toNat)
    case atStart => exact ⟨0, Nat.zero_le _, rfl, Lib.hid (NoV.zero p), rfl⟩
    case round =>
      obtain ⟨k, hk, rfl, HN, rfl⟩ := hrel
      have z4 : wc.cell? ⟨w.heap.size + 1, 0, none⟩ = some (.bool false) := rg_cell HA.out.2.2
      have f4 : wc.frozen? ⟨w.heap.size + 1, 0, none⟩ = false := rg_frozen HA.out.2.2
      have HFIN : Hid (Below w.heap.size w (wc.setCell ⟨w.heap.size + 1, 0, none⟩ (.bool true))) := Lib.hid (HA.out.1.setCell (by show w.heap.size ≤ w.heap.size + 1; omega) _)
      have HRES : Hid ((wc.setCell ⟨w.heap.size + 1, 0, none⟩ (.bool true)).cell? ⟨w.heap.size + 1, 0, none⟩ = some (.bool true)) := Lib.hid (rg_cell (HA.out.2.2.set _))
      by_cases hlt : k < p.size
      · obtain ⟨c, hc⟩ : ∃ c, p[k] = c := ⟨_, rfl⟩
        have hcb := c.toNat_lt
        by_cases h94 : c = 94
        · have e94 : ((c.toNat : Int) == 94) = true := by subst h94; rfl
          go_wp2_with fail
          refine ⟨.bool true, ?_, rfl, HFIN.out⟩
          simp [results, Tryz.results3, go_sem, HRES.out]
        · have e94 : ((c.toNat : Int) == 94) = false := by
            rw [Bool.eq_false_iff]; intro h
            have := eq_of_beq h
            exact h94 (UInt8.toNat_inj.1 (by show c.toNat = 94; omega))
          by_cases h36 : c = 36
          · have e36 : ((c.toNat : Int) == 36) = true := by subst h36; rfl
            go_wp2_with fail
            refine ⟨.bool true, ?_, rfl, HFIN.out⟩
            simp [results, Tryz.results3, go_sem, HRES.out]
          · have e36 : ((c.toNat : Int) == 36) = false := by
              rw [Bool.eq_false_iff]; intro h
              have := eq_of_beq h
              exact h36 (UInt8.toNat_inj.1 (by show c.toNat = 36; omega))
            have HN2 := Lib.hid (HN.out.next hlt (by rw [hc]; exact h94) (by rw [hc]; exact h36))
            clear HN z4 f4 HFIN HRES
            go_wp2_with fail
            go_roundw
            case rel => exact ⟨k + 1, by omega, by go_num, HN2, trivial⟩
            case measure => simp [intOf]; omega
      · have hki : ¬ (k : Int) < (p.size : Int) := by omega
        obtain rfl : k = p.size := by omega
        have HNB := Lib.hid HN.out.all
        have CO1 := Lib.hid (mof_any p (by omega) wc HZ.out)
        have hcat : ((⟨#[94, 40]⟩ : ByteArray) ++ p ++ (⟨#[41, 36]⟩ : ByteArray)).data.toList = 94 :: 40 :: (p.data.toList ++ [41, 36]) := by simp
        have hsz : ((⟨#[94, 40]⟩ : ByteArray) ++ p ++ (⟨#[41, 36]⟩ : ByteArray)).size ≤ 300 := by
          have e1 : ByteArray.size ⟨#[94, 40]⟩ = 2 := rfl
          have e2 : ByteArray.size ⟨#[41, 36]⟩ = 2 := rfl
          rw [ByteArray.size_append, ByteArray.size_append]; omega
        have CO2 := Lib.hid fun Z (hz : Dz Z) => mof_any _ hsz Z hz
        have HC := Lib.hid hcat
        clear HN hk hlt z4 f4 HFIN HRES hcat hsz
        go_wp2_with fail
        refine CO1.out.mono ?_
        rintro e w2 ⟨hb2, h2⟩
        have HA2 := Lib.hid (HA.out.next hb2)
        have HZ2 := Lib.hid (HZ.out.next hb2)
        clear CO1
        rcases h2 with ⟨t1, r1, d1, ht1, rfl, hpg1⟩ | ⟨n1, k1, ht1, hk1, hn1, rfl⟩
        · have HPG1 := Lib.hid hpg1
          have HNE := Lib.hid (top_no HNB.out ht1)
          have HTW := Lib.hid (top_whole ht1)
          have CO2' := Lib.hid (CO2.out w2 HZ2.out)
          clear hb2 hpg1 ht1 HNB CO2
          go_wp2_with fail
          refine CO2'.out.mono ?_
          rintro e w3 ⟨hb3, h3⟩
          have HA3 := Lib.hid (HA2.out.next hb3)
          have HPG13 := Lib.hid (HPG1.out.below hb3)
          clear CO2' HA2 HZ2 HPG1
          rcases h3 with ⟨t2, r2, d2, ht2, rfl, hpg2⟩ | ⟨n2, k2, ht2, hk2, hn2, rfl⟩
          · have he2 : t2 = wholeT t1 := by
              rw [HC.out] at ht2
              rcases HTW.out with h | ⟨q, h⟩
              · rw [h] at ht2; injection ht2 with h; exact (Prod.mk.inj h).1.symm
              · rw [h] at ht2; cases ht2
            subst he2
            have HPG2 := Lib.hid hpg2
            clear hb3 hpg2 ht2 HC HTW
            obtain ⟨B, hB⟩ : ∃ B, w3.heap.size = B := ⟨_, rfl⟩
            obtain ⟨W4, hW4⟩ : ∃ W4, w3.alloc (.cells #[.pointer (some ⟨d2.p, 0, none⟩)] 24) = W4 := ⟨_, rfl⟩
            have hb4 : Below w3.heap.size w3 W4 := by rw [← hW4]; exact (Below.refl _ _).alloc (Nat.le_refl _) _
            have hz4 : W4.heap.size = B + 1 := by rw [← hW4, ← hB]; simp
            have hx9 : Bo W4 B 24 (.pointer (some ⟨d2.p, 0, none⟩)) := by rw [← hW4, ← hB]; exact Bo.new w3 _ _
            have q9 : W4.cell? ⟨B, 0, none⟩ = some (.pointer (some ⟨d2.p, 0, none⟩)) := rg_cell hx9
            have HX9 := Lib.hid hx9
            have HA4 := Lib.hid (HA3.out.next hb4)
            have HPG4 := Lib.hid (HPG13.out.below hb4)
            have HPH4 := Lib.hid (HPG2.out.below hb4)
            have hl1 := HPG13.out.lt
            have hl2 := HPG2.out.lt
            have hl3 := HPG2.out.dz.lt
            rw [hB] at hl1 hl2 hl3
            have hwB : w.heap.size + 2 ≤ B := by rw [← hB]; have := HA3.out.2.2.lt; omega
            have HW4 := Lib.hid hW4
            have HL := Lib.hid (And.intro hl1 (And.intro hl2 hl3))
            have HZ4 := Lib.hid hz4
            clear hb4 hW4 hx9 HA3 HPG13 HPG2 hl1 hl2 hl3 hz4
            go_upto_region 11 with fail
            rw [HW4.out]
            try rw [hB]
            clear HW4 hB
            obtain ⟨W5, hW5⟩ : ∃ W5, ((W4.alloc (.cells #[.string ⟨#[]⟩] 9)).alloc (.cells #[.int .i64 0] 3)) = W5 := ⟨_, rfl⟩
            have hb5 : Below W4.heap.size W4 W5 := by rw [← hW5]; exact ((Below.refl _ _).alloc (Nat.le_refl _) _).alloc (by simp) _
            have hx12 : Bo W5 (B + 1) 9 (.string ⟨#[]⟩) := by rw [← hW5, ← HZ4.out]; exact (Bo.new W4 _ _).next ((Below.refl _ _).alloc (Nat.le_refl _) _)
            have hx13 : Bo W5 (B + 2) 3 (.int .i64 0) := by
              rw [← hW5]
              have := Bo.new (W4.alloc (.cells #[.string ⟨#[]⟩] 9)) 3 (.int .i64 0)
              rw [World.size_alloc, HZ4.out] at this
              exact this
            have he0 : s.extract 0 0 = ⟨#[]⟩ := by apply ByteArray.ext; simp
            have hz5 : W5.heap.size = B + 3 := by rw [← hW5]; simp [HZ4.out]
            have HI5 : Hid (PzI w B d2 (wholeT t1) s [] W5) := Lib.hid ⟨HA4.out.next hb5, HX9.out.next hb5, by rw [show lastOf [] = 0 from rfl, he0]; exact hx12, hx13, HPH4.out.below hb5⟩
            have CALL := Lib.hid (mAll_call s (by omega) (HPG4.out.below hb5))
            have q0 : W5.cell? ⟨w.heap.size, 0, none⟩ = some (.string s) := rg_cell HI5.out.1.2.1
            have HW5 := Lib.hid hW5
            clear hb5 hx12 hx13 he0 hW5 HA4 HX9 HPG4 HPH4
            go_upto_region 15 with fail
            try rw [HZ4.out]
            rw [HW5.out]
            clear HW5
            go_wp2_with fail
            clear q0
            refine CALL.out.mono ?_
            rintro e w6 ⟨bs, g, rfl, hbs, hgs, hkp, hb6⟩
            have HKP := Lib.hid hkp
            have HI6 := Lib.hid (HI5.out.next hb6)
            have hz6 := hb6.size
            clear hkp hb6 CALL HI5
            dsimp only
            go_wp2_with fail
            refine (wpIn_wide (n := 6)).1 ?_
            gi_wp2_with fail
            have hb7 : ∀ r, Below w6.heap.size w6 ((w6.alloc (.deferred (some []))).alloc (.loop r)) := fun r => ((Below.refl _ _).alloc (Nat.le_refl _) _).alloc (by simp) _
            have HNK : Hid (∀ k, k = bs ∨ k = d1.p ∨ k = d1.t ∨ k = d1.a ∨ k = d1.h ∨ k = d1.f ∨ k = d1.l ∨ k = g ∨ k = (0 : Nat) → k ≠ B + 1 ∧ k ≠ B + 2) := Lib.hid fun k hk => by
              obtain ⟨⟨l1, l2, l3, l4, l5, l6⟩, -, l7⟩ := HL.out
              rcases hk with rfl | rfl | rfl | rfl | rfl | rfl | rfl | rfl | rfl <;> exact ⟨by omega, by omega⟩
            have HN2 : Hid (∀ k, k = d2.p ∨ k = d2.t ∨ k = d2.a ∨ k = d2.h ∨ k = d2.f ∨ k = d2.l ∨ k = (0 : Nat) → k ≠ B + 1 ∧ k ≠ B + 2) := Lib.hid fun k hk => by
              obtain ⟨-, ⟨l1, l2, l3, l4, l5, l6⟩, l7⟩ := HL.out
              rcases hk with rfl | rfl | rfl | rfl | rfl | rfl | rfl <;> exact ⟨by omega, by omega⟩
            refine wpIn_rangeR (F := Fence.wide) rfl (by omega) (gf := 16) (lb := #[.pointer (some ⟨bs, 0, none⟩)]) rfl trivial (enters_of Tryz.func16 (by kernel_rfl) rfl)
              (mAll_seq (s := s) (t := t1) (d := d1) (g := g) (by omega) bs _ (by omega)) (fun _ => rfl) (fun W r o h hl => KpS.put h hl o)
              (fun pre W => PzI w B d2 (wholeT t1) s pre W) (fun _ _ _ => False) (fun pre W W' h hb => h.next hb) ?hI (fun _ _ _ _ _ h _ => h) ?hK0 ?h0 ?a1 ?assign ?body ?done ?stop
            case hI =>
              rintro pre W r o h hlr
              exact h.put (by omega) hlr o
            case hK0 =>
              intro r
              exact HKP.out.next (hb7 r)
            case h0 =>
              intro r
              exact HI6.out.next (hb7 r)
            case assign =>
              intro l' x W K hK
              simp only [encP]
              gi_wp2
              exact hK
            case stop => rintro D c pre W _ h; exact h.elim
            case body =>
              rintro l' pre ⟨i, j⟩ W hi hkp ⟨r, hlr⟩ hD hlen hsp
              obtain ⟨g1, g2, g3, g4⟩ := hsp.good
              have g1 : lastOf pre ≤ i := g1
              have g2 : i ≤ j := g2
              have g3 : j ≤ s.size := g3
              have hpart := Lib.hid (hsp.part HNE.out)
              have hDl : w6.heap.size + 1 < W.heap.size := (Array.getElem?_eq_some_iff.1 hlr).1
              have HI0 := Lib.hid hi
              have HKW := Lib.hid hkp
              have hsl : (s.extract i j).size ≤ 1000000 := by rw [ByteArray.size_extract]; omega
              have CI := Lib.hid fun Z (hz : Below W.heap.size W Z) => mIn_any (s.extract i j) hsl (hi.2.2.2.2.below hz)
              have HSK : Hid (∀ Z, Below W.heap.size W Z → Z.cell? ⟨B, 0, none⟩ = some (.pointer (some ⟨d2.p, 0, none⟩)) ∧ Z.cell? ⟨w.heap.size, 0, none⟩ = some (.string s) ∧ Below W.heap.size W Z) := Lib.hid fun Z hz => ⟨rg_cell (hi.2.1.next hz), rg_cell (hi.1.2.1.next hz), hz⟩
              have n1 : ¬ (i : Int) < (lastOf pre : Int) := by omega
              have n2 : ¬ (j : Int) < (i : Int) := by omega
              have n3 : ¬ (s.size : Int) < (j : Int) := by omega
              have n4 : ¬ (s.size : Int) < (i : Int) := by omega
              have m1 : (i : Int) ≤ (j : Int) := by omega
              have m2 : (j : Int) ≤ (s.size : Int) := by omega
              have m3 : (lastOf pre : Int) ≤ (i : Int) := by omega
              have m4 : (i : Int) ≤ (s.size : Int) := by omega
              clear hi hkp hlr hD hlen hsp g4
              gi_wp2_with fail
              refine wpIn_region_I (S := fun Z => Z.cell? ⟨B, 0, none⟩ = some (.pointer (some ⟨d2.p, 0, none⟩)) ∧ Z.cell? ⟨w.heap.size, 0, none⟩ = some (.string s) ∧ Below W.heap.size W Z) (by kernel_rfl) (HSK.out _ (drew_below W)) (fun hHeld => ?_)
              refine wpAnyI_take (i := 0) (oi := _) (v := ?_) (by kernel_rfl) rfl (by kernel_rfl) (by kernel_rfl) (by kernel_rfl) (fun _ _ _ h => h) (Or.inl ⟨by rfl, ?_⟩) (fun _ => rfl) (by assumption) ?_
              rotate_left
              · (intro w hSw; obtain ⟨q0, q1, _⟩ := hSw; go_simp; try with_reducible rfl)
              try simp only [nrm]
              refine wpAnyI_take (i := 1) (oi := _) (v := ?_) (by kernel_rfl) rfl (by kernel_rfl) (by kernel_rfl) (by kernel_rfl) (fun _ _ _ h => h) (Or.inl ⟨by rfl, ?_⟩) (fun _ => rfl) (by assumption) ?_
              rotate_left
              · (intro w hSw; obtain ⟨q0, q1, _⟩ := hSw; go_simp; try with_reducible rfl)
              try simp only [nrm]
              refine wpAnyI_take (i := 2) (oi := _) (v := ?_) (by kernel_rfl) rfl (by kernel_rfl) (by kernel_rfl) (by kernel_rfl) (fun _ _ _ h => h) (Or.inl ⟨by rfl, ?_⟩) (fun _ => rfl) (by assumption) ?_
              rotate_left
              · (intro w hSw; obtain ⟨q0, q1, _⟩ := hSw; go_simp; try with_reducible rfl)
              try simp only [nrm]
              refine wpAnyI_take (i := 3) (oi := _) (v := ?_) (by kernel_rfl) rfl (by kernel_rfl) (by kernel_rfl) (by kernel_rfl) (fun _ _ _ h => h) (Or.inl ⟨by rfl, ?_⟩) (fun _ => rfl) (by assumption) ?_
              rotate_left
              · (intro w hSw; obtain ⟨q0, q1, _⟩ := hSw; go_simp; try with_reducible rfl)
              try simp only [nrm]
              refine wpAnyI_take (i := 4) (oi := _) (v := ?_) (by kernel_rfl) rfl (by kernel_rfl) (by kernel_rfl) (by kernel_rfl) (fun _ _ _ h => h) (Or.inl ⟨by rfl, ?_⟩) (fun _ => rfl) (by assumption) ?_
              rotate_left
              · (intro w hSw; obtain ⟨q0, q1, _⟩ := hSw; go_simp; try with_reducible rfl)
              try simp only [nrm]
              refine wpAnyI_ready (rs := [5]) (by kernel_rfl) (by simp) ?_
              refine AllReadyI.cons (o := _) rfl (fun K hK => ?_) AllReadyI.nil
              go_simp
              refine ⟨trivial, (CallsIn.inRound l' (callsIn_wide.2 (CI.out _ hHeld.2.2))).mono ?_⟩
              rintro e w9 ⟨bb, rfl, hbb, hb9⟩
              obtain rfl : bb = true := hbb.2 hpart.out
              have HB9 : Hid (Below W.heap.size W w9) := Lib.hid (hHeld.2.2.trans (hb9.mono hHeld.2.2.size))
              clear hbb hb9
              refine hK.out _ _ (HSK.out _ HB9.out) (fun hHeld => ?_)
              clear hK K
              try simp only [nrm]
              refine wpAnyI_take (i := 6) (oi := _) (v := ?_) (by kernel_rfl) rfl (by kernel_rfl) (by kernel_rfl) (by kernel_rfl) (fun _ _ _ h => h) (Or.inl ⟨by rfl, ?_⟩) (fun _ => rfl) (by assumption) ?_
              rotate_left
              · (intro w hSw; obtain ⟨q0, q1, _⟩ := hSw; go_simp; try with_reducible rfl)
              try simp only [nrm]
              refine wpAnyI_done (by kernel_rfl) ?_ _
              clear hHeld HSK CI
              gi_wp2_with fail
              have HI9 := Lib.hid (HI0.out.next HB9.out)
              have HK9 := Lib.hid (HKW.out.next HB9.out)
              have hDl9 : w6.heap.size + 1 < w9.heap.size := by have := HB9.out.size; omega
              have z12 : w9.drew.cell? ⟨B + 1, 0, none⟩ = some (.string (s.extract 0 (lastOf pre))) := rg_cell HI9.out.2.2.1
              have f12 : w9.drew.frozen? ⟨B + 1, 0, none⟩ = false := rg_frozen HI9.out.2.2.1
              have HS2 : Hid (w9.drew.cell? ⟨w.heap.size, 0, none⟩ = some (.string s) ∧ w9.drew.cell? ⟨B + 2, 0, none⟩ = some (.int .i64 (lastOf pre : Int))) := Lib.hid ⟨rg_cell HI9.out.1.2.1, rg_cell HI9.out.2.2.2.1⟩
              have hcatE : s.extract 0 (lastOf pre) ++ (s.extract (lastOf pre) i ++ s.extract i j) = s.extract 0 j := piece_next s g1 g2
              have HCE := Lib.hid hcatE
              have hq1 : (s.extract (lastOf pre) i).size ≤ 60 := by rw [ByteArray.size_extract]; omega
              have hq2 : (s.extract i j).size ≤ 60 := by rw [ByteArray.size_extract]; omega
              have hq3 : (s.extract 0 (lastOf pre)).size ≤ 60 := by rw [ByteArray.size_extract]; omega
              have s1 : ¬ 9223372036854775807 < (s.extract (lastOf pre) i).size + (s.extract i j).size := by omega
              have s2 : ¬ 9223372036854775807 < (s.extract 0 (lastOf pre)).size + (s.extract (lastOf pre) i ++ s.extract i j).size := by rw [ByteArray.size_append]; omega
              have u1 : ¬ 9223372036854775807 < min i s.size - lastOf pre + (j - i) := by omega
              have u2 : ¬ 9223372036854775807 < min (lastOf pre) s.size + (j - lastOf pre) := by omega
              have u3 : ¬ 9223372036854775807 < lastOf pre + (j - lastOf pre) := by omega
              have hmx : max (lastOf pre) j = j := by omega
              have hW9 : Below w9.heap.size w9 w9.drew := drew_below w9
              have HIA := Lib.hid (HI9.out.next hW9)
              have HKA := Lib.hid (HK9.out.next hW9)
              have hDla : w6.heap.size + 1 < w9.drew.heap.size := hDl9
              have HDA : Hid (w9.drew.heap.size = w9.heap.size) := Lib.hid rfl
              have HBA : Hid (Below W.heap.size W w9.drew) := Lib.hid HB9.out.drew
              clear hcatE hW9
              refine wpIn_region_I (S := fun Z => Z.cell? ⟨w.heap.size, 0, none⟩ = some (.string s) ∧ Z.cell? ⟨B + 2, 0, none⟩ = some (.int .i64 (lastOf pre : Int))) (by kernel_rfl) HS2.out (fun hHeld => ?_)
              generalize w9.drew = wa at *
              refine wpAnyI_take (i := 1) (oi := _) (v := ?_) (by kernel_rfl) rfl (by kernel_rfl) (by kernel_rfl) (by kernel_rfl) (fun _ _ _ h => h) (Or.inl ⟨by rfl, ?_⟩) (fun _ => rfl) (by assumption) ?_
              rotate_left
              · (intro w hSw; obtain ⟨q0, q1⟩ := hSw; go_simp; try with_reducible rfl)
              try simp only [nrm]
              refine wpAnyI_take (i := 2) (oi := _) (v := ?_) (by kernel_rfl) rfl (by kernel_rfl) (by kernel_rfl) (by kernel_rfl) (fun _ _ _ h => h) (Or.inl ⟨by rfl, ?_⟩) (fun _ => rfl) (by assumption) ?_
              rotate_left
              · (intro w hSw; obtain ⟨q0, q1⟩ := hSw; go_simp; try with_reducible rfl)
              try simp only [nrm]
              refine wpAnyI_take (i := 3) (oi := _) (v := ?_) (by kernel_rfl) rfl (by kernel_rfl) (by kernel_rfl) (by kernel_rfl) (fun _ _ _ h => h) (Or.inl ⟨by rfl, ?_⟩) (fun _ => rfl) (by assumption) ?_
              rotate_left
              · (intro w hSw; obtain ⟨q0, q1⟩ := hSw; go_simp; try with_reducible rfl)
              try simp only [nrm]
              refine wpAnyI_take (i := 4) (oi := _) (v := ?_) (by kernel_rfl) rfl (by kernel_rfl) (by kernel_rfl) (by kernel_rfl) (fun _ _ _ h => h) (Or.inl ⟨by rfl, ?_⟩) (fun _ => rfl) (by assumption) ?_
              rotate_left
              · (intro w hSw; obtain ⟨q0, q1⟩ := hSw; go_simp; try with_reducible rfl)
              try simp only [nrm]
              refine wpAnyI_take (i := 5) (oi := _) (v := ?_) (by kernel_rfl) rfl (by kernel_rfl) (by kernel_rfl) (by kernel_rfl) (fun _ _ _ h => h) (Or.inl ⟨by rfl, ?_⟩) (fun _ => rfl) (by assumption) ?_
              rotate_left
              · (intro w hSw; obtain ⟨q0, q1⟩ := hSw; go_simp; try with_reducible rfl)
              try simp only [nrm]
              refine wpAnyI_take (i := 6) (oi := _) (v := ?_) (by kernel_rfl) rfl (by kernel_rfl) (by kernel_rfl) (by kernel_rfl) (fun _ _ _ h => h) (Or.inl ⟨by rfl, ?_⟩) (fun _ => rfl) (by assumption) ?_
              rotate_left
              · (intro w hSw; obtain ⟨q0, q1⟩ := hSw; go_simp; try with_reducible rfl)
              try simp only [nrm]
              refine wpAnyI_take (i := 7) (oi := _) (v := ?_) (by kernel_rfl) rfl (by kernel_rfl) (by kernel_rfl) (by kernel_rfl) (fun _ _ _ h => h) (Or.inl ⟨by rfl, ?_⟩) (fun _ => rfl) (by assumption) ?_
              rotate_left
              · (intro w hSw; obtain ⟨q0, q1⟩ := hSw; go_simp; try with_reducible rfl)
              try simp only [nrm]
              refine wpAnyI_take (i := 8) (oi := _) (v := ?_) (by kernel_rfl) rfl (by kernel_rfl) (by kernel_rfl) (by kernel_rfl) (fun _ _ _ h => h) (Or.inl ⟨by rfl, ?_⟩) (fun _ => rfl) (by assumption) ?_
              rotate_left
              · (intro w hSw; obtain ⟨q0, q1⟩ := hSw; go_simp; try with_reducible rfl)
              try simp only [nrm]
              refine wpAnyI_take (i := 9) (oi := _) (v := ?_) (by kernel_rfl) rfl (by kernel_rfl) (by kernel_rfl) (by kernel_rfl) (fun _ _ _ h => h) (Or.inl ⟨by rfl, ?_⟩) (fun _ => rfl) (by assumption) ?_
              rotate_left
              · (intro w hSw; obtain ⟨q0, q1⟩ := hSw; go_simp; try with_reducible rfl)
              try simp only [nrm]
              refine wpAnyI_ready (rs := [0]) (by kernel_rfl) (by simp) ?_
              refine AllReadyI.cons (o := _) rfl (fun K hK => ?_) AllReadyI.nil
              go_simp
              refine hK.out _ _ hHeld (fun hHeld => ?_)
              clear hK K
              try simp only [nrm]
              refine wpAnyI_take (i := 10) (oi := _) (v := ?_) (by kernel_rfl) rfl (by kernel_rfl) (by kernel_rfl) (by kernel_rfl) (fun _ _ _ h => h) (Or.inl ⟨by rfl, ?_⟩) (fun _ => rfl) (by assumption) ?_
              rotate_left
              · (intro w hSw; obtain ⟨q0, q1⟩ := hSw; go_simp; try with_reducible rfl)
              try simp only [nrm]
              refine wpAnyI_ready (rs := [11]) (by kernel_rfl) (by simp) ?_
              refine AllReadyI.cons (o := _) rfl (fun K hK => ?_) AllReadyI.nil
              go_simp
              try rw [HCE.out]
              refine hK.out _ _ ⟨?_, ?_⟩ (fun hHeld => ?_)
              · exact rg_cell (HIA.out.1.2.1.setNe (by omega) _)
              · exact rg_cell (HIA.out.2.2.2.1.setNe (by omega) _)
              clear hK K
              try simp only [nrm]
              refine wpAnyI_done (by kernel_rfl) ?_ _
              have HST := Lib.hid (HIA.out.step hwB HN2.out (i, j))
              have HKS : Hid (KpS bs d1 t1 s g ((wa.setCell ⟨B + 1, 0, none⟩ (.string (s.extract 0 j))).setCell ⟨B + 2, 0, none⟩ (.int .i64 (j : Int)))) := Lib.hid (kpt_set (kpt_set HKA.out (fun k hk => (HNK.out k hk).1) _) (fun k hk => (HNK.out k hk).2) _)
              have hbx := HIA.out.2.2.2.1.setNe (show B + 2 ≠ B + 1 by omega) (.string (s.extract 0 j))
              have c13 : (wa.setCell ⟨B + 1, 0, none⟩ (.string (s.extract 0 j))).cell? ⟨B + 2, 0, none⟩ = some (.int .i64 (lastOf pre : Int)) := rg_cell hbx
              have f13 : (wa.setCell ⟨B + 1, 0, none⟩ (.string (s.extract 0 j))).frozen? ⟨B + 2, 0, none⟩ = false := rg_frozen hbx
              have HTW : Hid (Two w6.heap.size W ((wa.setCell ⟨B + 1, 0, none⟩ (.string (s.extract 0 j))).setCell ⟨B + 2, 0, none⟩ (.int .i64 (j : Int)))) := Lib.hid
                ⟨(Below.heap_setCell _ ⟨B + 2, 0, none⟩ _ _ (by show w6.heap.size ≠ B + 2; omega)).trans ((Below.heap_setCell _ ⟨B + 1, 0, none⟩ _ _ (by show w6.heap.size ≠ B + 1; omega)).trans (HBA.out.block _ (by omega))),
                 (Below.heap_setCell _ ⟨B + 2, 0, none⟩ _ _ (by show w6.heap.size + 1 ≠ B + 2; omega)).trans ((Below.heap_setCell _ ⟨B + 1, 0, none⟩ _ _ (by show w6.heap.size + 1 ≠ B + 1; omega)).trans (HBA.out.block _ (by omega)))⟩
              clear hbx hHeld
              gi_wp2_with fail
              exact ⟨HTW.out, HKS.out, HST.out⟩
            case done =>
              rintro D xs W hS hI hkp rfl hD
              have hDl := (Array.getElem?_eq_some_iff.1 hD).1
              have hla : lastOf xs ≤ s.size := by
                by_cases hx : xs = []
                · subst hx; exact Nat.zero_le _
                · obtain ⟨a, told, hp, _⟩ := hS
                  obtain ⟨pr, x, rfl⟩ : ∃ pr x, xs = pr ++ [x] := ⟨_, _, (List.dropLast_concat_getLast hx).symm⟩
                  rw [lastOf_snoc]
                  exact (hp.good pr x rfl).2.2.1
              have hlai : ¬ (s.size : Int) < (lastOf xs : Int) := by omega
              have hlaj : (lastOf xs : Int) ≤ (s.size : Int) := by omega
              have hce : s.extract 0 (lastOf xs) ++ s.extract (lastOf xs) s.size = s := piece_all s hla
              have HCE := Lib.hid hce
              have HS3 : Hid (W.drew.cell? ⟨B + 1, 0, none⟩ = some (.string (s.extract 0 (lastOf xs))) ∧ W.drew.cell? ⟨w.heap.size, 0, none⟩ = some (.string s) ∧ W.drew.cell? ⟨B + 2, 0, none⟩ = some (.int .i64 (lastOf xs : Int))) := Lib.hid ⟨rg_cell hI.2.2.1, rg_cell hI.1.2.1, rg_cell hI.2.2.2.1⟩
              have hneD : w6.heap.size ≠ w.heap.size + 1 := by omega
              have z4 : W.drew.cell? ⟨w.heap.size + 1, 0, none⟩ = some (.bool false) := rg_cell hI.1.2.2
              have f4 : W.drew.frozen? ⟨w.heap.size + 1, 0, none⟩ = false := rg_frozen hI.1.2.2
              have HD2 : Hid ((W.drew.setCell ⟨w.heap.size + 1, 0, none⟩ (.bool true)).heap[w6.heap.size]? = some (.deferred (some []))) := Lib.hid ((Below.heap_setCell W.drew ⟨w.heap.size + 1, 0, none⟩ _ _ hneD).trans hD)
              have hI2 := hI.next (drew_below W)
              have HRES : Hid (((W.drew.setCell ⟨w.heap.size + 1, 0, none⟩ (.bool true)).putObj w6.heap.size (.deferred none)).cell? ⟨w.heap.size + 1, 0, none⟩ = some (.bool true)) := Lib.hid (rg_cell ((hI2.1.2.2.set (.bool true)).put hneD.symm _))
              have HFIN : Hid (Below w.heap.size w ((W.drew.setCell ⟨w.heap.size + 1, 0, none⟩ (.bool true)).putObj w6.heap.size (.deferred none))) := Lib.hid (below_puto (hI2.1.1.setCell (by show w.heap.size ≤ w.heap.size + 1; omega) _) (by omega) _)
              have hr1 : (s.extract (lastOf xs) s.size).size ≤ 60 := by rw [ByteArray.size_extract]; omega
              have hr2 : (s.extract 0 (lastOf xs)).size ≤ 60 := by rw [ByteArray.size_extract]; omega
              have s3 : ¬ 9223372036854775807 < (s.extract 0 (lastOf xs)).size + (s.extract (lastOf xs) s.size).size := by omega
              have hee : (s.toList == s.toList) = true := by simp
              have u4 : ¬ 9223372036854775807 < s.size := by omega
              clear hD hS hI hI2 hkp HNK HN2 HKP HI6 hce
              go_wp2_with fail
              refine wp_mono (Q := NoP _) ?_ (fun e a w h => h.2)
              refine wp_region_L (st := [7]) (S := fun Z => Z.cell? ⟨B + 1, 0, none⟩ = some (.string (s.extract 0 (lastOf xs))) ∧ Z.cell? ⟨w.heap.size, 0, none⟩ = some (.string s) ∧ Z.cell? ⟨B + 2, 0, none⟩ = some (.int .i64 (lastOf xs : Int))) (by kernel_rfl) (HS3.out) (fun hHeld => ?_)
              generalize W.drew = w8 at *
              refine wpAnyL_take (i := 0) (oi := _) (v := ?_) rfl (by kernel_rfl) (by kernel_rfl) (by kernel_rfl) (by decide) (by kernel_rfl) (by kernel_rfl) (by kernel_rfl) (fun c _ _ h => absurd rfl (h.1 c)) (Or.inl ⟨by rfl, ?_⟩) (by assumption) ?_
              rotate_left
              · (intro w hSw; obtain ⟨q0, q1, q2⟩ := hSw; go_simp; try with_reducible rfl)
              try simp only [nrm]
              refine wpAnyL_take (i := 1) (oi := _) (v := ?_) rfl (by kernel_rfl) (by kernel_rfl) (by kernel_rfl) (by decide) (by kernel_rfl) (by kernel_rfl) (by kernel_rfl) (fun c _ _ h => absurd rfl (h.1 c)) (Or.inl ⟨by rfl, ?_⟩) (by assumption) ?_
              rotate_left
              · (intro w hSw; obtain ⟨q0, q1, q2⟩ := hSw; go_simp; try with_reducible rfl)
              try simp only [nrm]
              refine wpAnyL_take (i := 2) (oi := _) (v := ?_) rfl (by kernel_rfl) (by kernel_rfl) (by kernel_rfl) (by decide) (by kernel_rfl) (by kernel_rfl) (by kernel_rfl) (fun c _ _ h => absurd rfl (h.1 c)) (Or.inl ⟨by rfl, ?_⟩) (by assumption) ?_
              rotate_left
              · (intro w hSw; obtain ⟨q0, q1, q2⟩ := hSw; go_simp; try with_reducible rfl)
              try simp only [nrm]
              refine wpAnyL_take (i := 3) (oi := _) (v := ?_) rfl (by kernel_rfl) (by kernel_rfl) (by kernel_rfl) (by decide) (by kernel_rfl) (by kernel_rfl) (by kernel_rfl) (fun c _ _ h => absurd rfl (h.1 c)) (Or.inl ⟨by rfl, ?_⟩) (by assumption) ?_
              rotate_left
              · (intro w hSw; obtain ⟨q0, q1, q2⟩ := hSw; go_simp; try with_reducible rfl)
              try simp only [nrm]
              refine wpAnyL_take (i := 4) (oi := _) (v := ?_) rfl (by kernel_rfl) (by kernel_rfl) (by kernel_rfl) (by decide) (by kernel_rfl) (by kernel_rfl) (by kernel_rfl) (fun c _ _ h => absurd rfl (h.1 c)) (Or.inl ⟨by rfl, ?_⟩) (by assumption) ?_
              rotate_left
              · (intro w hSw; obtain ⟨q0, q1, q2⟩ := hSw; go_simp; try with_reducible rfl)
              try simp only [nrm]
              refine wpAnyL_take (i := 5) (oi := _) (v := ?_) rfl (by kernel_rfl) (by kernel_rfl) (by kernel_rfl) (by decide) (by kernel_rfl) (by kernel_rfl) (by kernel_rfl) (fun c _ _ h => absurd rfl (h.1 c)) (Or.inl ⟨by rfl, ?_⟩) (by assumption) ?_
              rotate_left
              · (intro w hSw; obtain ⟨q0, q1, q2⟩ := hSw; go_simp; try with_reducible rfl)
              try simp only [nrm]
              refine wpAnyL_take (i := 6) (oi := _) (v := ?_) rfl (by kernel_rfl) (by kernel_rfl) (by kernel_rfl) (by decide) (by kernel_rfl) (by kernel_rfl) (by kernel_rfl) (fun c _ _ h => absurd rfl (h.1 c)) (Or.inl ⟨by rfl, ?_⟩) (by assumption) ?_
              rotate_left
              · (intro w hSw; obtain ⟨q0, q1, q2⟩ := hSw; go_simp; try with_reducible rfl)
              try simp only [nrm]
              try rw [HCE.out]
              try rw [hee]
              refine wpAnyL_ready (rs := [7]) (by kernel_rfl) (by simp) ?_
              refine AllReadyL.store (o := _) rfl (by decide) (by decide) (fun K hK => ?_) AllReadyL.nil
              go_simp
              refine hK.out _ _ ?_
              clear hK K
              try simp only [nrm]
              refine wpAnyL_done (by kernel_rfl) ?_ _
              refine ⟨fun c h => (by cases h), ?_⟩
              go_wp2_with fail
              refine ⟨by simp, .inl ⟨_, _, rfl, run_takeDeferred HD2.out, ?_⟩⟩
              refine ⟨.bool true, ?_, rfl, HFIN.out⟩
              simp [results, Tryz.results3, go_sem, HRES.out]
          · have hk14 : k2 = 14 := by
              rw [HC.out] at ht2
              rcases HTW.out with h | ⟨q, h⟩
              · rw [h] at ht2; cases ht2
              · rw [h] at ht2; injection ht2 with h; exact (Prod.mk.inj h).2.symm
            subst hk14
            clear hb3 ht2 hk2 hn2 HC HTW HPG13 HNE
            generalize ((((⟨#[94, 40]⟩ : ByteArray) ++ p ++ (⟨#[41, 36]⟩ : ByteArray)).size - n2 : Nat) : Int) = q2 at *
            obtain ⟨W4, hW4⟩ : ∃ W4, w3.alloc (.cells #[.pointer none] 24) = W4 := ⟨_, rfl⟩
            have hb4 : Below w3.heap.size w3 W4 := by rw [← hW4]; exact (Below.refl _ _).alloc (Nat.le_refl _) _
            have HA4 := Lib.hid (HA3.out.next hb4)
            have z4 : W4.cell? ⟨w.heap.size + 1, 0, none⟩ = some (.bool false) := rg_cell HA4.out.2.2
            have f4 : W4.frozen? ⟨w.heap.size + 1, 0, none⟩ = false := rg_frozen HA4.out.2.2
            have HFIN : Hid (Below w.heap.size w (W4.setCell ⟨w.heap.size + 1, 0, none⟩ (.bool true))) := Lib.hid (HA4.out.1.setCell (by show w.heap.size ≤ w.heap.size + 1; omega) _)
            have HRES : Hid ((W4.setCell ⟨w.heap.size + 1, 0, none⟩ (.bool true)).cell? ⟨w.heap.size + 1, 0, none⟩ = some (.bool true)) := Lib.hid (rg_cell (HA4.out.2.2.set _))
            have HW4 := Lib.hid hW4
            clear hW4 hb4
            go_upto_region 11 with fail
            rw [HW4.out]
            clear HW4
            go_wp2_with fail
            refine ⟨.bool true, ?_, rfl, HFIN.out⟩
            simp [results, Tryz.results3, go_sem, HRES.out]
        · have CO2' := Lib.hid (CO2.out w2 HZ2.out)
          have hkn : ((k1 : Int) != 0) = true := by rcases hk1 with rfl | rfl <;> rfl
          have HK1 := Lib.hid hk1
          clear hb2 ht1 hk1 hn1 HNB CO2
          generalize ((p.size - n1 : Nat) : Int) = q1 at *
          generalize (k1 : Int) = kk1 at *
          go_wp2_with fail
          refine CO2'.out.mono ?_
          rintro e w3 ⟨hb3, h3⟩
          have HA3 := Lib.hid (HA2.out.next hb3)
          clear CO2' HA2 HZ2 hb3
          rcases h3 with ⟨t2, r2, d2, ht2, rfl, hpg2⟩ | ⟨n2, k2, ht2, hk2, hn2, rfl⟩
          · clear ht2 hpg2 HC
            obtain ⟨W4, hW4⟩ : ∃ W4, w3.alloc (.cells #[.pointer (some ⟨d2.p, 0, none⟩)] 24) = W4 := ⟨_, rfl⟩
            have hb4 : Below w3.heap.size w3 W4 := by rw [← hW4]; exact (Below.refl _ _).alloc (Nat.le_refl _) _
            have HA4 := Lib.hid (HA3.out.next hb4)
            have z4 : W4.cell? ⟨w.heap.size + 1, 0, none⟩ = some (.bool false) := rg_cell HA4.out.2.2
            have f4 : W4.frozen? ⟨w.heap.size + 1, 0, none⟩ = false := rg_frozen HA4.out.2.2
            have HFIN : Hid (Below w.heap.size w (W4.setCell ⟨w.heap.size + 1, 0, none⟩ (.bool true))) := Lib.hid (HA4.out.1.setCell (by show w.heap.size ≤ w.heap.size + 1; omega) _)
            have HRES : Hid ((W4.setCell ⟨w.heap.size + 1, 0, none⟩ (.bool true)).cell? ⟨w.heap.size + 1, 0, none⟩ = some (.bool true)) := Lib.hid (rg_cell (HA4.out.2.2.set _))
            have HW4 := Lib.hid hW4
            clear hW4 hb4
            go_upto_region 11 with fail
            rw [HW4.out]
            clear HW4
            go_wp2_with fail
            refine ⟨.bool true, ?_, rfl, HFIN.out⟩
            simp [results, Tryz.results3, go_sem, HRES.out]
          · have hkc : k2 = 9 ∨ k2 = 14 := hk2
            clear ht2 hk2 hn2 HC
            generalize ((((⟨#[94, 40]⟩ : ByteArray) ++ p ++ (⟨#[41, 36]⟩ : ByteArray)).size - n2 : Nat) : Int) = q2 at *
            rcases hkc with rfl | rfl
            all_goals
              obtain ⟨W4, hW4⟩ : ∃ W4, w3.alloc (.cells #[.pointer none] 24) = W4 := ⟨_, rfl⟩
              have hb4 : Below w3.heap.size w3 W4 := by rw [← hW4]; exact (Below.refl _ _).alloc (Nat.le_refl _) _
              have HA4 := Lib.hid (HA3.out.next hb4)
              have z4 : W4.cell? ⟨w.heap.size + 1, 0, none⟩ = some (.bool false) := rg_cell HA4.out.2.2
              have f4 : W4.frozen? ⟨w.heap.size + 1, 0, none⟩ = false := rg_frozen HA4.out.2.2
              have HFIN : Hid (Below w.heap.size w (W4.setCell ⟨w.heap.size + 1, 0, none⟩ (.bool true))) := Lib.hid (HA4.out.1.setCell (by show w.heap.size ≤ w.heap.size + 1; omega) _)
              have HRES : Hid ((W4.setCell ⟨w.heap.size + 1, 0, none⟩ (.bool true)).cell? ⟨w.heap.size + 1, 0, none⟩ = some (.bool true)) := Lib.hid (rg_cell (HA4.out.2.2.set _))
              have HW4 := Lib.hid hW4
              clear hW4 hb4
              go_upto_region 11 with fail
              rw [HW4.out]
              clear HW4
              go_wp2_with fail
              refine ⟨.bool true, ?_, rfl, HFIN.out⟩
              simp [results, Tryz.results3, go_sem, HRES.out]
end Go.Proofs.YtmlpkimbcjkbkaaGreatDoor
