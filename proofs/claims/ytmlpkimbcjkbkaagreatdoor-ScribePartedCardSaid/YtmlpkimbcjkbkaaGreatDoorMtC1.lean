/-
  CONTRACTS of layer 10: count, newBuilder.
-/
import Derived.Test.YtmlpkimbcjkbkaaGreatDoorMtP6
namespace Go.Proofs.YtmlpkimbcjkbkaaGreatDoor
open Go.RowKit

mutual
/-- How many nodes a tree has. -/
def sizeN : RT → Nat
  | .mk _ _ ks => 1 + sizesN ks
def sizesN : List RT → Nat
  | [] => 0
  | t :: ts => sizeN t + sizesN ts
end
theorem sizesN_append : ∀ (a b : List RT), sizesN (a ++ b) = sizesN a + sizesN b
  | [], b => by simp [sizesN]
  | u :: a, b => by rw [List.cons_append, sizesN, sizesN, sizesN_append a b]; omega
mutual
/-- A tree as the reader makes it. -/
def RT.Fine : RT → Prop
  | .mk op st ks => op ≤ 8 ∧ ((op = 1 ∨ op = 7 ∨ op = 8) → ks = []) ∧ (op = 1 → st.Ok) ∧ FineL ks
def FineL : List RT → Prop
  | [] => True
  | t :: ts => t.Fine ∧ FineL ts
end
theorem FineL.mem : ∀ {ts : List RT}, FineL ts → ∀ t ∈ ts, t.Fine
  | [], _, t, h => by cases h
  | u :: ts, hk, t, h => by
    unfold FineL at hk
    rcases List.mem_cons.1 h with rfl | h
    · exact hk.1
    · exact hk.2.mem t h
theorem FineL.of : ∀ {ts : List RT}, (∀ t ∈ ts, t.Fine) → FineL ts
  | [], _ => by unfold FineL; trivial
  | t :: ts, h => by
    unfold FineL
    exact ⟨h t (by simp), FineL.of fun u hu => h u (by simp [hu])⟩
mutual
theorem RT.Fine.ok : ∀ (t : RT), t.Fine → t.Ok
  | .mk op st ks, h => by
    unfold RT.Fine at h
    unfold RT.Ok
    exact ⟨h.2.2.1, FineL.ok ks h.2.2.2⟩
theorem FineL.ok : ∀ (ts : List RT), FineL ts → OkL ts
  | [], _ => by unfold OkL; trivial
  | t :: ts, h => by
    unfold FineL at h
    unfold OkL
    exact ⟨RT.Fine.ok t h.1, FineL.ok ts h.2⟩
end
theorem sizesN_len : ∀ ts : List RT, ts.length ≤ sizesN ts
  | [] => by simp [sizesN]
  | .mk op st ks :: ts => by
    have := sizesN_len ts
    rw [sizesN, sizeN, List.length_cons]; omega
mutual
theorem RT.Fine.few : ∀ (t : RT), t.Fine → sizeN t ≤ 1000000 → t.Few
  | .mk op st ks, h, hz => by
    unfold RT.Fine at h
    rw [sizeN] at hz
    unfold RT.Few
    have := sizesN_len ks
    exact ⟨h.1, by omega, FineL.few ks h.2.2.2 (by omega)⟩
theorem FineL.few : ∀ (ts : List RT), FineL ts → sizesN ts ≤ 1000000 → FewL ts
  | [], _, _ => by unfold FewL; trivial
  | t :: ts, h, hz => by
    unfold FineL at h
    rw [sizesN] at hz
    unfold FewL
    exact ⟨RT.Fine.few t h.1 (by omega), FineL.few ts h.2 (by omega)⟩
end
mutual
theorem leaf_le_size : ∀ t : RT, leafN t ≤ sizeN t
  | .mk op st ks => by
    have := leaves_le_size ks
    unfold leafN sizeN
    split
    · omega
    · split <;> omega
theorem leaves_le_size : ∀ ts : List RT, leavesN ts ≤ sizesN ts
  | [] => by simp [leavesN]
  | t :: ts => by
    have := leaf_le_size t
    have := leaves_le_size ts
    rw [leavesN, sizesN]; omega
end
/-- A tally lies in block b. -/
def Tl (w : World) (b a l : Nat) : Prop := w.heap[b]? = some (.cells #[.int .i64 (a : Int), .int .i64 (l : Int)] 82 (0, 0))
theorem Tl.lt {w : World} {b a l : Nat} (h : Tl w b a l) : b < w.heap.size := (Array.getElem?_eq_some_iff.1 h).1
theorem Tl.kept {w w' : World} {b a l : Nat} (h : Tl w b a l) (hk : w'.heap[b]? = w.heap[b]?) : Tl w' b a l := hk.trans h
theorem Tl.set0 {w : World} {b a l : Nat} (h : Tl w b a l) (x : Nat) : Tl (w.setCell ⟨b, 0, none⟩ (.int .i64 (x : Int))) b x l := by
  have := rg_setCell (i := 0) h (.int .i64 (x : Int))
  simp only [List.setIfInBounds_toArray, List.set_cons_zero] at this
  exact this
theorem Tl.set1 {w : World} {b a l : Nat} (h : Tl w b a l) (x : Nat) : Tl (w.setCell ⟨b, 1, none⟩ (.int .i64 (x : Int))) b a x := by
  have := rg_setCell (i := 1) h (.int .i64 (x : Int))
  simp only [List.setIfInBounds_toArray, List.set_cons_zero, List.set_cons_succ] at this
  exact this
/-- CONTRACT of count at a tree. -/
def CountC (t : RT) : Prop := ∀ (w : World) (b a l : Nat) (nd : Nd) (K : Nat → Prop), Tl w b a l → TreeN w K t nd → (∀ g, K g → g < w.heap.size → g ≠ b) → a + sizeN t ≤ 2000 → l ≤ a →
  Calls Tryz.prog 35 #[.pointer (some ⟨b, 0, none⟩), nd.val] w fun e w' => e = .returned (.tuple #[]) ∧ Tl w' b (a + sizeN t) (l + leafN t) ∧ Onl b w w'
set_option maxHeartbeats 4000000 in
set_option maxRecDepth 100000 in
theorem mcount_any : ∀ (t : RT), t.Fine → CountC t
  | .mk op st ks, hf => by
    unfold RT.Fine at hf
    have hCC : ∀ t ∈ ks, CountC t := fun t ht => mcount_any t (hf.2.2.2.mem t ht)
    intro w b a l nd K htl htr hK ha hl
    obtain ⟨hk, h2, h3, h4⟩ := kids_at htr
    obtain ⟨nop, nst, kp, kn, kc⟩ := nd
    simp only at h2 h3 h4 hk
    subst h2 h3 h4
    have hop := hf.1
    have hsz : sizeN (.mk op nst ks) = 1 + sizesN ks := by rw [sizeN]
    have hlf : leafN (.mk op nst ks) = (if op = 1 then 1 else 0) + leavesN ks := by
      unfold leafN
      by_cases h1 : op = 1
      · have := hf.2.1 (.inl h1)
        subst this
        simp [h1, leavesN]
      · rw [if_neg h1, if_neg h1]
        by_cases h7 : op = 7 ∨ op = 8
        · rw [if_pos h7]
          have := hf.2.1 (.inr h7)
          subst this
          simp [leavesN]
        · rw [if_neg h7]; omega
    rw [hsz, hlf]
    rw [hsz] at ha
    unfold Nd.val
    have hkl : ks.length ≤ 2000 := by have := sizesN_len ks; omega
    have hbl := htl.lt
    obtain ⟨l1, hl1⟩ : ∃ l1, l + (if op = 1 then 1 else 0) = l1 := ⟨_, rfl⟩
    obtain ⟨W0, hW0⟩ : ∃ W0, w.alloc (.cells #[.int .i64 (op : Int), .int .u64 nst.a, .int .u64 nst.b, .int .u64 nst.c, .int .u64 nst.d, .slice kp ks.length kc] 45) = W0 := ⟨_, rfl⟩
    have hb0 : Below w.heap.size w W0 := by rw [← hW0]; exact (Below.refl _ _).alloc (Nat.le_refl _) _
    have hz0 : W0.heap.size = w.heap.size + 1 := by rw [← hW0]; simp
    have hx0 : W0.heap[w.heap.size]? = some (.cells #[.int .i64 (op : Int), .int .u64 nst.a, .int .u64 nst.b, .int .u64 nst.c, .int .u64 nst.d, .slice kp ks.length kc] 45 (0, 0)) := by rw [← hW0]; exact mt_heap_new _ _
    have ht0 : Tl W0 b a l := htl.kept (hb0.block b hbl)
    have k0 : W0.cell? ⟨b, 0, none⟩ = some (.int .i64 (a : Int)) := rg_cell ht0
    have k1 : W0.cell? ⟨b, 1, none⟩ = some (.int .i64 (l : Int)) := rg_cell ht0
    have f0 : W0.frozen? ⟨b, 0, none⟩ = false := rg_frozen ht0
    have f1 : W0.frozen? ⟨b, 1, none⟩ = false := rg_frozen ht0
    have n0 : W0.cell? ⟨w.heap.size, 0, none⟩ = some (.int .i64 (op : Int)) := rg_cell hx0
    have n5 : W0.cell? ⟨w.heap.size, 5, none⟩ = some (.slice kp ks.length kc) := rg_cell hx0
    have hne : w.heap.size ≠ b := by omega
    have ha2 : (a : Int) ≤ 2000 := by omega
    have hl2 : (l : Int) ≤ 2000 := by omega
    have HR0 : Hid (∀ W2, Tl W2 b (a + 1) l1 → Onl b W0 W2 → Tl W2 b (a + 1 + sizesN (ks.take 0)) (l1 + leavesN (ks.take 0)) ∧ Onl b w W2) := Lib.hid fun W2 h1 h2 => ⟨by simpa [sizesN, leavesN] using h1, (Onl.of_below hb0 (Nat.le_refl _)).trans h2⟩
    have HT0 := Lib.hid ht0
    have HKS := Lib.hid hk
    have HKN := Lib.hid hK
    have HCC := Lib.hid hCC
    have HA := Lib.hid ha
    have HW0 := Lib.hid hW0
    have HZ := Lib.hid (show l + ((if op = 1 then 1 else 0) + leavesN ks) = l1 + leavesN ks ∧ l1 ≤ a + 1 by
      refine ⟨by omega, ?_⟩
      rw [← hl1]; split <;> omega)
    clear hb0 hx0 ht0 htl htr hf hCC hsz hlf hK hk ha hW0
    by_cases h1 : op = 1
    · subst h1
      rw [if_pos rfl] at hl1
      rw [HZ.out.1]
      have HR1 := Lib.hid (HR0.out ((W0.setCell ⟨b, 0, none⟩ (.int .i64 ((a + 1 : Nat) : Int))).setCell ⟨b, 1, none⟩ (.int .i64 ((l + 1 : Nat) : Int))) (by rw [← hl1]; exact (HT0.out.set0 (a + 1)).set1 (l + 1)) (((Onl.refl _ _).setCell _ _).setCell _ _))
      have e1 : ((a + 1 : Nat) : Int) = (a : Int) + 1 := by omega
      have e2 : ((l + 1 : Nat) : Int) = (l : Int) + 1 := by omega
      rw [e1, e2] at HR1
      clear HR0 HT0 e1 e2 hl1 hop
      go_enter Tryz.func35, Tryz.ntmps35
      go_upto_region 1 with fail
      rw [show ((1 : Nat) : Int) = 1 from rfl] at HW0 n0
      rw [HW0.out]
      clear HW0
      go_wp2_with fail
      go_loopw [26] (fun iv wr => ∃ j : Nat, j ≤ ks.length ∧ iv = .int .i64 (j : Int) ∧ Hid (Tl wr b (a + 1 + sizesN (ks.take j)) (l1 + leavesN (ks.take j)) ∧ Onl b w wr)) (fun iv _ => ks.length - (intOf iv).toNat)
      case atStart => exact ⟨0, Nat.zero_le _, rfl, HR1⟩
      case round =>
        clear HR1
        obtain ⟨j, hj, rfl, HI⟩ := hrel
        by_cases hjl : j < ks.length
        · have hji : (j : Int) < (ks.length : Int) := by omega
          obtain ⟨t, ht⟩ : ∃ t, ks[j]? = some t := ⟨ks[j], List.getElem?_eq_getElem hjl⟩
          have htm : t ∈ ks := List.mem_of_getElem? ht
          obtain ⟨g, x, hkp, hKg, hgl9, hc6, htr⟩ := HKS.out j t ht
          have hng := HKN.out g hKg hgl9
          have hTK : ks.take (j + 1) = ks.take j ++ [t] := by rw [List.take_add_one, ht]; rfl
          have hsum : a + 1 + sizesN (ks.take j) + sizeN t ≤ 2000 := by
            have h2 : sizesN (ks.take (j + 1)) ≤ sizesN ks := by
              conv => rhs; rw [← List.take_append_drop (j + 1) ks]
              rw [sizesN_append]; omega
            rw [hTK, sizesN_append] at h2
            have := HA.out
            simp [sizesN] at h2
            omega
          have HLV : Hid (l1 + leavesN (ks.take j) ≤ a + 1 + sizesN (ks.take j) ∧ sizesN (ks.take (j + 1)) = sizesN (ks.take j) + sizeN t ∧ leavesN (ks.take (j + 1)) = leavesN (ks.take j) + leafN t) := Lib.hid (by
            refine ⟨?_, by rw [hTK, sizesN_append]; simp [sizesN], by rw [hTK, leavesN_append]; simp [leavesN]⟩
            have h3 := leaves_le_size (ks.take j)
            have := HZ.out.2
            omega)
          have hcw : Cells6 wr g (j * 6) x := hc6.kept (HI.out.2.block g hgl9 hng)
          obtain ⟨k0, k1, k2, k3, k4, k5⟩ := hcw
          have HTR : Hid (TreeN wr (fun g => K g ∧ g < w.heap.size) t x) := Lib.hid (htr.kept (fun g hg hl => HI.out.2.block g hl (HKN.out g hg hl)) (fun g hg hl => ⟨hg, hl⟩))
          subst hkp
          obtain ⟨A, hA⟩ : ∃ A, a + 1 + sizesN (ks.take j) = A := ⟨_, rfl⟩
          rw [hA] at HI hsum
          obtain ⟨W5, hW5⟩ : ∃ x, x = wr := ⟨_, rfl⟩
          subst hW5
          obtain ⟨W6, hW6⟩ : ∃ W6, W5.alloc (.cells #[.int .i64 x.op, .int .u64 x.set.a, .int .u64 x.set.b, .int .u64 x.set.c, .int .u64 x.set.d, .slice x.kp x.kn x.kc] 45) = W6 := ⟨_, rfl⟩
          have hb6 : Below W5.heap.size W5 W6 := by rw [← hW6]; exact (Below.refl _ _).alloc (Nat.le_refl _) _
          have hbz : b < W5.heap.size := HI.out.1.lt
          have hT6 : Tl W6 b A (l1 + leavesN (ks.take j)) := HI.out.1.kept (hb6.block b hbz)
          have HX6 : Hid (W6.heap[W5.heap.size]? = some (.cells #[.int .i64 x.op, .int .u64 x.set.a, .int .u64 x.set.b, .int .u64 x.set.c, .int .u64 x.set.d, .slice x.kp x.kn x.kc] 45 (0, 0))) := Lib.hid (by rw [← hW6]; exact mt_heap_new _ _)
          have HW6 := Lib.hid hW6
          have HB6 := Lib.hid hb6
          have HHA := Lib.hid hA
          have a0 : W6.cell? ⟨b, 0, none⟩ = some (.int .i64 (A : Int)) := rg_cell hT6
          have aA : ¬ (2000 : Int) < (A : Int) := by have := hsum; have : 1 ≤ sizeN t := by (cases t; rw [sizeN]; omega)
                                                     omega
          have CK : Hid (Calls Tryz.prog 35 #[.pointer (some ⟨b, 0, none⟩), .agg #[.int .i64 x.op, .int .u64 x.set.a, .int .u64 x.set.b, .int .u64 x.set.c, .int .u64 x.set.d, .slice x.kp x.kn x.kc]] W6 fun e w' => e = .returned (.tuple #[]) ∧ Tl w' b (A + sizeN t) (l1 + leavesN (ks.take j) + leafN t) ∧ Onl b W6 w') := Lib.hid
            (HCC.out t htm W6 b A _ x (fun g => K g ∧ g < w.heap.size) hT6 (HTR.out.kept (fun g _ hl => hb6.block g hl) (fun g hg _ => hg)) (fun g hg _ => HKN.out g hg.1 hg.2) hsum (by have := HLV.out.1; have := HHA.out; omega))
          clear hT6 hb6 hW6 hA hsum hTK ht htm hc6 htr HTR hKg
          go_upto_region 7 with fail
          rw [HW6.out]
          clear HW6
          go_upto_region 8 with fail
          have z0 : W6.cell? ⟨W5.heap.size, 0, none⟩ = some (.int .i64 x.op) := rg_cell HX6.out
          have z1 : W6.cell? ⟨W5.heap.size, 1, none⟩ = some (.int .u64 x.set.a) := rg_cell HX6.out
          have z2 : W6.cell? ⟨W5.heap.size, 2, none⟩ = some (.int .u64 x.set.b) := rg_cell HX6.out
          have z3 : W6.cell? ⟨W5.heap.size, 3, none⟩ = some (.int .u64 x.set.c) := rg_cell HX6.out
          have z4 : W6.cell? ⟨W5.heap.size, 4, none⟩ = some (.int .u64 x.set.d) := rg_cell HX6.out
          have z5 : W6.cell? ⟨W5.heap.size, 5, none⟩ = some (.slice x.kp x.kn x.kc) := rg_cell HX6.out
          go_wp2_with fail
          refine CK.out.mono ?_
          rintro e w7 ⟨rfl, ht7, ho7⟩
          have HN : Hid (Tl w7 b (a + 1 + sizesN (ks.take (j + 1))) (l1 + leavesN (ks.take (j + 1))) ∧ Onl b w w7) := Lib.hid ⟨by
            rw [HLV.out.2.1, HLV.out.2.2]
            have e1 : a + 1 + (sizesN (ks.take j) + sizeN t) = A + sizeN t := by have := HHA.out; omega
            have e2 : l1 + (leavesN (ks.take j) + leafN t) = l1 + leavesN (ks.take j) + leafN t := by omega
            rw [e1, e2]; exact ht7, (HI.out.2.trans (Onl.of_below HB6.out (Nat.le_refl _))).trans ho7⟩
          clear ht7 ho7 HI HLV HB6 HHA CK
          go_wp2_with fail
          refine ⟨⟨j + 1, by omega, by simp, HN⟩, ?_⟩
          simp [intOf]; omega
        · have hji : ¬ (j : Int) < (ks.length : Int) := by omega
          obtain rfl : j = ks.length := by omega
          rw [List.take_length] at HI
          go_wp2_with fail
          go_end0
          refine ⟨rfl, ?_, HI.out.2⟩
          rw [show a + (1 + sizesN ks) = a + 1 + sizesN ks by omega]
          exact HI.out.1
    · rw [if_neg h1] at hl1
      rw [HZ.out.1]
      have HR1 := Lib.hid (HR0.out (W0.setCell ⟨b, 0, none⟩ (.int .i64 ((a + 1 : Nat) : Int))) (by rw [← hl1]; exact HT0.out.set0 (a + 1)) ((Onl.refl _ _).setCell _ _))
      have e1 : ((a + 1 : Nat) : Int) = (a : Int) + 1 := by omega
      have ho1 : ((op : Int) == 1) = false := by simp; omega
      rw [e1] at HR1
      clear HR0 HT0 e1 hl1 hop h1
      go_enter Tryz.func35, Tryz.ntmps35
      go_upto_region 1 with fail
      rw [HW0.out]
      clear HW0
      go_wp2_with fail
      go_loopw [26] (fun iv wr => ∃ j : Nat, j ≤ ks.length ∧ iv = .int .i64 (j : Int) ∧ Hid (Tl wr b (a + 1 + sizesN (ks.take j)) (l1 + leavesN (ks.take j)) ∧ Onl b w wr)) (fun iv _ => ks.length - (intOf iv).toNat)
      case atStart => exact ⟨0, Nat.zero_le _, rfl, HR1⟩
      case round =>
        clear HR1
        obtain ⟨j, hj, rfl, HI⟩ := hrel
        by_cases hjl : j < ks.length
        · have hji : (j : Int) < (ks.length : Int) := by omega
          obtain ⟨t, ht⟩ : ∃ t, ks[j]? = some t := ⟨ks[j], List.getElem?_eq_getElem hjl⟩
          have htm : t ∈ ks := List.mem_of_getElem? ht
          obtain ⟨g, x, hkp, hKg, hgl9, hc6, htr⟩ := HKS.out j t ht
          have hng := HKN.out g hKg hgl9
          have hTK : ks.take (j + 1) = ks.take j ++ [t] := by rw [List.take_add_one, ht]; rfl
          have hsum : a + 1 + sizesN (ks.take j) + sizeN t ≤ 2000 := by
            have h2 : sizesN (ks.take (j + 1)) ≤ sizesN ks := by
              conv => rhs; rw [← List.take_append_drop (j + 1) ks]
              rw [sizesN_append]; omega
            rw [hTK, sizesN_append] at h2
            have := HA.out
            simp [sizesN] at h2
            omega
          have HLV : Hid (l1 + leavesN (ks.take j) ≤ a + 1 + sizesN (ks.take j) ∧ sizesN (ks.take (j + 1)) = sizesN (ks.take j) + sizeN t ∧ leavesN (ks.take (j + 1)) = leavesN (ks.take j) + leafN t) := Lib.hid (by
            refine ⟨?_, by rw [hTK, sizesN_append]; simp [sizesN], by rw [hTK, leavesN_append]; simp [leavesN]⟩
            have h3 := leaves_le_size (ks.take j)
            have := HZ.out.2
            omega)
          have hcw : Cells6 wr g (j * 6) x := hc6.kept (HI.out.2.block g hgl9 hng)
          obtain ⟨k0, k1, k2, k3, k4, k5⟩ := hcw
          have HTR : Hid (TreeN wr (fun g => K g ∧ g < w.heap.size) t x) := Lib.hid (htr.kept (fun g hg hl => HI.out.2.block g hl (HKN.out g hg hl)) (fun g hg hl => ⟨hg, hl⟩))
          subst hkp
          obtain ⟨A, hA⟩ : ∃ A, a + 1 + sizesN (ks.take j) = A := ⟨_, rfl⟩
          rw [hA] at HI hsum
          obtain ⟨W5, hW5⟩ : ∃ x, x = wr := ⟨_, rfl⟩
          subst hW5
          obtain ⟨W6, hW6⟩ : ∃ W6, W5.alloc (.cells #[.int .i64 x.op, .int .u64 x.set.a, .int .u64 x.set.b, .int .u64 x.set.c, .int .u64 x.set.d, .slice x.kp x.kn x.kc] 45) = W6 := ⟨_, rfl⟩
          have hb6 : Below W5.heap.size W5 W6 := by rw [← hW6]; exact (Below.refl _ _).alloc (Nat.le_refl _) _
          have hbz : b < W5.heap.size := HI.out.1.lt
          have hT6 : Tl W6 b A (l1 + leavesN (ks.take j)) := HI.out.1.kept (hb6.block b hbz)
          have HX6 : Hid (W6.heap[W5.heap.size]? = some (.cells #[.int .i64 x.op, .int .u64 x.set.a, .int .u64 x.set.b, .int .u64 x.set.c, .int .u64 x.set.d, .slice x.kp x.kn x.kc] 45 (0, 0))) := Lib.hid (by rw [← hW6]; exact mt_heap_new _ _)
          have HW6 := Lib.hid hW6
          have HB6 := Lib.hid hb6
          have HHA := Lib.hid hA
          have a0 : W6.cell? ⟨b, 0, none⟩ = some (.int .i64 (A : Int)) := rg_cell hT6
          have aA : ¬ (2000 : Int) < (A : Int) := by have := hsum; have : 1 ≤ sizeN t := by (cases t; rw [sizeN]; omega)
                                                     omega
          have CK : Hid (Calls Tryz.prog 35 #[.pointer (some ⟨b, 0, none⟩), .agg #[.int .i64 x.op, .int .u64 x.set.a, .int .u64 x.set.b, .int .u64 x.set.c, .int .u64 x.set.d, .slice x.kp x.kn x.kc]] W6 fun e w' => e = .returned (.tuple #[]) ∧ Tl w' b (A + sizeN t) (l1 + leavesN (ks.take j) + leafN t) ∧ Onl b W6 w') := Lib.hid
            (HCC.out t htm W6 b A _ x (fun g => K g ∧ g < w.heap.size) hT6 (HTR.out.kept (fun g _ hl => hb6.block g hl) (fun g hg _ => hg)) (fun g hg _ => HKN.out g hg.1 hg.2) hsum (by have := HLV.out.1; have := HHA.out; omega))
          clear hT6 hb6 hW6 hA hsum hTK ht htm hc6 htr HTR hKg
          go_upto_region 7 with fail
          rw [HW6.out]
          clear HW6
          go_upto_region 8 with fail
          have z0 : W6.cell? ⟨W5.heap.size, 0, none⟩ = some (.int .i64 x.op) := rg_cell HX6.out
          have z1 : W6.cell? ⟨W5.heap.size, 1, none⟩ = some (.int .u64 x.set.a) := rg_cell HX6.out
          have z2 : W6.cell? ⟨W5.heap.size, 2, none⟩ = some (.int .u64 x.set.b) := rg_cell HX6.out
          have z3 : W6.cell? ⟨W5.heap.size, 3, none⟩ = some (.int .u64 x.set.c) := rg_cell HX6.out
          have z4 : W6.cell? ⟨W5.heap.size, 4, none⟩ = some (.int .u64 x.set.d) := rg_cell HX6.out
          have z5 : W6.cell? ⟨W5.heap.size, 5, none⟩ = some (.slice x.kp x.kn x.kc) := rg_cell HX6.out
          go_wp2_with fail
          refine CK.out.mono ?_
          rintro e w7 ⟨rfl, ht7, ho7⟩
          have HN : Hid (Tl w7 b (a + 1 + sizesN (ks.take (j + 1))) (l1 + leavesN (ks.take (j + 1))) ∧ Onl b w w7) := Lib.hid ⟨by
            rw [HLV.out.2.1, HLV.out.2.2]
            have e1 : a + 1 + (sizesN (ks.take j) + sizeN t) = A + sizeN t := by have := HHA.out; omega
            have e2 : l1 + (leavesN (ks.take j) + leafN t) = l1 + leavesN (ks.take j) + leafN t := by omega
            rw [e1, e2]; exact ht7, (HI.out.2.trans (Onl.of_below HB6.out (Nat.le_refl _))).trans ho7⟩
          clear ht7 ho7 HI HLV HB6 HHA CK
          go_wp2_with fail
          refine ⟨⟨j + 1, by omega, by simp, HN⟩, ?_⟩
          simp [intOf]; omega
        · have hji : ¬ (j : Int) < (ks.length : Int) := by omega
          obtain rfl : j = ks.length := by omega
          rw [List.take_length] at HI
          go_wp2_with fail
          go_end0
          refine ⟨rfl, ?_, HI.out.2⟩
          rw [show a + (1 + sizesN ks) = a + 1 + sizesN ks by omega]
          exact HI.out.1
termination_by t => SizeOf.sizeOf t
decreasing_by
  have := List.sizeOf_lt_of_mem ht
  simp
  omega
end Go.Proofs.YtmlpkimbcjkbkaaGreatDoor
