/-
  THE WALK of scribelaw09.RegexSets: it returns true and writes to nothing that was there.
-/
import Derived.Test.YtgdalmdjbakbdaaRgRf5
import Derived.Test.YtgdalmdjbakbdaaRgL
import Derived.Test.YtgdalmdjbakbdaaRgNW
import Derived.Test.YtgdalmdjbakbdaaOrd
import Derived.Deep.RegionHeld3
namespace Go.Proofs.Ytgdalmdjbakbdaa
open Go.RowKit

theorem partN_congr (f g : Nat → Bool) (c : Nat) (h : ∀ x, x ≤ c + 3 → f x = g x) : ∀ i, partN f c i = partN g c i
  | 0 => rfl
  | i + 1 => by
    show 2 * partN f c i + _ = 2 * partN g c i + _
    rw [partN_congr f g c h i, h (c + 3 - i) (by omega)]
theorem digsN_congr (f g : Nat → Bool) (h : ∀ x, x < 256 → f x = g x) : digsN f 64 = digsN g 64 := by
  unfold digsN
  apply List.map_congr_left
  intro i hi
  have hi2 : i < 64 := by simpa using hi
  rw [partN_congr f g _ (fun x hx => h x (by omega))]
theorem hasC_bytes (l : List UInt8) (nt : Bool) (x : Nat) (hx : x < 256) : hasC (bytesN l nt 256) x = (hasC l x != nt) := by
  rw [Bool.eq_iff_iff]
  unfold hasC bytesN
  rw [List.any_eq_true]
  constructor
  · rintro ⟨b, hb, e⟩
    obtain ⟨c, hc, rfl⟩ := List.mem_map.1 hb
    obtain ⟨h1, h2⟩ := List.mem_filter.1 hc
    have h3 : c < 256 := by simpa using h1
    have e2 : (UInt8.ofNat c).toNat = x := by simpa using e
    rw [UInt8.toNat_ofNat'] at e2
    have e3 : c = x := by omega
    subst e3
    exact h2
  · intro h
    refine ⟨UInt8.ofNat x, List.mem_map.2 ⟨x, List.mem_filter.2 ⟨by simpa using hx, h⟩, rfl⟩, ?_⟩
    have : (UInt8.ofNat x).toNat = x := by rw [UInt8.toNat_ofNat']; omega
    simp [this]
/-- What lies in memory behind the loop. -/
structure SetsS (w0 : World) (g1 g8 g9 : Nat) (S : W4) (W : World) : Prop where
  s : Blk4 W g1 S
  n : BlkN W g8 ⟨1, S, none, 0, 0⟩
  m : BlkN W g9 ⟨1, notW S, none, 0, 0⟩
  bel : Below w0.heap.size w0 W
theorem SetsS.below {w0 : World} {g1 g8 g9 : Nat} {S : W4} {W W' : World} (h : SetsS w0 g1 g8 g9 S W) (hb : Below W.heap.size W W') : SetsS w0 g1 g8 g9 S W' :=
  ⟨h.s.below hb, h.n.below hb, h.m.below hb, h.bel.trans (hb.mono h.bel.size)⟩
theorem SetsS.drew {w0 : World} {g1 g8 g9 : Nat} {S : W4} {W : World} (h : SetsS w0 g1 g8 g9 S W) : SetsS w0 g1 g8 g9 S W.drew := h.below (Below.refl _ _).drew
set_option maxHeartbeats 8000000 in
set_option maxRecDepth 100000 in
theorem sets_walk (s0 : ByteArray) (w0 : s0.size ≤ maxLen) (c : UInt8) (w : World) :
    Calls Try.prog 4 #[.string s0, .int .u8 (c.toNat : Int)] w fun e w' => e = .returned (.bool true) ∧ Below w.heap.size w w' := by
  have C0 : Hid (∀ W, Calls Try.prog 9 #[.string s0, .int .i64 300] W fun e w' => e = .returned (.string (cutB s0 300)) ∧ W = w') := Lib.hid fun W => cut_any s0 300 W w0 (by omega)
  have hts := cutB_size s0 300
  generalize cutB s0 300 = s at *
  have AW := Lib.hid ragwake_any
  have WI := Lib.hid rwith_any
  clear w0
  have hcb := c.toNat_lt
  go_enter Try.func4, Try.ntmps4
  go_wp2_with ((with_reducible refine (C0.out _).mono ?_); rintro e w' ⟨rfl, rfl⟩)
  clear C0
  have HB0 := Lib.hid (show Below w.heap.size w (w.alloc (.cells #[.int .u64 0, .int .u64 0, .int .u64 0, .int .u64 0] 25)) from (Below.refl _ _).alloc (Nat.le_refl _) _)
  have HS0 := Lib.hid (show Blk4 (w.alloc (.cells #[.int .u64 0, .int .u64 0, .int .u64 0, .int .u64 0] 25)) w.heap.size W4.zero from heap_alloc_new w _)
  go_loopw [6, 7] (fun bv iv wr => ∃ (j : Nat) (S : W4), j ≤ s.size ∧ bv = .bool (hasC (s.data.toList.take j) c.toNat) ∧ iv = .int .i64 (j : Int) ∧ Hid (StF (hasC (s.data.toList.take j)) S) ∧ Hid (Blk4 wr w.heap.size S) ∧ Hid (Below w.heap.size w wr)) (fun _ iv _ => s.size - (intOf iv).toNat)
  case atStart => exact ⟨0, W4.zero, Nat.zero_le _, rfl, rfl, Lib.hid StF.zero, HS0, HB0⟩
  case round =>
    clear HB0 HS0
    obtain ⟨j, S, hj, rfl, rfl, HF, HS, HB⟩ := hrel
    by_cases hjl : j < s.size
    · have hji : (j : Int) < (s.size : Int) := by omega
      have hj0 : 0 ≤ (j : Int) := by omega
      have hjb : (j : Int) ≤ 300 := by omega
      have HTK := Lib.hid (fun z => hasC_take s z j hjl)
      obtain ⟨x, hx⟩ : ∃ x, s[j] = x := ⟨_, rfl⟩
      rw [hx] at HTK
      have HF2 := Lib.hid (show StF (hasC (s.data.toList.take (j + 1))) (withW S x) from by
        have h := HF.out.with x
        rw [show hasC (s.data.toList.take (j + 1)) = fun z => hasC (s.data.toList.take j) z || (x.toNat == z) from funext HTK.out]
        exact h)
      have HT1 := Lib.hid (HTK.out c.toNat)
      obtain ⟨o, ho⟩ : ∃ o, hasC (s.data.toList.take j) c.toNat = o := ⟨_, rfl⟩
      rw [ho] at HT1 ⊢
      have hxb := x.toNat_lt
      clear ho HTK HF
      go_wp2_with fail
      refine wp_region_L (st := [5]) (S := fun w' => Blk4 w' w.heap.size S) (by kernel_rfl) (show Blk4 wr.drew w.heap.size S from HS.out) (fun hHeld => ?_)
      refine wpAnyL_take (i := 0) (oi := _) (v := ?_) rfl (by kernel_rfl) (by kernel_rfl) (by kernel_rfl) (by decide) (by kernel_rfl) (by kernel_rfl) (by kernel_rfl) (fun _ _ _ h => h) (Or.inl ⟨by rfl, ?_⟩) (by assumption) ?_
      rotate_left
      · (intro w hSw; (obtain ⟨q0, q1, q2, q3, _, _, _, _⟩ := Blk4.cells hSw); go_simp; try with_reducible rfl)
      try simp only [List.getElem_toArray, List.getElem_cons_zero, Act.put, List.setIfInBounds_toArray, List.set_cons_zero, List.set_cons_succ]
      refine wpAnyL_take (i := 1) (oi := _) (v := ?_) rfl (by kernel_rfl) (by kernel_rfl) (by kernel_rfl) (by decide) (by kernel_rfl) (by kernel_rfl) (by kernel_rfl) (fun _ _ _ h => h) (Or.inl ⟨by rfl, ?_⟩) (by assumption) ?_
      rotate_left
      · (intro w hSw; (obtain ⟨q0, q1, q2, q3, _, _, _, _⟩ := Blk4.cells hSw); go_simp; try with_reducible rfl)
      try simp only [List.getElem_toArray, List.getElem_cons_zero, List.getElem_cons_succ, Act.put, List.setIfInBounds_toArray, List.set_cons_zero, List.set_cons_succ]
      refine wpAnyL_take (i := 2) (oi := _) (v := ?_) rfl (by kernel_rfl) (by kernel_rfl) (by kernel_rfl) (by decide) (by kernel_rfl) (by kernel_rfl) (by kernel_rfl) (fun _ _ _ h => h) (Or.inl ⟨by rfl, ?_⟩) (by assumption) ?_
      rotate_left
      · (intro w hSw; (obtain ⟨q0, q1, q2, q3, _, _, _, _⟩ := Blk4.cells hSw); go_simp; try with_reducible rfl)
      try simp only [List.getElem_toArray, List.getElem_cons_zero, List.getElem_cons_succ, Act.put, List.setIfInBounds_toArray, List.set_cons_zero, List.set_cons_succ]
      refine wpAnyL_take (i := 3) (oi := _) (v := ?_) rfl (by kernel_rfl) (by kernel_rfl) (by kernel_rfl) (by decide) (by kernel_rfl) (by kernel_rfl) (by kernel_rfl) (fun _ _ _ h => h) (Or.inl ⟨by rfl, ?_⟩) (by assumption) ?_
      rotate_left
      · (intro w hSw; (obtain ⟨q0, q1, q2, q3, _, _, _, _⟩ := Blk4.cells hSw); go_simp; try with_reducible rfl)
      try simp only [List.getElem_toArray, List.getElem_cons_zero, List.getElem_cons_succ, Act.put, List.setIfInBounds_toArray, List.set_cons_zero, List.set_cons_succ]
      refine wpAnyL_ready (rs := [4]) (by kernel_rfl) (by simp) ?_
      refine AllReadyL.cons (o := _) rfl (fun K hK => ?_) AllReadyL.nil
      go_simp
      refine (WI.out _ _ _).mono ?_
      rintro e w9 ⟨rfl, hb9⟩
      have HC9 := Lib.hid (Blk4.below hHeld hb9)
      have HBB := Lib.hid (HB.out.drew.trans (hb9.mono HB.out.size))
      clear hb9
      unfold W4.val
      rw [show withW ⟨S.a, S.b, S.c, S.d⟩ x = withW S x from rfl]
      refine hK.out _ _ (HC9.out) (fun hHeld => ?_)
      clear hK K
      try simp only [List.getElem_toArray, List.getElem_cons_zero, List.getElem_cons_succ, Act.put, List.setIfInBounds_toArray, List.set_cons_zero, List.set_cons_succ]
      obtain ⟨q0, q1, q2, q3, p0, p1, p2, p3⟩ := HC9.out.cells
      refine wpAnyL_ready (rs := [5]) (by kernel_rfl) (by simp) ?_
      refine AllReadyL.store (o := _) rfl (by decide) (by decide) (fun K hK => ?_) AllReadyL.nil
      go_simp
      refine hK.out _ _ ?_
      clear hK K
      try simp only [List.getElem_toArray, List.getElem_cons_zero, List.getElem_cons_succ, Act.put, List.setIfInBounds_toArray, List.set_cons_zero, List.set_cons_succ]
      refine wpAnyL_done (by kernel_rfl) ?_ _
      have HS9 := Lib.hid (Blk4.put HC9.out (withW S x))
      have HB9 := Lib.hid (show Below w.heap.size w ((((w9.setCell ⟨w.heap.size, 0, none⟩ (.int .u64 (withW S x).a)).setCell ⟨w.heap.size, 1, none⟩ (.int .u64 (withW S x).b)).setCell ⟨w.heap.size, 2, none⟩ (.int .u64 (withW S x).c)).setCell ⟨w.heap.size, 3, none⟩ (.int .u64 (withW S x).d)) from (((HBB.out.setCell (Nat.le_refl _) _).setCell (Nat.le_refl _) _).setCell (Nat.le_refl _) _).setCell (Nat.le_refl _) _)
      cases o with
      | true =>
        go_wp2_with fail
        refine ⟨⟨j + 1, withW S x, by omega, by rw [HT1.out]; rfl, by simp, HF2, HS9, HB9⟩, ?_⟩
        simp [intOf]; omega
      | false =>
        by_cases he : x.toNat = c.toNat
        · have hbe : ((x.toNat : Int) == (c.toNat : Int)) = true := by rw [he]; simp
          have HBE : Hid ((x.toNat == c.toNat) = true) := Lib.hid (by simpa using he)
          clear he
          go_wp2_with fail
          refine ⟨⟨j + 1, withW S x, by omega, by rw [HT1.out, HBE.out]; simp, by simp, HF2, HS9, HB9⟩, ?_⟩
          simp [intOf]; omega
        · have hbe : ((x.toNat : Int) == (c.toNat : Int)) = false := by rw [Bool.eq_false_iff]; intro h; exact he (by have h2 : (x.toNat : Int) = c.toNat := (by simpa using h); omega)
          have HBE : Hid ((x.toNat == c.toNat) = false) := Lib.hid (by simpa using he)
          clear he
          go_wp2_with fail
          refine ⟨⟨j + 1, withW S x, by omega, by rw [HT1.out, HBE.out]; simp, by simp, HF2, HS9, HB9⟩, ?_⟩
          simp [intOf]; omega
    · have hji : ¬ (j : Int) < (s.size : Int) := by omega
      have htk : s.data.toList.take j = s.data.toList := List.take_of_length_le (by simp; omega)
      rw [htk] at HF ⊢
      clear htk WI
      obtain ⟨f, hf⟩ : ∃ f, hasC s.data.toList = f := ⟨_, rfl⟩
      have hfn : ∀ x, x < 256 → hasC (bytesN s.data.toList true 256) x = !f x := fun x hx => by rw [hasC_bytes _ _ x hx, hf]; cases f x <;> rfl
      have hBl := bytesN_len s.data.toList true 256
      obtain ⟨B2, hB2⟩ : ∃ B2 : ByteArray, ⟨(bytesN s.data.toList true 256).toArray⟩ = B2 := ⟨_, rfl⟩
      have hB2l : B2.data.toList = bytesN s.data.toList true 256 := by rw [← hB2]
      have hB2s : B2.size ≤ 256 := by rw [show B2.size = B2.data.toList.length from by simp, hB2l]; exact hBl
      obtain ⟨P1, hP1⟩ : ∃ P1 : ByteArray, ⟨(49 :: digsN f 64).toArray⟩ = P1 := ⟨_, rfl⟩
      obtain ⟨P2, hP2⟩ : ∃ P2 : ByteArray, ⟨(49 :: digsN (fun c => !f c) 64).toArray⟩ = P2 := ⟨_, rfl⟩
      have HFS := HF.out
      rw [hf] at HFS
      have HAS1 := Lib.hid (show ∀ W, Calls Try.prog 17 #[.agg #[.int .u64 S.a, .int .u64 S.b, .int .u64 S.c, .int .u64 S.d], .int .u8 (c.toNat : Int)] W fun e w' => e = .returned (.bool (f c.toNat)) ∧ Below W.heap.size W w' from fun W => rhas_any f S HFS c W)
      have HAS2 := Lib.hid (show ∀ W, Calls Try.prog 17 #[.agg #[.int .u64 (notW S).a, .int .u64 (notW S).b, .int .u64 (notW S).c, .int .u64 (notW S).d], .int .u8 (c.toNat : Int)] W fun e w' => e = .returned (.bool (!f c.toNat)) ∧ Below W.heap.size W w' from fun W => rhas_any _ (notW S) HFS.not c W)
      have NOT1 := Lib.hid (show ∀ W, Calls Try.prog 16 #[.agg #[.int .u64 S.a, .int .u64 S.b, .int .u64 S.c, .int .u64 S.d]] W fun e w' => e = .returned (.agg #[.int .u64 (notW S).a, .int .u64 (notW S).b, .int .u64 (notW S).c, .int .u64 (notW S).d]) ∧ Below W.heap.size W w' from fun W => rnot_any S W)
      have NOT2 := Lib.hid (show ∀ W, Calls Try.prog 16 #[.agg #[.int .u64 (notW S).a, .int .u64 (notW S).b, .int .u64 (notW S).c, .int .u64 (notW S).d]] W fun e w' => e = .returned (.agg #[.int .u64 S.a, .int .u64 S.b, .int .u64 S.c, .int .u64 S.d]) ∧ Below W.heap.size W w' from fun W => by have h := rnot_any (notW S) W; rw [HFS.notnot] at h; exact h)
      have hp1 : ∀ T f2, StF f2 T → (⟨(printL (.mk 1 T [])).toArray⟩ : ByteArray) = ⟨(49 :: digsN f2 64).toArray⟩ := fun T f2 h => by rw [printL_eq, show setL 1 T = hex4 T from rfl, h.hex, show kidsL [] = [] from by rw [kidsL], List.append_nil]; rfl
      have PR1 := Lib.hid (show ∀ W, Calls Try.prog 13 #[.agg #[.int .i64 1, .int .u64 S.a, .int .u64 S.b, .int .u64 S.c, .int .u64 S.d, .slice none 0 0]] W fun e w' => e = .returned (.string P1) ∧ Below W.heap.size W w' from fun W => by rw [← hP1, ← hp1 S f HFS]; exact rPrint_any (.mk 1 S []) ⟨1, S, none, 0, 0⟩ W (fun _ => True) (TreeN.leaf W _ 1 S) (Nat.le_trans (leaf_len 1 S) (by omega)))
      have PR2 := Lib.hid (show ∀ W, Calls Try.prog 13 #[.agg #[.int .i64 1, .int .u64 (notW S).a, .int .u64 (notW S).b, .int .u64 (notW S).c, .int .u64 (notW S).d, .slice none 0 0]] W fun e w' => e = .returned (.string P2) ∧ Below W.heap.size W w' from fun W => by rw [← hP2, ← hp1 (notW S) _ HFS.not]; exact rPrint_any (.mk 1 (notW S) []) ⟨1, notW S, none, 0, 0⟩ W (fun _ => True) (TreeN.leaf W _ 1 (notW S)) (Nat.le_trans (leaf_len 1 (notW S)) (by omega)))
      have RP1 := Lib.hid (show ∀ W, Calls Try.prog 14 #[.agg #[.int .i64 1, .string s, .slice none 0 0]] W fun e w' => e = .returned (.string P1) ∧ Below W.heap.size W w' from fun W => by rw [← hP1, ← hf]; exact rfprint_set s (by omega) W)
      have RP2 := Lib.hid (show ∀ W, Calls Try.prog 14 #[.agg #[.int .i64 1, .string B2, .slice none 0 0]] W fun e w' => e = .returned (.string P2) ∧ Below W.heap.size W w' from fun W => by have h := rfprint_set B2 (by omega) W; rw [hB2l, digsN_congr _ _ hfn, hP2] at h; exact h)
      have BY := Lib.hid (show ∀ W, Calls Try.prog 18 #[.string s, .bool true] W fun e w' => e = .returned (.string B2) ∧ Below W.heap.size W w' from fun W => by rw [← hB2]; exact rbytes_any s true (by omega) W)
      have EQS := run_eq_set S.a S.b S.c S.d
      rw [hf]
      clear hf hfn hBl hB2 hB2l hB2s hP1 hP2 hp1 HFS HF
      obtain ⟨o, ho⟩ : ∃ o, f c.toNat = o := ⟨_, rfl⟩
      rw [ho] at HAS1 HAS2 ⊢
      clear ho
      obtain ⟨q0, q1, q2, q3, _, _, _, _⟩ := HS.out.cells
      have hgl : w.heap.size < wr.heap.size := HS.out.lt
      go_wp2_with fail
      refine (NOT1.out _).mono ?_
      rintro e w4 ⟨rfl, hb4⟩
      have HSS := Lib.hid (show SetsS w w.heap.size wr.heap.size w4.heap.size S (w4.alloc (.cells #[.int .i64 1, .int .u64 (notW S).a, .int .u64 (notW S).b, .int .u64 (notW S).c, .int .u64 (notW S).d, .slice none 0 0] 28)) from by
        have h1 := HS.out.alloc (.cells #[.int .i64 1, .int .u64 S.a, .int .u64 S.b, .int .u64 S.c, .int .u64 S.d, .slice none 0 0] 28)
        have h2 : BlkN (wr.alloc (.cells #[.int .i64 1, .int .u64 S.a, .int .u64 S.b, .int .u64 S.c, .int .u64 S.d, .slice none 0 0] 28)) wr.heap.size ⟨1, S, none, 0, 0⟩ := heap_alloc_new wr _
        have h3 := HB.out.alloc HB.out.size (.cells #[.int .i64 1, .int .u64 S.a, .int .u64 S.b, .int .u64 S.c, .int .u64 S.d, .slice none 0 0] 28)
        have h4 := h3.trans (hb4.mono h3.size)
        exact ⟨(h1.below hb4).alloc _, (h2.below hb4).alloc _, heap_alloc_new w4 _, h4.alloc h4.size _⟩)
      clear hb4 HS HB q0 q1 q2 q3 hgl
      go_wp2_with fail
      generalize hwc : w4.alloc (.cells #[.int .i64 1, .int .u64 (notW S).a, .int .u64 (notW S).b, .int .u64 (notW S).c, .int .u64 (notW S).d, .slice none 0 0] 28) = wc at *
      generalize wr.heap.size = g8 at *
      generalize w4.heap.size = g9 at *
      clear hwc
      rcases o with _ | _
      · skip
        refine wp_region_held_drew (S := fun w' => SetsS w w.heap.size g8 g9 S w') (by kernel_rfl) (SetsS.drew HSS.out) (fun hHeld => ?_)
        refine wpAnyH_ready (rs := [0]) (by kernel_rfl) (by simp) ?_
        refine AllReadyH.cons (o := _) rfl (fun K hK => ?_) AllReadyH.nil
        go_simp
        refine (AW.out _).mono ?_
        rintro e w8 ⟨rfl, hb8⟩
        refine hK.out _ _ (hHeld.below hb8) (fun hHeld => ?_)
        clear hK K
        try simp only [List.getElem_toArray, List.getElem_cons_zero, List.getElem_cons_succ, Act.put, List.setIfInBounds_toArray, List.set_cons_zero, List.set_cons_succ]
        refine wpAnyH_take (i := 1) (oi := _) (v := ?_) rfl (by kernel_rfl) (by kernel_rfl) (by kernel_rfl) (fun _ _ _ h => h) (Or.inl ⟨by rfl, ?_⟩) (by assumption) ?_
        rotate_left
        · (intro w hSw; (obtain ⟨⟨q0, q1, q2, q3, _, _, _, _⟩, ⟨r0, r1, r2, r3, r4, r5, _, _, _, _, _, _⟩, ⟨s0, s1, s2, s3, s4, s5, _, _, _, _, _, _⟩⟩ := And.intro (Blk4.cells hSw.s) (And.intro (BlkN.cells hSw.n) (BlkN.cells hSw.m))); go_simp; try with_reducible rfl)
        try simp only [List.getElem_toArray, List.getElem_cons_zero, List.getElem_cons_succ, Act.put, List.setIfInBounds_toArray, List.set_cons_zero, List.set_cons_succ]
        refine wpAnyH_take (i := 2) (oi := _) (v := ?_) rfl (by kernel_rfl) (by kernel_rfl) (by kernel_rfl) (fun _ _ _ h => h) (Or.inl ⟨by rfl, ?_⟩) (by assumption) ?_
        rotate_left
        · (intro w hSw; (obtain ⟨⟨q0, q1, q2, q3, _, _, _, _⟩, ⟨r0, r1, r2, r3, r4, r5, _, _, _, _, _, _⟩, ⟨s0, s1, s2, s3, s4, s5, _, _, _, _, _, _⟩⟩ := And.intro (Blk4.cells hSw.s) (And.intro (BlkN.cells hSw.n) (BlkN.cells hSw.m))); go_simp; try with_reducible rfl)
        try simp only [List.getElem_toArray, List.getElem_cons_zero, List.getElem_cons_succ, Act.put, List.setIfInBounds_toArray, List.set_cons_zero, List.set_cons_succ]
        refine wpAnyH_take (i := 3) (oi := _) (v := ?_) rfl (by kernel_rfl) (by kernel_rfl) (by kernel_rfl) (fun _ _ _ h => h) (Or.inl ⟨by rfl, ?_⟩) (by assumption) ?_
        rotate_left
        · (intro w hSw; (obtain ⟨⟨q0, q1, q2, q3, _, _, _, _⟩, ⟨r0, r1, r2, r3, r4, r5, _, _, _, _, _, _⟩, ⟨s0, s1, s2, s3, s4, s5, _, _, _, _, _, _⟩⟩ := And.intro (Blk4.cells hSw.s) (And.intro (BlkN.cells hSw.n) (BlkN.cells hSw.m))); go_simp; try with_reducible rfl)
        try simp only [List.getElem_toArray, List.getElem_cons_zero, List.getElem_cons_succ, Act.put, List.setIfInBounds_toArray, List.set_cons_zero, List.set_cons_succ]
        refine wpAnyH_take (i := 5) (oi := _) (v := ?_) rfl (by kernel_rfl) (by kernel_rfl) (by kernel_rfl) (fun _ _ _ h => h) (Or.inl ⟨by rfl, ?_⟩) (by assumption) ?_
        rotate_left
        · (intro w hSw; (obtain ⟨⟨q0, q1, q2, q3, _, _, _, _⟩, ⟨r0, r1, r2, r3, r4, r5, _, _, _, _, _, _⟩, ⟨s0, s1, s2, s3, s4, s5, _, _, _, _, _, _⟩⟩ := And.intro (Blk4.cells hSw.s) (And.intro (BlkN.cells hSw.n) (BlkN.cells hSw.m))); go_simp; try with_reducible rfl)
        try simp only [List.getElem_toArray, List.getElem_cons_zero, List.getElem_cons_succ, Act.put, List.setIfInBounds_toArray, List.set_cons_zero, List.set_cons_succ]
        refine wpAnyH_ready (rs := [4]) (by kernel_rfl) (by simp) ?_
        refine AllReadyH.cons (o := _) rfl (fun K hK => ?_) AllReadyH.nil
        go_simp
        refine (HAS1.out _).mono ?_
        rintro e w8 ⟨rfl, hb8⟩
        refine hK.out _ _ (hHeld.below hb8) (fun hHeld => ?_)
        clear hK K
        try simp only [List.getElem_toArray, List.getElem_cons_zero, List.getElem_cons_succ, Act.put, List.setIfInBounds_toArray, List.set_cons_zero, List.set_cons_succ]
        refine wpAnyH_take (i := 6) (oi := _) (v := ?_) rfl (by kernel_rfl) (by kernel_rfl) (by kernel_rfl) (fun _ _ _ h => h) (Or.inl ⟨by rfl, ?_⟩) (by assumption) ?_
        rotate_left
        · (intro w hSw; (obtain ⟨⟨q0, q1, q2, q3, _, _, _, _⟩, ⟨r0, r1, r2, r3, r4, r5, _, _, _, _, _, _⟩, ⟨s0, s1, s2, s3, s4, s5, _, _, _, _, _, _⟩⟩ := And.intro (Blk4.cells hSw.s) (And.intro (BlkN.cells hSw.n) (BlkN.cells hSw.m))); go_simp; try with_reducible rfl)
        try simp only [List.getElem_toArray, List.getElem_cons_zero, List.getElem_cons_succ, Act.put, List.setIfInBounds_toArray, List.set_cons_zero, List.set_cons_succ]
        refine wpAnyH_take (i := 7) (oi := _) (v := ?_) rfl (by kernel_rfl) (by kernel_rfl) (by kernel_rfl) (fun _ _ _ h => h) (Or.inl ⟨by rfl, ?_⟩) (by assumption) ?_
        rotate_left
        · (intro w hSw; (obtain ⟨⟨q0, q1, q2, q3, _, _, _, _⟩, ⟨r0, r1, r2, r3, r4, r5, _, _, _, _, _, _⟩, ⟨s0, s1, s2, s3, s4, s5, _, _, _, _, _, _⟩⟩ := And.intro (Blk4.cells hSw.s) (And.intro (BlkN.cells hSw.n) (BlkN.cells hSw.m))); go_simp; try with_reducible rfl)
        try simp only [List.getElem_toArray, List.getElem_cons_zero, List.getElem_cons_succ, Act.put, List.setIfInBounds_toArray, List.set_cons_zero, List.set_cons_succ]
        refine wpAnyH_take (i := 8) (oi := _) (v := ?_) rfl (by kernel_rfl) (by kernel_rfl) (by kernel_rfl) (fun _ _ _ h => h) (Or.inl ⟨by rfl, ?_⟩) (by assumption) ?_
        rotate_left
        · (intro w hSw; (obtain ⟨⟨q0, q1, q2, q3, _, _, _, _⟩, ⟨r0, r1, r2, r3, r4, r5, _, _, _, _, _, _⟩, ⟨s0, s1, s2, s3, s4, s5, _, _, _, _, _, _⟩⟩ := And.intro (Blk4.cells hSw.s) (And.intro (BlkN.cells hSw.n) (BlkN.cells hSw.m))); go_simp; try with_reducible rfl)
        try simp only [List.getElem_toArray, List.getElem_cons_zero, List.getElem_cons_succ, Act.put, List.setIfInBounds_toArray, List.set_cons_zero, List.set_cons_succ]
        refine wpAnyH_take (i := 9) (oi := _) (v := ?_) rfl (by kernel_rfl) (by kernel_rfl) (by kernel_rfl) (fun _ _ _ h => h) (Or.inl ⟨by rfl, ?_⟩) (by assumption) ?_
        rotate_left
        · (intro w hSw; (obtain ⟨⟨q0, q1, q2, q3, _, _, _, _⟩, ⟨r0, r1, r2, r3, r4, r5, _, _, _, _, _, _⟩, ⟨s0, s1, s2, s3, s4, s5, _, _, _, _, _, _⟩⟩ := And.intro (Blk4.cells hSw.s) (And.intro (BlkN.cells hSw.n) (BlkN.cells hSw.m))); go_simp; try with_reducible rfl)
        try simp only [List.getElem_toArray, List.getElem_cons_zero, List.getElem_cons_succ, Act.put, List.setIfInBounds_toArray, List.set_cons_zero, List.set_cons_succ]
        refine wpAnyH_take (i := 11) (oi := _) (v := ?_) rfl (by kernel_rfl) (by kernel_rfl) (by kernel_rfl) (fun _ _ _ h => h) (Or.inl ⟨by rfl, ?_⟩) (by assumption) ?_
        rotate_left
        · (intro w hSw; (obtain ⟨⟨q0, q1, q2, q3, _, _, _, _⟩, ⟨r0, r1, r2, r3, r4, r5, _, _, _, _, _, _⟩, ⟨s0, s1, s2, s3, s4, s5, _, _, _, _, _, _⟩⟩ := And.intro (Blk4.cells hSw.s) (And.intro (BlkN.cells hSw.n) (BlkN.cells hSw.m))); go_simp; try with_reducible rfl)
        try simp only [List.getElem_toArray, List.getElem_cons_zero, List.getElem_cons_succ, Act.put, List.setIfInBounds_toArray, List.set_cons_zero, List.set_cons_succ]
        refine wpAnyH_take (i := 13) (oi := _) (v := ?_) rfl (by kernel_rfl) (by kernel_rfl) (by kernel_rfl) (fun _ _ _ h => h) (Or.inl ⟨by rfl, ?_⟩) (by assumption) ?_
        rotate_left
        · (intro w hSw; (obtain ⟨⟨q0, q1, q2, q3, _, _, _, _⟩, ⟨r0, r1, r2, r3, r4, r5, _, _, _, _, _, _⟩, ⟨s0, s1, s2, s3, s4, s5, _, _, _, _, _, _⟩⟩ := And.intro (Blk4.cells hSw.s) (And.intro (BlkN.cells hSw.n) (BlkN.cells hSw.m))); go_simp; try with_reducible rfl)
        try simp only [List.getElem_toArray, List.getElem_cons_zero, List.getElem_cons_succ, Act.put, List.setIfInBounds_toArray, List.set_cons_zero, List.set_cons_succ]
        refine wpAnyH_take (i := 14) (oi := _) (v := ?_) rfl (by kernel_rfl) (by kernel_rfl) (by kernel_rfl) (fun _ _ _ h => h) (Or.inl ⟨by rfl, ?_⟩) (by assumption) ?_
        rotate_left
        · (intro w hSw; (obtain ⟨⟨q0, q1, q2, q3, _, _, _, _⟩, ⟨r0, r1, r2, r3, r4, r5, _, _, _, _, _, _⟩, ⟨s0, s1, s2, s3, s4, s5, _, _, _, _, _, _⟩⟩ := And.intro (Blk4.cells hSw.s) (And.intro (BlkN.cells hSw.n) (BlkN.cells hSw.m))); go_simp; try with_reducible rfl)
        try simp only [List.getElem_toArray, List.getElem_cons_zero, List.getElem_cons_succ, Act.put, List.setIfInBounds_toArray, List.set_cons_zero, List.set_cons_succ]
        refine wpAnyH_ready (rs := [10]) (by kernel_rfl) (by simp) ?_
        refine AllReadyH.cons (o := _) rfl (fun K hK => ?_) AllReadyH.nil
        go_simp
        refine (NOT1.out _).mono ?_
        rintro e w8 ⟨rfl, hb8⟩
        refine hK.out _ _ (hHeld.below hb8) (fun hHeld => ?_)
        clear hK K
        try simp only [List.getElem_toArray, List.getElem_cons_zero, List.getElem_cons_succ, Act.put, List.setIfInBounds_toArray, List.set_cons_zero, List.set_cons_succ]
        refine wpAnyH_ready (rs := [12]) (by kernel_rfl) (by simp) ?_
        refine AllReadyH.cons (o := _) rfl (fun K hK => ?_) AllReadyH.nil
        go_simp
        refine (HAS2.out _).mono ?_
        rintro e w8 ⟨rfl, hb8⟩
        refine hK.out _ _ (hHeld.below hb8) (fun hHeld => ?_)
        clear hK K
        try simp only [List.getElem_toArray, List.getElem_cons_zero, List.getElem_cons_succ, Act.put, List.setIfInBounds_toArray, List.set_cons_zero, List.set_cons_succ]
        refine wpAnyH_take (i := 15) (oi := _) (v := ?_) rfl (by kernel_rfl) (by kernel_rfl) (by kernel_rfl) (fun _ _ _ h => h) (Or.inl ⟨by rfl, ?_⟩) (by assumption) ?_
        rotate_left
        · (intro w hSw; (obtain ⟨⟨q0, q1, q2, q3, _, _, _, _⟩, ⟨r0, r1, r2, r3, r4, r5, _, _, _, _, _, _⟩, ⟨s0, s1, s2, s3, s4, s5, _, _, _, _, _, _⟩⟩ := And.intro (Blk4.cells hSw.s) (And.intro (BlkN.cells hSw.n) (BlkN.cells hSw.m))); go_simp; try with_reducible rfl)
        try simp only [List.getElem_toArray, List.getElem_cons_zero, List.getElem_cons_succ, Act.put, List.setIfInBounds_toArray, List.set_cons_zero, List.set_cons_succ]
        refine wpAnyH_take (i := 16) (oi := _) (v := ?_) rfl (by kernel_rfl) (by kernel_rfl) (by kernel_rfl) (fun _ _ _ h => h) (Or.inl ⟨by rfl, ?_⟩) (by assumption) ?_
        rotate_left
        · (intro w hSw; (obtain ⟨⟨q0, q1, q2, q3, _, _, _, _⟩, ⟨r0, r1, r2, r3, r4, r5, _, _, _, _, _, _⟩, ⟨s0, s1, s2, s3, s4, s5, _, _, _, _, _, _⟩⟩ := And.intro (Blk4.cells hSw.s) (And.intro (BlkN.cells hSw.n) (BlkN.cells hSw.m))); go_simp; try with_reducible rfl)
        try simp only [List.getElem_toArray, List.getElem_cons_zero, List.getElem_cons_succ, Act.put, List.setIfInBounds_toArray, List.set_cons_zero, List.set_cons_succ]
        refine wpAnyH_take (i := 17) (oi := _) (v := ?_) rfl (by kernel_rfl) (by kernel_rfl) (by kernel_rfl) (fun _ _ _ h => h) (Or.inl ⟨by rfl, ?_⟩) (by assumption) ?_
        rotate_left
        · (intro w hSw; (obtain ⟨⟨q0, q1, q2, q3, _, _, _, _⟩, ⟨r0, r1, r2, r3, r4, r5, _, _, _, _, _, _⟩, ⟨s0, s1, s2, s3, s4, s5, _, _, _, _, _, _⟩⟩ := And.intro (Blk4.cells hSw.s) (And.intro (BlkN.cells hSw.n) (BlkN.cells hSw.m))); go_simp; try with_reducible rfl)
        try simp only [List.getElem_toArray, List.getElem_cons_zero, List.getElem_cons_succ, Act.put, List.setIfInBounds_toArray, List.set_cons_zero, List.set_cons_succ]
        refine wpAnyH_take (i := 18) (oi := _) (v := ?_) rfl (by kernel_rfl) (by kernel_rfl) (by kernel_rfl) (fun _ _ _ h => h) (Or.inl ⟨by rfl, ?_⟩) (by assumption) ?_
        rotate_left
        · (intro w hSw; (obtain ⟨⟨q0, q1, q2, q3, _, _, _, _⟩, ⟨r0, r1, r2, r3, r4, r5, _, _, _, _, _, _⟩, ⟨s0, s1, s2, s3, s4, s5, _, _, _, _, _, _⟩⟩ := And.intro (Blk4.cells hSw.s) (And.intro (BlkN.cells hSw.n) (BlkN.cells hSw.m))); go_simp; try with_reducible rfl)
        try simp only [List.getElem_toArray, List.getElem_cons_zero, List.getElem_cons_succ, Act.put, List.setIfInBounds_toArray, List.set_cons_zero, List.set_cons_succ]
        refine wpAnyH_take (i := 21) (oi := _) (v := ?_) rfl (by kernel_rfl) (by kernel_rfl) (by kernel_rfl) (fun _ _ _ h => h) (Or.inl ⟨by rfl, ?_⟩) (by assumption) ?_
        rotate_left
        · (intro w hSw; (obtain ⟨⟨q0, q1, q2, q3, _, _, _, _⟩, ⟨r0, r1, r2, r3, r4, r5, _, _, _, _, _, _⟩, ⟨s0, s1, s2, s3, s4, s5, _, _, _, _, _, _⟩⟩ := And.intro (Blk4.cells hSw.s) (And.intro (BlkN.cells hSw.n) (BlkN.cells hSw.m))); go_simp; try with_reducible rfl)
        try simp only [List.getElem_toArray, List.getElem_cons_zero, List.getElem_cons_succ, Act.put, List.setIfInBounds_toArray, List.set_cons_zero, List.set_cons_succ]
        refine wpAnyH_ready (rs := [19]) (by kernel_rfl) (by simp) ?_
        refine AllReadyH.cons (o := _) rfl (fun K hK => ?_) AllReadyH.nil
        go_simp
        refine (NOT1.out _).mono ?_
        rintro e w8 ⟨rfl, hb8⟩
        refine hK.out _ _ (hHeld.below hb8) (fun hHeld => ?_)
        clear hK K
        try simp only [List.getElem_toArray, List.getElem_cons_zero, List.getElem_cons_succ, Act.put, List.setIfInBounds_toArray, List.set_cons_zero, List.set_cons_succ]
        refine wpAnyH_ready (rs := [20]) (by kernel_rfl) (by simp) ?_
        refine AllReadyH.cons (o := _) rfl (fun K hK => ?_) AllReadyH.nil
        go_simp
        refine (NOT2.out _).mono ?_
        rintro e w8 ⟨rfl, hb8⟩
        refine hK.out _ _ (hHeld.below hb8) (fun hHeld => ?_)
        clear hK K
        try simp only [List.getElem_toArray, List.getElem_cons_zero, List.getElem_cons_succ, Act.put, List.setIfInBounds_toArray, List.set_cons_zero, List.set_cons_succ]
        refine wpAnyH_take (i := 22) (oi := _) (v := ?_) rfl (by kernel_rfl) (by kernel_rfl) (by kernel_rfl) (fun _ _ _ h => h) (Or.inl ⟨by rfl, ?_⟩) (by assumption) ?_
        rotate_left
        · (intro w hSw; (obtain ⟨⟨q0, q1, q2, q3, _, _, _, _⟩, ⟨r0, r1, r2, r3, r4, r5, _, _, _, _, _, _⟩, ⟨s0, s1, s2, s3, s4, s5, _, _, _, _, _, _⟩⟩ := And.intro (Blk4.cells hSw.s) (And.intro (BlkN.cells hSw.n) (BlkN.cells hSw.m))); go_simp; (try rw [EQS]); try with_reducible rfl)
        try simp only [List.getElem_toArray, List.getElem_cons_zero, List.getElem_cons_succ, Act.put, List.setIfInBounds_toArray, List.set_cons_zero, List.set_cons_succ]
        refine wpAnyH_take (i := 23) (oi := _) (v := ?_) rfl (by kernel_rfl) (by kernel_rfl) (by kernel_rfl) (fun _ _ _ h => h) (Or.inl ⟨by rfl, ?_⟩) (by assumption) ?_
        rotate_left
        · (intro w hSw; (obtain ⟨⟨q0, q1, q2, q3, _, _, _, _⟩, ⟨r0, r1, r2, r3, r4, r5, _, _, _, _, _, _⟩, ⟨s0, s1, s2, s3, s4, s5, _, _, _, _, _, _⟩⟩ := And.intro (Blk4.cells hSw.s) (And.intro (BlkN.cells hSw.n) (BlkN.cells hSw.m))); go_simp; try with_reducible rfl)
        try simp only [List.getElem_toArray, List.getElem_cons_zero, List.getElem_cons_succ, Act.put, List.setIfInBounds_toArray, List.set_cons_zero, List.set_cons_succ]
        refine wpAnyH_take (i := 24) (oi := _) (v := ?_) rfl (by kernel_rfl) (by kernel_rfl) (by kernel_rfl) (fun _ _ _ h => h) (Or.inl ⟨by rfl, ?_⟩) (by assumption) ?_
        rotate_left
        · (intro w hSw; (obtain ⟨⟨q0, q1, q2, q3, _, _, _, _⟩, ⟨r0, r1, r2, r3, r4, r5, _, _, _, _, _, _⟩, ⟨s0, s1, s2, s3, s4, s5, _, _, _, _, _, _⟩⟩ := And.intro (Blk4.cells hSw.s) (And.intro (BlkN.cells hSw.n) (BlkN.cells hSw.m))); go_simp; try with_reducible rfl)
        try simp only [List.getElem_toArray, List.getElem_cons_zero, List.getElem_cons_succ, Act.put, List.setIfInBounds_toArray, List.set_cons_zero, List.set_cons_succ]
        refine wpAnyH_take (i := 25) (oi := _) (v := ?_) rfl (by kernel_rfl) (by kernel_rfl) (by kernel_rfl) (fun _ _ _ h => h) (Or.inl ⟨by rfl, ?_⟩) (by assumption) ?_
        rotate_left
        · (intro w hSw; (obtain ⟨⟨q0, q1, q2, q3, _, _, _, _⟩, ⟨r0, r1, r2, r3, r4, r5, _, _, _, _, _, _⟩, ⟨s0, s1, s2, s3, s4, s5, _, _, _, _, _, _⟩⟩ := And.intro (Blk4.cells hSw.s) (And.intro (BlkN.cells hSw.n) (BlkN.cells hSw.m))); go_simp; try with_reducible rfl)
        try simp only [List.getElem_toArray, List.getElem_cons_zero, List.getElem_cons_succ, Act.put, List.setIfInBounds_toArray, List.set_cons_zero, List.set_cons_succ]
        refine wpAnyH_take (i := 27) (oi := _) (v := ?_) rfl (by kernel_rfl) (by kernel_rfl) (by kernel_rfl) (fun _ _ _ h => h) (Or.inl ⟨by rfl, ?_⟩) (by assumption) ?_
        rotate_left
        · (intro w hSw; (obtain ⟨⟨q0, q1, q2, q3, _, _, _, _⟩, ⟨r0, r1, r2, r3, r4, r5, _, _, _, _, _, _⟩, ⟨s0, s1, s2, s3, s4, s5, _, _, _, _, _, _⟩⟩ := And.intro (Blk4.cells hSw.s) (And.intro (BlkN.cells hSw.n) (BlkN.cells hSw.m))); go_simp; try with_reducible rfl)
        try simp only [List.getElem_toArray, List.getElem_cons_zero, List.getElem_cons_succ, Act.put, List.setIfInBounds_toArray, List.set_cons_zero, List.set_cons_succ]
        refine wpAnyH_take (i := 28) (oi := _) (v := ?_) rfl (by kernel_rfl) (by kernel_rfl) (by kernel_rfl) (fun _ _ _ h => h) (Or.inl ⟨by rfl, ?_⟩) (by assumption) ?_
        rotate_left
        · (intro w hSw; (obtain ⟨⟨q0, q1, q2, q3, _, _, _, _⟩, ⟨r0, r1, r2, r3, r4, r5, _, _, _, _, _, _⟩, ⟨s0, s1, s2, s3, s4, s5, _, _, _, _, _, _⟩⟩ := And.intro (Blk4.cells hSw.s) (And.intro (BlkN.cells hSw.n) (BlkN.cells hSw.m))); go_simp; try with_reducible rfl)
        try simp only [List.getElem_toArray, List.getElem_cons_zero, List.getElem_cons_succ, Act.put, List.setIfInBounds_toArray, List.set_cons_zero, List.set_cons_succ]
        refine wpAnyH_ready (rs := [26]) (by kernel_rfl) (by simp) ?_
        refine AllReadyH.cons (o := _) rfl (fun K hK => ?_) AllReadyH.nil
        go_simp
        refine (PR1.out _).mono ?_
        rintro e w8 ⟨rfl, hb8⟩
        refine hK.out _ _ (hHeld.below hb8) (fun hHeld => ?_)
        clear hK K
        try simp only [List.getElem_toArray, List.getElem_cons_zero, List.getElem_cons_succ, Act.put, List.setIfInBounds_toArray, List.set_cons_zero, List.set_cons_succ]
        refine wpAnyH_ready (rs := [29]) (by kernel_rfl) (by simp) ?_
        refine AllReadyH.cons (o := _) rfl (fun K hK => ?_) AllReadyH.nil
        go_simp
        refine (RP1.out _).mono ?_
        rintro e w8 ⟨rfl, hb8⟩
        refine hK.out _ _ (hHeld.below hb8) (fun hHeld => ?_)
        clear hK K
        try simp only [List.getElem_toArray, List.getElem_cons_zero, List.getElem_cons_succ, Act.put, List.setIfInBounds_toArray, List.set_cons_zero, List.set_cons_succ]
        refine wpAnyH_take (i := 30) (oi := _) (v := ?_) rfl (by kernel_rfl) (by kernel_rfl) (by kernel_rfl) (fun _ _ _ h => h) (Or.inl ⟨by rfl, ?_⟩) (by assumption) ?_
        rotate_left
        · (intro w hSw; (obtain ⟨⟨q0, q1, q2, q3, _, _, _, _⟩, ⟨r0, r1, r2, r3, r4, r5, _, _, _, _, _, _⟩, ⟨s0, s1, s2, s3, s4, s5, _, _, _, _, _, _⟩⟩ := And.intro (Blk4.cells hSw.s) (And.intro (BlkN.cells hSw.n) (BlkN.cells hSw.m))); go_simp; (try rw [beq_self_eq_true]); try with_reducible rfl)
        try simp only [List.getElem_toArray, List.getElem_cons_zero, List.getElem_cons_succ, Act.put, List.setIfInBounds_toArray, List.set_cons_zero, List.set_cons_succ]
        refine wpAnyH_take (i := 31) (oi := _) (v := ?_) rfl (by kernel_rfl) (by kernel_rfl) (by kernel_rfl) (fun _ _ _ h => h) (Or.inl ⟨by rfl, ?_⟩) (by assumption) ?_
        rotate_left
        · (intro w hSw; (obtain ⟨⟨q0, q1, q2, q3, _, _, _, _⟩, ⟨r0, r1, r2, r3, r4, r5, _, _, _, _, _, _⟩, ⟨s0, s1, s2, s3, s4, s5, _, _, _, _, _, _⟩⟩ := And.intro (Blk4.cells hSw.s) (And.intro (BlkN.cells hSw.n) (BlkN.cells hSw.m))); go_simp; try with_reducible rfl)
        try simp only [List.getElem_toArray, List.getElem_cons_zero, List.getElem_cons_succ, Act.put, List.setIfInBounds_toArray, List.set_cons_zero, List.set_cons_succ]
        refine wpAnyH_take (i := 32) (oi := _) (v := ?_) rfl (by kernel_rfl) (by kernel_rfl) (by kernel_rfl) (fun _ _ _ h => h) (Or.inl ⟨by rfl, ?_⟩) (by assumption) ?_
        rotate_left
        · (intro w hSw; (obtain ⟨⟨q0, q1, q2, q3, _, _, _, _⟩, ⟨r0, r1, r2, r3, r4, r5, _, _, _, _, _, _⟩, ⟨s0, s1, s2, s3, s4, s5, _, _, _, _, _, _⟩⟩ := And.intro (Blk4.cells hSw.s) (And.intro (BlkN.cells hSw.n) (BlkN.cells hSw.m))); go_simp; try with_reducible rfl)
        try simp only [List.getElem_toArray, List.getElem_cons_zero, List.getElem_cons_succ, Act.put, List.setIfInBounds_toArray, List.set_cons_zero, List.set_cons_succ]
        refine wpAnyH_take (i := 33) (oi := _) (v := ?_) rfl (by kernel_rfl) (by kernel_rfl) (by kernel_rfl) (fun _ _ _ h => h) (Or.inl ⟨by rfl, ?_⟩) (by assumption) ?_
        rotate_left
        · (intro w hSw; (obtain ⟨⟨q0, q1, q2, q3, _, _, _, _⟩, ⟨r0, r1, r2, r3, r4, r5, _, _, _, _, _, _⟩, ⟨s0, s1, s2, s3, s4, s5, _, _, _, _, _, _⟩⟩ := And.intro (Blk4.cells hSw.s) (And.intro (BlkN.cells hSw.n) (BlkN.cells hSw.m))); go_simp; try with_reducible rfl)
        try simp only [List.getElem_toArray, List.getElem_cons_zero, List.getElem_cons_succ, Act.put, List.setIfInBounds_toArray, List.set_cons_zero, List.set_cons_succ]
        refine wpAnyH_take (i := 35) (oi := _) (v := ?_) rfl (by kernel_rfl) (by kernel_rfl) (by kernel_rfl) (fun _ _ _ h => h) (Or.inl ⟨by rfl, ?_⟩) (by assumption) ?_
        rotate_left
        · (intro w hSw; (obtain ⟨⟨q0, q1, q2, q3, _, _, _, _⟩, ⟨r0, r1, r2, r3, r4, r5, _, _, _, _, _, _⟩, ⟨s0, s1, s2, s3, s4, s5, _, _, _, _, _, _⟩⟩ := And.intro (Blk4.cells hSw.s) (And.intro (BlkN.cells hSw.n) (BlkN.cells hSw.m))); go_simp; try with_reducible rfl)
        try simp only [List.getElem_toArray, List.getElem_cons_zero, List.getElem_cons_succ, Act.put, List.setIfInBounds_toArray, List.set_cons_zero, List.set_cons_succ]
        refine wpAnyH_ready (rs := [34]) (by kernel_rfl) (by simp) ?_
        refine AllReadyH.cons (o := _) rfl (fun K hK => ?_) AllReadyH.nil
        go_simp
        refine (PR2.out _).mono ?_
        rintro e w8 ⟨rfl, hb8⟩
        refine hK.out _ _ (hHeld.below hb8) (fun hHeld => ?_)
        clear hK K
        try simp only [List.getElem_toArray, List.getElem_cons_zero, List.getElem_cons_succ, Act.put, List.setIfInBounds_toArray, List.set_cons_zero, List.set_cons_succ]
        refine wpAnyH_ready (rs := [36]) (by kernel_rfl) (by simp) ?_
        refine AllReadyH.cons (o := _) rfl (fun K hK => ?_) AllReadyH.nil
        go_simp
        refine (BY.out _).mono ?_
        rintro e w8 ⟨rfl, hb8⟩
        refine hK.out _ _ (hHeld.below hb8) (fun hHeld => ?_)
        clear hK K
        try simp only [List.getElem_toArray, List.getElem_cons_zero, List.getElem_cons_succ, Act.put, List.setIfInBounds_toArray, List.set_cons_zero, List.set_cons_succ]
        refine wpAnyH_take (i := 37) (oi := _) (v := ?_) rfl (by kernel_rfl) (by kernel_rfl) (by kernel_rfl) (fun _ _ _ h => h) (Or.inl ⟨by rfl, ?_⟩) (by assumption) ?_
        rotate_left
        · (intro w hSw; (obtain ⟨⟨q0, q1, q2, q3, _, _, _, _⟩, ⟨r0, r1, r2, r3, r4, r5, _, _, _, _, _, _⟩, ⟨s0, s1, s2, s3, s4, s5, _, _, _, _, _, _⟩⟩ := And.intro (Blk4.cells hSw.s) (And.intro (BlkN.cells hSw.n) (BlkN.cells hSw.m))); go_simp; try with_reducible rfl)
        try simp only [List.getElem_toArray, List.getElem_cons_zero, List.getElem_cons_succ, Act.put, List.setIfInBounds_toArray, List.set_cons_zero, List.set_cons_succ]
        refine wpAnyH_ready (rs := [38]) (by kernel_rfl) (by simp) ?_
        refine AllReadyH.cons (o := _) rfl (fun K hK => ?_) AllReadyH.nil
        go_simp
        refine (RP2.out _).mono ?_
        rintro e w8 ⟨rfl, hb8⟩
        refine hK.out _ _ (hHeld.below hb8) (fun hHeld => ?_)
        clear hK K
        try simp only [List.getElem_toArray, List.getElem_cons_zero, List.getElem_cons_succ, Act.put, List.setIfInBounds_toArray, List.set_cons_zero, List.set_cons_succ]
        refine wpAnyH_take (i := 39) (oi := _) (v := ?_) rfl (by kernel_rfl) (by kernel_rfl) (by kernel_rfl) (fun _ _ _ h => h) (Or.inl ⟨by rfl, ?_⟩) (by assumption) ?_
        rotate_left
        · (intro w hSw; (obtain ⟨⟨q0, q1, q2, q3, _, _, _, _⟩, ⟨r0, r1, r2, r3, r4, r5, _, _, _, _, _, _⟩, ⟨s0, s1, s2, s3, s4, s5, _, _, _, _, _, _⟩⟩ := And.intro (Blk4.cells hSw.s) (And.intro (BlkN.cells hSw.n) (BlkN.cells hSw.m))); go_simp; (try rw [beq_self_eq_true]); try with_reducible rfl)
        try simp only [List.getElem_toArray, List.getElem_cons_zero, List.getElem_cons_succ, Act.put, List.setIfInBounds_toArray, List.set_cons_zero, List.set_cons_succ]
        refine wpAnyH_take (i := 40) (oi := _) (v := ?_) rfl (by kernel_rfl) (by kernel_rfl) (by kernel_rfl) (fun _ _ _ h => h) (Or.inl ⟨by rfl, ?_⟩) (by assumption) ?_
        rotate_left
        · (intro w hSw; (obtain ⟨⟨q0, q1, q2, q3, _, _, _, _⟩, ⟨r0, r1, r2, r3, r4, r5, _, _, _, _, _, _⟩, ⟨s0, s1, s2, s3, s4, s5, _, _, _, _, _, _⟩⟩ := And.intro (Blk4.cells hSw.s) (And.intro (BlkN.cells hSw.n) (BlkN.cells hSw.m))); go_simp; try with_reducible rfl)
        try simp only [List.getElem_toArray, List.getElem_cons_zero, List.getElem_cons_succ, Act.put, List.setIfInBounds_toArray, List.set_cons_zero, List.set_cons_succ]
        refine wpAnyH_take (i := 41) (oi := _) (v := ?_) rfl (by kernel_rfl) (by kernel_rfl) (by kernel_rfl) (fun _ _ _ h => h) (Or.inl ⟨by rfl, ?_⟩) (by assumption) ?_
        rotate_left
        · (intro w hSw; (obtain ⟨⟨q0, q1, q2, q3, _, _, _, _⟩, ⟨r0, r1, r2, r3, r4, r5, _, _, _, _, _, _⟩, ⟨s0, s1, s2, s3, s4, s5, _, _, _, _, _, _⟩⟩ := And.intro (Blk4.cells hSw.s) (And.intro (BlkN.cells hSw.n) (BlkN.cells hSw.m))); go_simp; try with_reducible rfl)
        try simp only [List.getElem_toArray, List.getElem_cons_zero, List.getElem_cons_succ, Act.put, List.setIfInBounds_toArray, List.set_cons_zero, List.set_cons_succ]
        refine wpAnyH_done (by kernel_rfl) ?_ _
        have HB9 := Lib.hid hHeld.bel
        clear hHeld
        go_wp2_with fail
        go_ret
        exact ⟨ret_true (by simp), HB9.out⟩
      · skip
        refine wp_region_held_drew (S := fun w' => SetsS w w.heap.size g8 g9 S w') (by kernel_rfl) (SetsS.drew HSS.out) (fun hHeld => ?_)
        refine wpAnyH_ready (rs := [0]) (by kernel_rfl) (by simp) ?_
        refine AllReadyH.cons (o := _) rfl (fun K hK => ?_) AllReadyH.nil
        go_simp
        refine (AW.out _).mono ?_
        rintro e w8 ⟨rfl, hb8⟩
        refine hK.out _ _ (hHeld.below hb8) (fun hHeld => ?_)
        clear hK K
        try simp only [List.getElem_toArray, List.getElem_cons_zero, List.getElem_cons_succ, Act.put, List.setIfInBounds_toArray, List.set_cons_zero, List.set_cons_succ]
        refine wpAnyH_take (i := 1) (oi := _) (v := ?_) rfl (by kernel_rfl) (by kernel_rfl) (by kernel_rfl) (fun _ _ _ h => h) (Or.inl ⟨by rfl, ?_⟩) (by assumption) ?_
        rotate_left
        · (intro w hSw; (obtain ⟨⟨q0, q1, q2, q3, _, _, _, _⟩, ⟨r0, r1, r2, r3, r4, r5, _, _, _, _, _, _⟩, ⟨s0, s1, s2, s3, s4, s5, _, _, _, _, _, _⟩⟩ := And.intro (Blk4.cells hSw.s) (And.intro (BlkN.cells hSw.n) (BlkN.cells hSw.m))); go_simp; try with_reducible rfl)
        try simp only [List.getElem_toArray, List.getElem_cons_zero, List.getElem_cons_succ, Act.put, List.setIfInBounds_toArray, List.set_cons_zero, List.set_cons_succ]
        refine wpAnyH_take (i := 2) (oi := _) (v := ?_) rfl (by kernel_rfl) (by kernel_rfl) (by kernel_rfl) (fun _ _ _ h => h) (Or.inl ⟨by rfl, ?_⟩) (by assumption) ?_
        rotate_left
        · (intro w hSw; (obtain ⟨⟨q0, q1, q2, q3, _, _, _, _⟩, ⟨r0, r1, r2, r3, r4, r5, _, _, _, _, _, _⟩, ⟨s0, s1, s2, s3, s4, s5, _, _, _, _, _, _⟩⟩ := And.intro (Blk4.cells hSw.s) (And.intro (BlkN.cells hSw.n) (BlkN.cells hSw.m))); go_simp; try with_reducible rfl)
        try simp only [List.getElem_toArray, List.getElem_cons_zero, List.getElem_cons_succ, Act.put, List.setIfInBounds_toArray, List.set_cons_zero, List.set_cons_succ]
        refine wpAnyH_take (i := 3) (oi := _) (v := ?_) rfl (by kernel_rfl) (by kernel_rfl) (by kernel_rfl) (fun _ _ _ h => h) (Or.inl ⟨by rfl, ?_⟩) (by assumption) ?_
        rotate_left
        · (intro w hSw; (obtain ⟨⟨q0, q1, q2, q3, _, _, _, _⟩, ⟨r0, r1, r2, r3, r4, r5, _, _, _, _, _, _⟩, ⟨s0, s1, s2, s3, s4, s5, _, _, _, _, _, _⟩⟩ := And.intro (Blk4.cells hSw.s) (And.intro (BlkN.cells hSw.n) (BlkN.cells hSw.m))); go_simp; try with_reducible rfl)
        try simp only [List.getElem_toArray, List.getElem_cons_zero, List.getElem_cons_succ, Act.put, List.setIfInBounds_toArray, List.set_cons_zero, List.set_cons_succ]
        refine wpAnyH_take (i := 5) (oi := _) (v := ?_) rfl (by kernel_rfl) (by kernel_rfl) (by kernel_rfl) (fun _ _ _ h => h) (Or.inl ⟨by rfl, ?_⟩) (by assumption) ?_
        rotate_left
        · (intro w hSw; (obtain ⟨⟨q0, q1, q2, q3, _, _, _, _⟩, ⟨r0, r1, r2, r3, r4, r5, _, _, _, _, _, _⟩, ⟨s0, s1, s2, s3, s4, s5, _, _, _, _, _, _⟩⟩ := And.intro (Blk4.cells hSw.s) (And.intro (BlkN.cells hSw.n) (BlkN.cells hSw.m))); go_simp; try with_reducible rfl)
        try simp only [List.getElem_toArray, List.getElem_cons_zero, List.getElem_cons_succ, Act.put, List.setIfInBounds_toArray, List.set_cons_zero, List.set_cons_succ]
        refine wpAnyH_ready (rs := [4]) (by kernel_rfl) (by simp) ?_
        refine AllReadyH.cons (o := _) rfl (fun K hK => ?_) AllReadyH.nil
        go_simp
        refine (HAS1.out _).mono ?_
        rintro e w8 ⟨rfl, hb8⟩
        refine hK.out _ _ (hHeld.below hb8) (fun hHeld => ?_)
        clear hK K
        try simp only [List.getElem_toArray, List.getElem_cons_zero, List.getElem_cons_succ, Act.put, List.setIfInBounds_toArray, List.set_cons_zero, List.set_cons_succ]
        refine wpAnyH_take (i := 6) (oi := _) (v := ?_) rfl (by kernel_rfl) (by kernel_rfl) (by kernel_rfl) (fun _ _ _ h => h) (Or.inl ⟨by rfl, ?_⟩) (by assumption) ?_
        rotate_left
        · (intro w hSw; (obtain ⟨⟨q0, q1, q2, q3, _, _, _, _⟩, ⟨r0, r1, r2, r3, r4, r5, _, _, _, _, _, _⟩, ⟨s0, s1, s2, s3, s4, s5, _, _, _, _, _, _⟩⟩ := And.intro (Blk4.cells hSw.s) (And.intro (BlkN.cells hSw.n) (BlkN.cells hSw.m))); go_simp; try with_reducible rfl)
        try simp only [List.getElem_toArray, List.getElem_cons_zero, List.getElem_cons_succ, Act.put, List.setIfInBounds_toArray, List.set_cons_zero, List.set_cons_succ]
        refine wpAnyH_take (i := 7) (oi := _) (v := ?_) rfl (by kernel_rfl) (by kernel_rfl) (by kernel_rfl) (fun _ _ _ h => h) (Or.inl ⟨by rfl, ?_⟩) (by assumption) ?_
        rotate_left
        · (intro w hSw; (obtain ⟨⟨q0, q1, q2, q3, _, _, _, _⟩, ⟨r0, r1, r2, r3, r4, r5, _, _, _, _, _, _⟩, ⟨s0, s1, s2, s3, s4, s5, _, _, _, _, _, _⟩⟩ := And.intro (Blk4.cells hSw.s) (And.intro (BlkN.cells hSw.n) (BlkN.cells hSw.m))); go_simp; try with_reducible rfl)
        try simp only [List.getElem_toArray, List.getElem_cons_zero, List.getElem_cons_succ, Act.put, List.setIfInBounds_toArray, List.set_cons_zero, List.set_cons_succ]
        refine wpAnyH_take (i := 8) (oi := _) (v := ?_) rfl (by kernel_rfl) (by kernel_rfl) (by kernel_rfl) (fun _ _ _ h => h) (Or.inl ⟨by rfl, ?_⟩) (by assumption) ?_
        rotate_left
        · (intro w hSw; (obtain ⟨⟨q0, q1, q2, q3, _, _, _, _⟩, ⟨r0, r1, r2, r3, r4, r5, _, _, _, _, _, _⟩, ⟨s0, s1, s2, s3, s4, s5, _, _, _, _, _, _⟩⟩ := And.intro (Blk4.cells hSw.s) (And.intro (BlkN.cells hSw.n) (BlkN.cells hSw.m))); go_simp; try with_reducible rfl)
        try simp only [List.getElem_toArray, List.getElem_cons_zero, List.getElem_cons_succ, Act.put, List.setIfInBounds_toArray, List.set_cons_zero, List.set_cons_succ]
        refine wpAnyH_take (i := 9) (oi := _) (v := ?_) rfl (by kernel_rfl) (by kernel_rfl) (by kernel_rfl) (fun _ _ _ h => h) (Or.inl ⟨by rfl, ?_⟩) (by assumption) ?_
        rotate_left
        · (intro w hSw; (obtain ⟨⟨q0, q1, q2, q3, _, _, _, _⟩, ⟨r0, r1, r2, r3, r4, r5, _, _, _, _, _, _⟩, ⟨s0, s1, s2, s3, s4, s5, _, _, _, _, _, _⟩⟩ := And.intro (Blk4.cells hSw.s) (And.intro (BlkN.cells hSw.n) (BlkN.cells hSw.m))); go_simp; try with_reducible rfl)
        try simp only [List.getElem_toArray, List.getElem_cons_zero, List.getElem_cons_succ, Act.put, List.setIfInBounds_toArray, List.set_cons_zero, List.set_cons_succ]
        refine wpAnyH_take (i := 11) (oi := _) (v := ?_) rfl (by kernel_rfl) (by kernel_rfl) (by kernel_rfl) (fun _ _ _ h => h) (Or.inl ⟨by rfl, ?_⟩) (by assumption) ?_
        rotate_left
        · (intro w hSw; (obtain ⟨⟨q0, q1, q2, q3, _, _, _, _⟩, ⟨r0, r1, r2, r3, r4, r5, _, _, _, _, _, _⟩, ⟨s0, s1, s2, s3, s4, s5, _, _, _, _, _, _⟩⟩ := And.intro (Blk4.cells hSw.s) (And.intro (BlkN.cells hSw.n) (BlkN.cells hSw.m))); go_simp; try with_reducible rfl)
        try simp only [List.getElem_toArray, List.getElem_cons_zero, List.getElem_cons_succ, Act.put, List.setIfInBounds_toArray, List.set_cons_zero, List.set_cons_succ]
        refine wpAnyH_take (i := 13) (oi := _) (v := ?_) rfl (by kernel_rfl) (by kernel_rfl) (by kernel_rfl) (fun _ _ _ h => h) (Or.inl ⟨by rfl, ?_⟩) (by assumption) ?_
        rotate_left
        · (intro w hSw; (obtain ⟨⟨q0, q1, q2, q3, _, _, _, _⟩, ⟨r0, r1, r2, r3, r4, r5, _, _, _, _, _, _⟩, ⟨s0, s1, s2, s3, s4, s5, _, _, _, _, _, _⟩⟩ := And.intro (Blk4.cells hSw.s) (And.intro (BlkN.cells hSw.n) (BlkN.cells hSw.m))); go_simp; try with_reducible rfl)
        try simp only [List.getElem_toArray, List.getElem_cons_zero, List.getElem_cons_succ, Act.put, List.setIfInBounds_toArray, List.set_cons_zero, List.set_cons_succ]
        refine wpAnyH_take (i := 14) (oi := _) (v := ?_) rfl (by kernel_rfl) (by kernel_rfl) (by kernel_rfl) (fun _ _ _ h => h) (Or.inl ⟨by rfl, ?_⟩) (by assumption) ?_
        rotate_left
        · (intro w hSw; (obtain ⟨⟨q0, q1, q2, q3, _, _, _, _⟩, ⟨r0, r1, r2, r3, r4, r5, _, _, _, _, _, _⟩, ⟨s0, s1, s2, s3, s4, s5, _, _, _, _, _, _⟩⟩ := And.intro (Blk4.cells hSw.s) (And.intro (BlkN.cells hSw.n) (BlkN.cells hSw.m))); go_simp; try with_reducible rfl)
        try simp only [List.getElem_toArray, List.getElem_cons_zero, List.getElem_cons_succ, Act.put, List.setIfInBounds_toArray, List.set_cons_zero, List.set_cons_succ]
        refine wpAnyH_ready (rs := [10]) (by kernel_rfl) (by simp) ?_
        refine AllReadyH.cons (o := _) rfl (fun K hK => ?_) AllReadyH.nil
        go_simp
        refine (NOT1.out _).mono ?_
        rintro e w8 ⟨rfl, hb8⟩
        refine hK.out _ _ (hHeld.below hb8) (fun hHeld => ?_)
        clear hK K
        try simp only [List.getElem_toArray, List.getElem_cons_zero, List.getElem_cons_succ, Act.put, List.setIfInBounds_toArray, List.set_cons_zero, List.set_cons_succ]
        refine wpAnyH_ready (rs := [12]) (by kernel_rfl) (by simp) ?_
        refine AllReadyH.cons (o := _) rfl (fun K hK => ?_) AllReadyH.nil
        go_simp
        refine (HAS2.out _).mono ?_
        rintro e w8 ⟨rfl, hb8⟩
        refine hK.out _ _ (hHeld.below hb8) (fun hHeld => ?_)
        clear hK K
        try simp only [List.getElem_toArray, List.getElem_cons_zero, List.getElem_cons_succ, Act.put, List.setIfInBounds_toArray, List.set_cons_zero, List.set_cons_succ]
        refine wpAnyH_take (i := 15) (oi := _) (v := ?_) rfl (by kernel_rfl) (by kernel_rfl) (by kernel_rfl) (fun _ _ _ h => h) (Or.inl ⟨by rfl, ?_⟩) (by assumption) ?_
        rotate_left
        · (intro w hSw; (obtain ⟨⟨q0, q1, q2, q3, _, _, _, _⟩, ⟨r0, r1, r2, r3, r4, r5, _, _, _, _, _, _⟩, ⟨s0, s1, s2, s3, s4, s5, _, _, _, _, _, _⟩⟩ := And.intro (Blk4.cells hSw.s) (And.intro (BlkN.cells hSw.n) (BlkN.cells hSw.m))); go_simp; try with_reducible rfl)
        try simp only [List.getElem_toArray, List.getElem_cons_zero, List.getElem_cons_succ, Act.put, List.setIfInBounds_toArray, List.set_cons_zero, List.set_cons_succ]
        refine wpAnyH_take (i := 16) (oi := _) (v := ?_) rfl (by kernel_rfl) (by kernel_rfl) (by kernel_rfl) (fun _ _ _ h => h) (Or.inl ⟨by rfl, ?_⟩) (by assumption) ?_
        rotate_left
        · (intro w hSw; (obtain ⟨⟨q0, q1, q2, q3, _, _, _, _⟩, ⟨r0, r1, r2, r3, r4, r5, _, _, _, _, _, _⟩, ⟨s0, s1, s2, s3, s4, s5, _, _, _, _, _, _⟩⟩ := And.intro (Blk4.cells hSw.s) (And.intro (BlkN.cells hSw.n) (BlkN.cells hSw.m))); go_simp; try with_reducible rfl)
        try simp only [List.getElem_toArray, List.getElem_cons_zero, List.getElem_cons_succ, Act.put, List.setIfInBounds_toArray, List.set_cons_zero, List.set_cons_succ]
        refine wpAnyH_take (i := 17) (oi := _) (v := ?_) rfl (by kernel_rfl) (by kernel_rfl) (by kernel_rfl) (fun _ _ _ h => h) (Or.inl ⟨by rfl, ?_⟩) (by assumption) ?_
        rotate_left
        · (intro w hSw; (obtain ⟨⟨q0, q1, q2, q3, _, _, _, _⟩, ⟨r0, r1, r2, r3, r4, r5, _, _, _, _, _, _⟩, ⟨s0, s1, s2, s3, s4, s5, _, _, _, _, _, _⟩⟩ := And.intro (Blk4.cells hSw.s) (And.intro (BlkN.cells hSw.n) (BlkN.cells hSw.m))); go_simp; try with_reducible rfl)
        try simp only [List.getElem_toArray, List.getElem_cons_zero, List.getElem_cons_succ, Act.put, List.setIfInBounds_toArray, List.set_cons_zero, List.set_cons_succ]
        refine wpAnyH_take (i := 18) (oi := _) (v := ?_) rfl (by kernel_rfl) (by kernel_rfl) (by kernel_rfl) (fun _ _ _ h => h) (Or.inl ⟨by rfl, ?_⟩) (by assumption) ?_
        rotate_left
        · (intro w hSw; (obtain ⟨⟨q0, q1, q2, q3, _, _, _, _⟩, ⟨r0, r1, r2, r3, r4, r5, _, _, _, _, _, _⟩, ⟨s0, s1, s2, s3, s4, s5, _, _, _, _, _, _⟩⟩ := And.intro (Blk4.cells hSw.s) (And.intro (BlkN.cells hSw.n) (BlkN.cells hSw.m))); go_simp; try with_reducible rfl)
        try simp only [List.getElem_toArray, List.getElem_cons_zero, List.getElem_cons_succ, Act.put, List.setIfInBounds_toArray, List.set_cons_zero, List.set_cons_succ]
        refine wpAnyH_take (i := 21) (oi := _) (v := ?_) rfl (by kernel_rfl) (by kernel_rfl) (by kernel_rfl) (fun _ _ _ h => h) (Or.inl ⟨by rfl, ?_⟩) (by assumption) ?_
        rotate_left
        · (intro w hSw; (obtain ⟨⟨q0, q1, q2, q3, _, _, _, _⟩, ⟨r0, r1, r2, r3, r4, r5, _, _, _, _, _, _⟩, ⟨s0, s1, s2, s3, s4, s5, _, _, _, _, _, _⟩⟩ := And.intro (Blk4.cells hSw.s) (And.intro (BlkN.cells hSw.n) (BlkN.cells hSw.m))); go_simp; try with_reducible rfl)
        try simp only [List.getElem_toArray, List.getElem_cons_zero, List.getElem_cons_succ, Act.put, List.setIfInBounds_toArray, List.set_cons_zero, List.set_cons_succ]
        refine wpAnyH_ready (rs := [19]) (by kernel_rfl) (by simp) ?_
        refine AllReadyH.cons (o := _) rfl (fun K hK => ?_) AllReadyH.nil
        go_simp
        refine (NOT1.out _).mono ?_
        rintro e w8 ⟨rfl, hb8⟩
        refine hK.out _ _ (hHeld.below hb8) (fun hHeld => ?_)
        clear hK K
        try simp only [List.getElem_toArray, List.getElem_cons_zero, List.getElem_cons_succ, Act.put, List.setIfInBounds_toArray, List.set_cons_zero, List.set_cons_succ]
        refine wpAnyH_ready (rs := [20]) (by kernel_rfl) (by simp) ?_
        refine AllReadyH.cons (o := _) rfl (fun K hK => ?_) AllReadyH.nil
        go_simp
        refine (NOT2.out _).mono ?_
        rintro e w8 ⟨rfl, hb8⟩
        refine hK.out _ _ (hHeld.below hb8) (fun hHeld => ?_)
        clear hK K
        try simp only [List.getElem_toArray, List.getElem_cons_zero, List.getElem_cons_succ, Act.put, List.setIfInBounds_toArray, List.set_cons_zero, List.set_cons_succ]
        refine wpAnyH_take (i := 22) (oi := _) (v := ?_) rfl (by kernel_rfl) (by kernel_rfl) (by kernel_rfl) (fun _ _ _ h => h) (Or.inl ⟨by rfl, ?_⟩) (by assumption) ?_
        rotate_left
        · (intro w hSw; (obtain ⟨⟨q0, q1, q2, q3, _, _, _, _⟩, ⟨r0, r1, r2, r3, r4, r5, _, _, _, _, _, _⟩, ⟨s0, s1, s2, s3, s4, s5, _, _, _, _, _, _⟩⟩ := And.intro (Blk4.cells hSw.s) (And.intro (BlkN.cells hSw.n) (BlkN.cells hSw.m))); go_simp; (try rw [EQS]); try with_reducible rfl)
        try simp only [List.getElem_toArray, List.getElem_cons_zero, List.getElem_cons_succ, Act.put, List.setIfInBounds_toArray, List.set_cons_zero, List.set_cons_succ]
        refine wpAnyH_take (i := 23) (oi := _) (v := ?_) rfl (by kernel_rfl) (by kernel_rfl) (by kernel_rfl) (fun _ _ _ h => h) (Or.inl ⟨by rfl, ?_⟩) (by assumption) ?_
        rotate_left
        · (intro w hSw; (obtain ⟨⟨q0, q1, q2, q3, _, _, _, _⟩, ⟨r0, r1, r2, r3, r4, r5, _, _, _, _, _, _⟩, ⟨s0, s1, s2, s3, s4, s5, _, _, _, _, _, _⟩⟩ := And.intro (Blk4.cells hSw.s) (And.intro (BlkN.cells hSw.n) (BlkN.cells hSw.m))); go_simp; try with_reducible rfl)
        try simp only [List.getElem_toArray, List.getElem_cons_zero, List.getElem_cons_succ, Act.put, List.setIfInBounds_toArray, List.set_cons_zero, List.set_cons_succ]
        refine wpAnyH_take (i := 24) (oi := _) (v := ?_) rfl (by kernel_rfl) (by kernel_rfl) (by kernel_rfl) (fun _ _ _ h => h) (Or.inl ⟨by rfl, ?_⟩) (by assumption) ?_
        rotate_left
        · (intro w hSw; (obtain ⟨⟨q0, q1, q2, q3, _, _, _, _⟩, ⟨r0, r1, r2, r3, r4, r5, _, _, _, _, _, _⟩, ⟨s0, s1, s2, s3, s4, s5, _, _, _, _, _, _⟩⟩ := And.intro (Blk4.cells hSw.s) (And.intro (BlkN.cells hSw.n) (BlkN.cells hSw.m))); go_simp; try with_reducible rfl)
        try simp only [List.getElem_toArray, List.getElem_cons_zero, List.getElem_cons_succ, Act.put, List.setIfInBounds_toArray, List.set_cons_zero, List.set_cons_succ]
        refine wpAnyH_take (i := 25) (oi := _) (v := ?_) rfl (by kernel_rfl) (by kernel_rfl) (by kernel_rfl) (fun _ _ _ h => h) (Or.inl ⟨by rfl, ?_⟩) (by assumption) ?_
        rotate_left
        · (intro w hSw; (obtain ⟨⟨q0, q1, q2, q3, _, _, _, _⟩, ⟨r0, r1, r2, r3, r4, r5, _, _, _, _, _, _⟩, ⟨s0, s1, s2, s3, s4, s5, _, _, _, _, _, _⟩⟩ := And.intro (Blk4.cells hSw.s) (And.intro (BlkN.cells hSw.n) (BlkN.cells hSw.m))); go_simp; try with_reducible rfl)
        try simp only [List.getElem_toArray, List.getElem_cons_zero, List.getElem_cons_succ, Act.put, List.setIfInBounds_toArray, List.set_cons_zero, List.set_cons_succ]
        refine wpAnyH_take (i := 27) (oi := _) (v := ?_) rfl (by kernel_rfl) (by kernel_rfl) (by kernel_rfl) (fun _ _ _ h => h) (Or.inl ⟨by rfl, ?_⟩) (by assumption) ?_
        rotate_left
        · (intro w hSw; (obtain ⟨⟨q0, q1, q2, q3, _, _, _, _⟩, ⟨r0, r1, r2, r3, r4, r5, _, _, _, _, _, _⟩, ⟨s0, s1, s2, s3, s4, s5, _, _, _, _, _, _⟩⟩ := And.intro (Blk4.cells hSw.s) (And.intro (BlkN.cells hSw.n) (BlkN.cells hSw.m))); go_simp; try with_reducible rfl)
        try simp only [List.getElem_toArray, List.getElem_cons_zero, List.getElem_cons_succ, Act.put, List.setIfInBounds_toArray, List.set_cons_zero, List.set_cons_succ]
        refine wpAnyH_take (i := 28) (oi := _) (v := ?_) rfl (by kernel_rfl) (by kernel_rfl) (by kernel_rfl) (fun _ _ _ h => h) (Or.inl ⟨by rfl, ?_⟩) (by assumption) ?_
        rotate_left
        · (intro w hSw; (obtain ⟨⟨q0, q1, q2, q3, _, _, _, _⟩, ⟨r0, r1, r2, r3, r4, r5, _, _, _, _, _, _⟩, ⟨s0, s1, s2, s3, s4, s5, _, _, _, _, _, _⟩⟩ := And.intro (Blk4.cells hSw.s) (And.intro (BlkN.cells hSw.n) (BlkN.cells hSw.m))); go_simp; try with_reducible rfl)
        try simp only [List.getElem_toArray, List.getElem_cons_zero, List.getElem_cons_succ, Act.put, List.setIfInBounds_toArray, List.set_cons_zero, List.set_cons_succ]
        refine wpAnyH_ready (rs := [26]) (by kernel_rfl) (by simp) ?_
        refine AllReadyH.cons (o := _) rfl (fun K hK => ?_) AllReadyH.nil
        go_simp
        refine (PR1.out _).mono ?_
        rintro e w8 ⟨rfl, hb8⟩
        refine hK.out _ _ (hHeld.below hb8) (fun hHeld => ?_)
        clear hK K
        try simp only [List.getElem_toArray, List.getElem_cons_zero, List.getElem_cons_succ, Act.put, List.setIfInBounds_toArray, List.set_cons_zero, List.set_cons_succ]
        refine wpAnyH_ready (rs := [29]) (by kernel_rfl) (by simp) ?_
        refine AllReadyH.cons (o := _) rfl (fun K hK => ?_) AllReadyH.nil
        go_simp
        refine (RP1.out _).mono ?_
        rintro e w8 ⟨rfl, hb8⟩
        refine hK.out _ _ (hHeld.below hb8) (fun hHeld => ?_)
        clear hK K
        try simp only [List.getElem_toArray, List.getElem_cons_zero, List.getElem_cons_succ, Act.put, List.setIfInBounds_toArray, List.set_cons_zero, List.set_cons_succ]
        refine wpAnyH_take (i := 30) (oi := _) (v := ?_) rfl (by kernel_rfl) (by kernel_rfl) (by kernel_rfl) (fun _ _ _ h => h) (Or.inl ⟨by rfl, ?_⟩) (by assumption) ?_
        rotate_left
        · (intro w hSw; (obtain ⟨⟨q0, q1, q2, q3, _, _, _, _⟩, ⟨r0, r1, r2, r3, r4, r5, _, _, _, _, _, _⟩, ⟨s0, s1, s2, s3, s4, s5, _, _, _, _, _, _⟩⟩ := And.intro (Blk4.cells hSw.s) (And.intro (BlkN.cells hSw.n) (BlkN.cells hSw.m))); go_simp; (try rw [beq_self_eq_true]); try with_reducible rfl)
        try simp only [List.getElem_toArray, List.getElem_cons_zero, List.getElem_cons_succ, Act.put, List.setIfInBounds_toArray, List.set_cons_zero, List.set_cons_succ]
        refine wpAnyH_take (i := 31) (oi := _) (v := ?_) rfl (by kernel_rfl) (by kernel_rfl) (by kernel_rfl) (fun _ _ _ h => h) (Or.inl ⟨by rfl, ?_⟩) (by assumption) ?_
        rotate_left
        · (intro w hSw; (obtain ⟨⟨q0, q1, q2, q3, _, _, _, _⟩, ⟨r0, r1, r2, r3, r4, r5, _, _, _, _, _, _⟩, ⟨s0, s1, s2, s3, s4, s5, _, _, _, _, _, _⟩⟩ := And.intro (Blk4.cells hSw.s) (And.intro (BlkN.cells hSw.n) (BlkN.cells hSw.m))); go_simp; try with_reducible rfl)
        try simp only [List.getElem_toArray, List.getElem_cons_zero, List.getElem_cons_succ, Act.put, List.setIfInBounds_toArray, List.set_cons_zero, List.set_cons_succ]
        refine wpAnyH_take (i := 32) (oi := _) (v := ?_) rfl (by kernel_rfl) (by kernel_rfl) (by kernel_rfl) (fun _ _ _ h => h) (Or.inl ⟨by rfl, ?_⟩) (by assumption) ?_
        rotate_left
        · (intro w hSw; (obtain ⟨⟨q0, q1, q2, q3, _, _, _, _⟩, ⟨r0, r1, r2, r3, r4, r5, _, _, _, _, _, _⟩, ⟨s0, s1, s2, s3, s4, s5, _, _, _, _, _, _⟩⟩ := And.intro (Blk4.cells hSw.s) (And.intro (BlkN.cells hSw.n) (BlkN.cells hSw.m))); go_simp; try with_reducible rfl)
        try simp only [List.getElem_toArray, List.getElem_cons_zero, List.getElem_cons_succ, Act.put, List.setIfInBounds_toArray, List.set_cons_zero, List.set_cons_succ]
        refine wpAnyH_take (i := 33) (oi := _) (v := ?_) rfl (by kernel_rfl) (by kernel_rfl) (by kernel_rfl) (fun _ _ _ h => h) (Or.inl ⟨by rfl, ?_⟩) (by assumption) ?_
        rotate_left
        · (intro w hSw; (obtain ⟨⟨q0, q1, q2, q3, _, _, _, _⟩, ⟨r0, r1, r2, r3, r4, r5, _, _, _, _, _, _⟩, ⟨s0, s1, s2, s3, s4, s5, _, _, _, _, _, _⟩⟩ := And.intro (Blk4.cells hSw.s) (And.intro (BlkN.cells hSw.n) (BlkN.cells hSw.m))); go_simp; try with_reducible rfl)
        try simp only [List.getElem_toArray, List.getElem_cons_zero, List.getElem_cons_succ, Act.put, List.setIfInBounds_toArray, List.set_cons_zero, List.set_cons_succ]
        refine wpAnyH_take (i := 35) (oi := _) (v := ?_) rfl (by kernel_rfl) (by kernel_rfl) (by kernel_rfl) (fun _ _ _ h => h) (Or.inl ⟨by rfl, ?_⟩) (by assumption) ?_
        rotate_left
        · (intro w hSw; (obtain ⟨⟨q0, q1, q2, q3, _, _, _, _⟩, ⟨r0, r1, r2, r3, r4, r5, _, _, _, _, _, _⟩, ⟨s0, s1, s2, s3, s4, s5, _, _, _, _, _, _⟩⟩ := And.intro (Blk4.cells hSw.s) (And.intro (BlkN.cells hSw.n) (BlkN.cells hSw.m))); go_simp; try with_reducible rfl)
        try simp only [List.getElem_toArray, List.getElem_cons_zero, List.getElem_cons_succ, Act.put, List.setIfInBounds_toArray, List.set_cons_zero, List.set_cons_succ]
        refine wpAnyH_ready (rs := [34]) (by kernel_rfl) (by simp) ?_
        refine AllReadyH.cons (o := _) rfl (fun K hK => ?_) AllReadyH.nil
        go_simp
        refine (PR2.out _).mono ?_
        rintro e w8 ⟨rfl, hb8⟩
        refine hK.out _ _ (hHeld.below hb8) (fun hHeld => ?_)
        clear hK K
        try simp only [List.getElem_toArray, List.getElem_cons_zero, List.getElem_cons_succ, Act.put, List.setIfInBounds_toArray, List.set_cons_zero, List.set_cons_succ]
        refine wpAnyH_ready (rs := [36]) (by kernel_rfl) (by simp) ?_
        refine AllReadyH.cons (o := _) rfl (fun K hK => ?_) AllReadyH.nil
        go_simp
        refine (BY.out _).mono ?_
        rintro e w8 ⟨rfl, hb8⟩
        refine hK.out _ _ (hHeld.below hb8) (fun hHeld => ?_)
        clear hK K
        try simp only [List.getElem_toArray, List.getElem_cons_zero, List.getElem_cons_succ, Act.put, List.setIfInBounds_toArray, List.set_cons_zero, List.set_cons_succ]
        refine wpAnyH_take (i := 37) (oi := _) (v := ?_) rfl (by kernel_rfl) (by kernel_rfl) (by kernel_rfl) (fun _ _ _ h => h) (Or.inl ⟨by rfl, ?_⟩) (by assumption) ?_
        rotate_left
        · (intro w hSw; (obtain ⟨⟨q0, q1, q2, q3, _, _, _, _⟩, ⟨r0, r1, r2, r3, r4, r5, _, _, _, _, _, _⟩, ⟨s0, s1, s2, s3, s4, s5, _, _, _, _, _, _⟩⟩ := And.intro (Blk4.cells hSw.s) (And.intro (BlkN.cells hSw.n) (BlkN.cells hSw.m))); go_simp; try with_reducible rfl)
        try simp only [List.getElem_toArray, List.getElem_cons_zero, List.getElem_cons_succ, Act.put, List.setIfInBounds_toArray, List.set_cons_zero, List.set_cons_succ]
        refine wpAnyH_ready (rs := [38]) (by kernel_rfl) (by simp) ?_
        refine AllReadyH.cons (o := _) rfl (fun K hK => ?_) AllReadyH.nil
        go_simp
        refine (RP2.out _).mono ?_
        rintro e w8 ⟨rfl, hb8⟩
        refine hK.out _ _ (hHeld.below hb8) (fun hHeld => ?_)
        clear hK K
        try simp only [List.getElem_toArray, List.getElem_cons_zero, List.getElem_cons_succ, Act.put, List.setIfInBounds_toArray, List.set_cons_zero, List.set_cons_succ]
        refine wpAnyH_take (i := 39) (oi := _) (v := ?_) rfl (by kernel_rfl) (by kernel_rfl) (by kernel_rfl) (fun _ _ _ h => h) (Or.inl ⟨by rfl, ?_⟩) (by assumption) ?_
        rotate_left
        · (intro w hSw; (obtain ⟨⟨q0, q1, q2, q3, _, _, _, _⟩, ⟨r0, r1, r2, r3, r4, r5, _, _, _, _, _, _⟩, ⟨s0, s1, s2, s3, s4, s5, _, _, _, _, _, _⟩⟩ := And.intro (Blk4.cells hSw.s) (And.intro (BlkN.cells hSw.n) (BlkN.cells hSw.m))); go_simp; (try rw [beq_self_eq_true]); try with_reducible rfl)
        try simp only [List.getElem_toArray, List.getElem_cons_zero, List.getElem_cons_succ, Act.put, List.setIfInBounds_toArray, List.set_cons_zero, List.set_cons_succ]
        refine wpAnyH_take (i := 40) (oi := _) (v := ?_) rfl (by kernel_rfl) (by kernel_rfl) (by kernel_rfl) (fun _ _ _ h => h) (Or.inl ⟨by rfl, ?_⟩) (by assumption) ?_
        rotate_left
        · (intro w hSw; (obtain ⟨⟨q0, q1, q2, q3, _, _, _, _⟩, ⟨r0, r1, r2, r3, r4, r5, _, _, _, _, _, _⟩, ⟨s0, s1, s2, s3, s4, s5, _, _, _, _, _, _⟩⟩ := And.intro (Blk4.cells hSw.s) (And.intro (BlkN.cells hSw.n) (BlkN.cells hSw.m))); go_simp; try with_reducible rfl)
        try simp only [List.getElem_toArray, List.getElem_cons_zero, List.getElem_cons_succ, Act.put, List.setIfInBounds_toArray, List.set_cons_zero, List.set_cons_succ]
        refine wpAnyH_take (i := 41) (oi := _) (v := ?_) rfl (by kernel_rfl) (by kernel_rfl) (by kernel_rfl) (fun _ _ _ h => h) (Or.inl ⟨by rfl, ?_⟩) (by assumption) ?_
        rotate_left
        · (intro w hSw; (obtain ⟨⟨q0, q1, q2, q3, _, _, _, _⟩, ⟨r0, r1, r2, r3, r4, r5, _, _, _, _, _, _⟩, ⟨s0, s1, s2, s3, s4, s5, _, _, _, _, _, _⟩⟩ := And.intro (Blk4.cells hSw.s) (And.intro (BlkN.cells hSw.n) (BlkN.cells hSw.m))); go_simp; try with_reducible rfl)
        try simp only [List.getElem_toArray, List.getElem_cons_zero, List.getElem_cons_succ, Act.put, List.setIfInBounds_toArray, List.set_cons_zero, List.set_cons_succ]
        refine wpAnyH_done (by kernel_rfl) ?_ _
        have HB9 := Lib.hid hHeld.bel
        clear hHeld
        go_wp2_with fail
        go_ret
        exact ⟨ret_true (by simp), HB9.out⟩
end Go.Proofs.Ytgdalmdjbakbdaa
