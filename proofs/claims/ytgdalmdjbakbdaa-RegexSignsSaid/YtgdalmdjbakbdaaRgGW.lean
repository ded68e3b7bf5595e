/-
  THE WALK of scribelaw09.RegexGroup: it returns true and writes to nothing that was there.
-/
import Derived.Test.YtgdalmdjbakbdaaRgL
import Derived.Test.YtgdalmdjbakbdaaRgK2
import Derived.Test.YtgdalmdjbakbdaaRgNW
import Derived.Deep.RegionHeld3
namespace Go.Proofs.Ytgdalmdjbakbdaa
open Go.RowKit

theorem Ran.full {s : ByteArray} {w : World} {nd : Nd} {a er : Nat} (h : Ran s w nd a er) {t : RT} {r : List UInt8} (e : topR withW notW orW s.data.toList = .ok (t, r)) : er = 0 ∧ TreeN w (fun _ => True) t nd := by
  rcases h with ⟨h1, _, t2, r2, h5, _, _, h8⟩ | ⟨_, _, n, h5⟩
  · rw [e] at h5
    cases h5
    exact ⟨h1, h8⟩
  · rw [e] at h5; cases h5
theorem Ran.told {s : ByteArray} {w : World} {nd : Nd} {a er p k : Nat} (h : Ran s w nd a er) (e : topR withW notW orW s.data.toList = .error (p, k)) : er = k := by
  rcases h with ⟨_, _, t2, r2, h5, _⟩ | ⟨_, _, n, h5⟩
  · rw [e] at h5; cases h5
  · rw [e] at h5; cases h5; rfl
theorem Ran.some {s : ByteArray} {w : World} {nd : Nd} {a er : Nat} (h : Ran s w nd a er) (e : er = 0) : ∃ t r, topR withW notW orW s.data.toList = .ok (t, r) ∧ TreeN w (fun _ => True) t nd := by
  rcases h with ⟨_, _, t2, r2, h5, _, _, h8⟩ | ⟨h1, _⟩
  · exact ⟨t2, r2, h5, h8⟩
  · omega
/-- What lies in memory behind the three calls of Parse. -/
structure GrpS (w0 : World) (t : RT) (ga gb gc g3 : Nat) (n1 n2 x : Nd) (kc3 : Nat) (W : World) : Prop where
  a : BlkN W ga n1
  b : BlkN W gb n2
  c : BlkN W gc ⟨4, W4.zero, some ⟨g3, 0, none⟩, 1, kc3⟩
  row : W.ownsRow 0 28 6 (.slice (some ⟨g3, 0, none⟩) 1 kc3) 1 (ndRow [x])
  ta : TreeN W (fun _ => True) t n1
  tb : TreeN W (fun _ => True) t n2
  tx : TreeN W (fun _ => True) t x
  bel : Below w0.heap.size w0 W
theorem TreeN.below {w w' : World} {t : RT} {nd : Nd} (h : TreeN w (fun _ => True) t nd) (hb : Below w.heap.size w w') : TreeN w' (fun _ => True) t nd :=
  h.kept (fun g _ hl => hb.block g hl) (fun _ _ _ => trivial)
theorem GrpS.below {w0 : World} {t : RT} {ga gb gc g3 : Nat} {n1 n2 x : Nd} {kc3 : Nat} {W W' : World} (h : GrpS w0 t ga gb gc g3 n1 n2 x kc3 W) (hb : Below W.heap.size W W') : GrpS w0 t ga gb gc g3 n1 n2 x kc3 W' :=
  ⟨h.a.below hb, h.b.below hb, h.c.below hb, rg_own_kept h.row (fun g hg => hb.block g (rg_own_base h.row g hg).2), h.ta.below hb, h.tb.below hb, h.tx.below hb, h.bel.trans (hb.mono h.bel.size)⟩
theorem GrpS.drew {w0 : World} {t : RT} {ga gb gc g3 : Nat} {n1 n2 x : Nd} {kc3 : Nat} {W : World} (h : GrpS w0 t ga gb gc g3 n1 n2 x kc3 W) : GrpS w0 t ga gb gc g3 n1 n2 x kc3 W.drew := h.below (Below.refl _ _).drew
/-- A tree of one kid, under a star. -/
theorem star_node {w : World} {t : RT} {nd : Nd} (h : TreeN w (fun _ => True) (.mk 4 W4.zero [t]) nd) : ∃ (g kc : Nat) (x : Nd), nd = ⟨4, W4.zero, some ⟨g, 0, none⟩, 1, kc⟩ ∧ w.ownsRow 0 28 6 (.slice (some ⟨g, 0, none⟩) 1 kc) 1 (ndRow [x]) ∧ TreeN w (fun _ => True) t x := by
  obtain ⟨op, st, kp, kn, kc⟩ := nd
  unfold TreeN at h
  obtain ⟨h1, h2, nds, h3, _, h5⟩ := h
  simp only at h1 h2
  subst h1 h2
  unfold TreesN at h5
  obtain ⟨x, rest, rfl, h6, h7⟩ := h5
  unfold TreesN at h7
  subst h7
  obtain ⟨g, c, hv, _⟩ := rg_own_succ (n := 0) h3
  simp only [Nd.kids, Value.slice.injEq] at hv
  obtain ⟨rfl, rfl, rfl⟩ := hv
  exact ⟨g, _, x, rfl, h3, h6⟩
theorem group_math {l r : List UInt8} {t : RT} (h : topR withW notW orW l = .ok (t, r)) : (topR withW notW orW (40 :: (l ++ [41])) = .ok (t, []) ∧ topR withW notW orW (40 :: (l ++ [41, 42])) = .ok (.mk 4 W4.zero [t], [])) ∨ (∃ p q, topR withW notW orW (40 :: (l ++ [41])) = .error (p, 14) ∧ topR withW notW orW (40 :: (l ++ [41, 42])) = .error (q, 14)) := by
  rcases group_top h with h1 | h1
  · exact .inl ⟨h1 [] (by simp), h1 [42] (by simp [signB])⟩
  · obtain ⟨p, hp⟩ := h1 []
    obtain ⟨q, hq⟩ := h1 [42]
    exact .inr ⟨p, q, hp, hq⟩
set_option maxHeartbeats 8000000 in
set_option maxRecDepth 100000 in
theorem group_walk (s0 : ByteArray) (w0 : s0.size ≤ maxLen) (w : World) :
    Calls Try.prog 5 #[.string s0] w fun e w' => e = .returned (.bool true) ∧ Below w.heap.size w w' := by
  have C0 : Hid (∀ W, Calls Try.prog 9 #[.string s0, .int .i64 100] W fun e w' => e = .returned (.string (cutB s0 100)) ∧ W = w') := Lib.hid fun W => cut_any s0 100 W w0 (by omega)
  have hts := cutB_size s0 100
  generalize cutB s0 100 = s at *
  obtain ⟨A, hA⟩ : ∃ A, (⟨#[40]⟩ : ByteArray) ++ s ++ ⟨#[41]⟩ = A := ⟨_, rfl⟩
  obtain ⟨B, hB⟩ : ∃ B, (⟨#[40]⟩ : ByteArray) ++ s ++ ⟨#[41, 42]⟩ = B := ⟨_, rfl⟩
  have hAl : A.data.toList = 40 :: (s.data.toList ++ [41]) := by rw [← hA]; simp [ByteArray.data_append]
  have hBl : B.data.toList = 40 :: (s.data.toList ++ [41, 42]) := by rw [← hB]; simp [ByteArray.data_append]
  have z1 : (⟨#[40]⟩ : ByteArray).size = 1 := rfl
  have z2 : (⟨#[41]⟩ : ByteArray).size = 1 := rfl
  have z3 : (⟨#[41, 42]⟩ : ByteArray).size = 2 := rfl
  have hAs : A.size ≤ 300 := by rw [← hA, ByteArray.size_append, ByteArray.size_append]; omega
  have hBs : B.size ≤ 300 := by rw [← hB, ByteArray.size_append, ByteArray.size_append]; omega
  clear z1 z2 z3
  have PS := Lib.hid (rparse_ran s (by omega))
  have PA := Lib.hid (rparse_ran A hAs)
  have PB := Lib.hid (rparse_ran B hBs)
  have AW := Lib.hid ragwake_any
  have HA := Lib.hid hA
  have HB := Lib.hid hB
  have HAL := Lib.hid (And.intro hAl hBl)
  clear hA hB hAl hBl hAs hBs w0
  go_enter Try.func5, Try.ntmps5
  go_wp2_with ((with_reducible refine (C0.out _).mono ?_); rintro e w' ⟨rfl, rfl⟩)
  refine (PS.out _).mono ?_
  rintro e w1 ⟨n1, a1, er1, rfl, hra1, hb1⟩
  have HRS := Lib.hid hra1
  have HN1 := Lib.hid (show BlkN (w1.alloc (.cells #[.int .i64 n1.op, .int .u64 n1.set.a, .int .u64 n1.set.b, .int .u64 n1.set.c, .int .u64 n1.set.d, .slice n1.kp n1.kn n1.kc] 28)) w1.heap.size n1 from heap_alloc_new w1 _)
  have HBA := Lib.hid (show Below w1.heap.size w1 (w1.alloc (.cells #[.int .i64 n1.op, .int .u64 n1.set.a, .int .u64 n1.set.b, .int .u64 n1.set.c, .int .u64 n1.set.d, .slice n1.kp n1.kn n1.kc] 28)) from (Below.refl _ _).alloc (Nat.le_refl _) _)
  have HB1 := Lib.hid (hb1.alloc hb1.size (.cells #[.int .i64 n1.op, .int .u64 n1.set.a, .int .u64 n1.set.b, .int .u64 n1.set.c, .int .u64 n1.set.d, .slice n1.kp n1.kn n1.kc] 28))
  clear hra1 hb1 PS
  unfold Nd.val
  by_cases h1 : er1 = 0
  · obtain ⟨t, r, HT, HT1⟩ := HRS.out.some h1
    have HT1 := Lib.hid (HT1.below HBA.out)
    have HT := Lib.hid HT
    subst h1
    clear HBA HRS
    go_wp2_with fail
    rw [HA.out]
    generalize w1.alloc (.cells #[.int .i64 n1.op, .int .u64 n1.set.a, .int .u64 n1.set.b, .int .u64 n1.set.c, .int .u64 n1.set.d, .slice n1.kp n1.kn n1.kc] 28) = wa at *
    generalize w1.heap.size = g1 at *
    refine (PA.out _).mono ?_
    rintro e w2 ⟨n2, a2, er2, rfl, hra2, hb2⟩
    have HRA := Lib.hid hra2
    have HBb := Lib.hid (show Below wa.heap.size wa (w2.alloc (.cells #[.int .i64 n2.op, .int .u64 n2.set.a, .int .u64 n2.set.b, .int .u64 n2.set.c, .int .u64 n2.set.d, .slice n2.kp n2.kn n2.kc] 28)) from hb2.alloc hb2.size _)
    have HBc := Lib.hid (show ∀ (t : RT) (nd : Nd), TreeN w2 (fun _ => True) t nd → TreeN (w2.alloc (.cells #[.int .i64 n2.op, .int .u64 n2.set.a, .int .u64 n2.set.b, .int .u64 n2.set.c, .int .u64 n2.set.d, .slice n2.kp n2.kn n2.kc] 28)) (fun _ => True) t nd from fun t nd h => TreeN.below h ((Below.refl _ _).alloc (Nat.le_refl _) _))
    have HN2 := Lib.hid (show BlkN (w2.alloc (.cells #[.int .i64 n2.op, .int .u64 n2.set.a, .int .u64 n2.set.b, .int .u64 n2.set.c, .int .u64 n2.set.d, .slice n2.kp n2.kn n2.kc] 28)) w2.heap.size n2 from heap_alloc_new w2 _)
    clear hra2 hb2 PA
    unfold Nd.val
    go_wp2_with fail
    rw [HB.out]
    generalize w2.alloc (.cells #[.int .i64 n2.op, .int .u64 n2.set.a, .int .u64 n2.set.b, .int .u64 n2.set.c, .int .u64 n2.set.d, .slice n2.kp n2.kn n2.kc] 28) = wb at *
    generalize w2.heap.size = g2 at *
    refine (PB.out _).mono ?_
    rintro e w3 ⟨n3, a3, er3, rfl, hra3, hb3⟩
    have HRB := Lib.hid hra3
    have HBd := Lib.hid (show Below wb.heap.size wb (w3.alloc (.cells #[.int .i64 n3.op, .int .u64 n3.set.a, .int .u64 n3.set.b, .int .u64 n3.set.c, .int .u64 n3.set.d, .slice n3.kp n3.kn n3.kc] 28)) from hb3.alloc hb3.size _)
    have HBe := Lib.hid (show Below w3.heap.size w3 (w3.alloc (.cells #[.int .i64 n3.op, .int .u64 n3.set.a, .int .u64 n3.set.b, .int .u64 n3.set.c, .int .u64 n3.set.d, .slice n3.kp n3.kn n3.kc] 28)) from (Below.refl _ _).alloc (Nat.le_refl _) _)
    have HN3 := Lib.hid (show BlkN (w3.alloc (.cells #[.int .i64 n3.op, .int .u64 n3.set.a, .int .u64 n3.set.b, .int .u64 n3.set.c, .int .u64 n3.set.d, .slice n3.kp n3.kn n3.kc] 28)) w3.heap.size n3 from heap_alloc_new w3 _)
    clear hra3 hb3 PB
    unfold Nd.val
    rcases group_math HT.out with ⟨hm1, hm2⟩ | ⟨p, q, hm1, hm2⟩
    · rw [← HAL.out.1] at hm1
      rw [← HAL.out.2] at hm2
      obtain ⟨rfl, HT2⟩ := HRA.out.full hm1
      obtain ⟨rfl, HT3⟩ := HRB.out.full hm2
      have hTL := top_cost HT.out
      have hsl : s.data.toList.length = s.size := by simp
      have HPL := Lib.hid (show (printL t).length ≤ 1000000 by omega)
      obtain ⟨g3, kc3, x, rfl, hrw, htx⟩ := star_node HT3
      have hbb := HBb.out
      have HS : GrpS w t g1 g2 w3.heap.size g3 n1 n2 x kc3 (w3.alloc (.cells #[.int .i64 4, .int .u64 W4.zero.a, .int .u64 W4.zero.b, .int .u64 W4.zero.c, .int .u64 W4.zero.d, .slice (some ⟨g3, 0, none⟩) 1 kc3] 28)) := by
        refine ⟨(HN1.out.below HBb.out).below HBd.out, HN2.out.below HBd.out, HN3.out, ?_, (HT1.out.below HBb.out).below HBd.out, (HBc.out _ _ HT2).below HBd.out, htx.below HBe.out, ?_⟩
        · exact rg_own_kept hrw (fun g hg => HBe.out.block g (rg_own_base hrw g hg).2)
        · have h9 := HB1.out.trans (HBb.out.mono HB1.out.size)
          exact h9.trans (HBd.out.mono h9.size)
      have HS := Lib.hid HS
      clear hTL hsl hrw htx HT2 HT3 hm1 hm2 HRA HRB HN1 HN2 HN3 HB1 HBb HBc HBd HBe HT HT1 hbb HAL
      obtain ⟨T, hT⟩ : ∃ T : ByteArray, ⟨(printL t).toArray⟩ = T := ⟨_, rfl⟩
      have CA : Hid (∀ W, GrpS w t g1 g2 w3.heap.size g3 n1 n2 x kc3 W → Calls Try.prog 13 #[.agg #[.int .i64 n1.op, .int .u64 n1.set.a, .int .u64 n1.set.b, .int .u64 n1.set.c, .int .u64 n1.set.d, .slice n1.kp n1.kn n1.kc]] W fun e w' => e = .returned (.string T) ∧ Below W.heap.size W w') := Lib.hid fun W hW => by rw [← hT]; exact rPrint_any t n1 W _ hW.ta HPL.out
      have CB : Hid (∀ W, GrpS w t g1 g2 w3.heap.size g3 n1 n2 x kc3 W → Calls Try.prog 13 #[.agg #[.int .i64 n2.op, .int .u64 n2.set.a, .int .u64 n2.set.b, .int .u64 n2.set.c, .int .u64 n2.set.d, .slice n2.kp n2.kn n2.kc]] W fun e w' => e = .returned (.string T) ∧ Below W.heap.size W w') := Lib.hid fun W hW => by rw [← hT]; exact rPrint_any t n2 W _ hW.tb HPL.out
      have CX : Hid (∀ W, GrpS w t g1 g2 w3.heap.size g3 n1 n2 x kc3 W → Calls Try.prog 13 #[.agg #[.int .i64 x.op, .int .u64 x.set.a, .int .u64 x.set.b, .int .u64 x.set.c, .int .u64 x.set.d, .slice x.kp x.kn x.kc]] W fun e w' => e = .returned (.string T) ∧ Below W.heap.size W w') := Lib.hid fun W hW => by rw [← hT]; exact rPrint_any t x W _ hW.tx HPL.out
      clear hT HPL
      simp only at HS ⊢
      go_wp2_with fail
      generalize hg4 : w3.heap.size = g4 at *
      generalize hwb : w3.alloc (.cells #[.int .i64 4, .int .u64 W4.zero.a, .int .u64 W4.zero.b, .int .u64 W4.zero.c, .int .u64 W4.zero.d, .slice (some ⟨g3, 0, none⟩) 1 kc3] 28) = wc at *
      clear hwb
      refine wp_region_held_drew (S := fun w' => GrpS w t g1 g2 g4 g3 n1 n2 x kc3 w') (by kernel_rfl) (GrpS.drew HS.out) (fun hHeld => ?_)
      refine wpAnyH_ready (rs := [0]) (by kernel_rfl) (by simp) ?_
      refine AllReadyH.cons (o := _) rfl (fun K hK => ?_) AllReadyH.nil
      go_simp
      refine (AW.out _).mono ?_
      rintro e w8 ⟨rfl, hb8⟩
      refine hK.out _ _ (hHeld.below hb8) (fun hHeld => ?_)
      clear hK K
      try simp only [List.getElem_toArray, List.getElem_cons_zero, List.getElem_cons_succ, Act.put, List.setIfInBounds_toArray, List.set_cons_zero, List.set_cons_succ]
      refine wpAnyH_take (i := 1) (oi := _) (v := ?_) rfl (by kernel_rfl) (by kernel_rfl) (by kernel_rfl) (fun _ _ _ h => h) (Or.inl ⟨by rfl, ?_⟩) (by assumption) ?_
      rotate_left
      · (intro w hSw; (obtain ⟨⟨q0, q1, q2, q3, q4, q5, _, _, _, _, _, _⟩, ⟨r0, r1, r2, r3, r4, r5, _, _, _, _, _, _⟩, ⟨s0, s1, s2, s3, s4, s5, _, _, _, _, _, _⟩⟩ := And.intro (BlkN.cells hSw.a) (And.intro (BlkN.cells hSw.b) (BlkN.cells hSw.c))); obtain ⟨y0, y1, y2, y3, y4, y5⟩ := kid_all hSw.row rfl 0 (by decide) x rfl; go_simp; try with_reducible rfl)
      try simp only [List.getElem_toArray, List.getElem_cons_zero, List.getElem_cons_succ, Act.put, List.setIfInBounds_toArray, List.set_cons_zero, List.set_cons_succ]
      refine wpAnyH_take (i := 2) (oi := _) (v := ?_) rfl (by kernel_rfl) (by kernel_rfl) (by kernel_rfl) (fun _ _ _ h => h) (Or.inl ⟨by rfl, ?_⟩) (by assumption) ?_
      rotate_left
      · (intro w hSw; (obtain ⟨⟨q0, q1, q2, q3, q4, q5, _, _, _, _, _, _⟩, ⟨r0, r1, r2, r3, r4, r5, _, _, _, _, _, _⟩, ⟨s0, s1, s2, s3, s4, s5, _, _, _, _, _, _⟩⟩ := And.intro (BlkN.cells hSw.a) (And.intro (BlkN.cells hSw.b) (BlkN.cells hSw.c))); obtain ⟨y0, y1, y2, y3, y4, y5⟩ := kid_all hSw.row rfl 0 (by decide) x rfl; go_simp; try with_reducible rfl)
      try simp only [List.getElem_toArray, List.getElem_cons_zero, List.getElem_cons_succ, Act.put, List.setIfInBounds_toArray, List.set_cons_zero, List.set_cons_succ]
      refine wpAnyH_take (i := 3) (oi := _) (v := ?_) rfl (by kernel_rfl) (by kernel_rfl) (by kernel_rfl) (fun _ _ _ h => h) (Or.inl ⟨by rfl, ?_⟩) (by assumption) ?_
      rotate_left
      · (intro w hSw; (obtain ⟨⟨q0, q1, q2, q3, q4, q5, _, _, _, _, _, _⟩, ⟨r0, r1, r2, r3, r4, r5, _, _, _, _, _, _⟩, ⟨s0, s1, s2, s3, s4, s5, _, _, _, _, _, _⟩⟩ := And.intro (BlkN.cells hSw.a) (And.intro (BlkN.cells hSw.b) (BlkN.cells hSw.c))); obtain ⟨y0, y1, y2, y3, y4, y5⟩ := kid_all hSw.row rfl 0 (by decide) x rfl; go_simp; try with_reducible rfl)
      try simp only [List.getElem_toArray, List.getElem_cons_zero, List.getElem_cons_succ, Act.put, List.setIfInBounds_toArray, List.set_cons_zero, List.set_cons_succ]
      refine wpAnyH_take (i := 4) (oi := _) (v := ?_) rfl (by kernel_rfl) (by kernel_rfl) (by kernel_rfl) (fun _ _ _ h => h) (Or.inl ⟨by rfl, ?_⟩) (by assumption) ?_
      rotate_left
      · (intro w hSw; (obtain ⟨⟨q0, q1, q2, q3, q4, q5, _, _, _, _, _, _⟩, ⟨r0, r1, r2, r3, r4, r5, _, _, _, _, _, _⟩, ⟨s0, s1, s2, s3, s4, s5, _, _, _, _, _, _⟩⟩ := And.intro (BlkN.cells hSw.a) (And.intro (BlkN.cells hSw.b) (BlkN.cells hSw.c))); obtain ⟨y0, y1, y2, y3, y4, y5⟩ := kid_all hSw.row rfl 0 (by decide) x rfl; go_simp; try with_reducible rfl)
      try simp only [List.getElem_toArray, List.getElem_cons_zero, List.getElem_cons_succ, Act.put, List.setIfInBounds_toArray, List.set_cons_zero, List.set_cons_succ]
      refine wpAnyH_take (i := 5) (oi := _) (v := ?_) rfl (by kernel_rfl) (by kernel_rfl) (by kernel_rfl) (fun _ _ _ h => h) (Or.inl ⟨by rfl, ?_⟩) (by assumption) ?_
      rotate_left
      · (intro w hSw; (obtain ⟨⟨q0, q1, q2, q3, q4, q5, _, _, _, _, _, _⟩, ⟨r0, r1, r2, r3, r4, r5, _, _, _, _, _, _⟩, ⟨s0, s1, s2, s3, s4, s5, _, _, _, _, _, _⟩⟩ := And.intro (BlkN.cells hSw.a) (And.intro (BlkN.cells hSw.b) (BlkN.cells hSw.c))); obtain ⟨y0, y1, y2, y3, y4, y5⟩ := kid_all hSw.row rfl 0 (by decide) x rfl; go_simp; try with_reducible rfl)
      try simp only [List.getElem_toArray, List.getElem_cons_zero, List.getElem_cons_succ, Act.put, List.setIfInBounds_toArray, List.set_cons_zero, List.set_cons_succ]
      refine wpAnyH_take (i := 6) (oi := _) (v := ?_) rfl (by kernel_rfl) (by kernel_rfl) (by kernel_rfl) (fun _ _ _ h => h) (Or.inl ⟨by rfl, ?_⟩) (by assumption) ?_
      rotate_left
      · (intro w hSw; (obtain ⟨⟨q0, q1, q2, q3, q4, q5, _, _, _, _, _, _⟩, ⟨r0, r1, r2, r3, r4, r5, _, _, _, _, _, _⟩, ⟨s0, s1, s2, s3, s4, s5, _, _, _, _, _, _⟩⟩ := And.intro (BlkN.cells hSw.a) (And.intro (BlkN.cells hSw.b) (BlkN.cells hSw.c))); obtain ⟨y0, y1, y2, y3, y4, y5⟩ := kid_all hSw.row rfl 0 (by decide) x rfl; go_simp; try with_reducible rfl)
      try simp only [List.getElem_toArray, List.getElem_cons_zero, List.getElem_cons_succ, Act.put, List.setIfInBounds_toArray, List.set_cons_zero, List.set_cons_succ]
      refine wpAnyH_take (i := 8) (oi := _) (v := ?_) rfl (by kernel_rfl) (by kernel_rfl) (by kernel_rfl) (fun _ _ _ h => h) (Or.inl ⟨by rfl, ?_⟩) (by assumption) ?_
      rotate_left
      · (intro w hSw; (obtain ⟨⟨q0, q1, q2, q3, q4, q5, _, _, _, _, _, _⟩, ⟨r0, r1, r2, r3, r4, r5, _, _, _, _, _, _⟩, ⟨s0, s1, s2, s3, s4, s5, _, _, _, _, _, _⟩⟩ := And.intro (BlkN.cells hSw.a) (And.intro (BlkN.cells hSw.b) (BlkN.cells hSw.c))); obtain ⟨y0, y1, y2, y3, y4, y5⟩ := kid_all hSw.row rfl 0 (by decide) x rfl; go_simp; try with_reducible rfl)
      try simp only [List.getElem_toArray, List.getElem_cons_zero, List.getElem_cons_succ, Act.put, List.setIfInBounds_toArray, List.set_cons_zero, List.set_cons_succ]
      refine wpAnyH_ready (rs := [7]) (by kernel_rfl) (by simp) ?_
      refine AllReadyH.cons (o := _) rfl (fun K hK => ?_) AllReadyH.nil
      go_simp
      refine (CB.out _ hHeld).mono ?_
      rintro e w8 ⟨rfl, hb8⟩
      refine hK.out _ _ (hHeld.below hb8) (fun hHeld => ?_)
      clear hK K
      try simp only [List.getElem_toArray, List.getElem_cons_zero, List.getElem_cons_succ, Act.put, List.setIfInBounds_toArray, List.set_cons_zero, List.set_cons_succ]
      refine wpAnyH_ready (rs := [9]) (by kernel_rfl) (by simp) ?_
      refine AllReadyH.cons (o := _) rfl (fun K hK => ?_) AllReadyH.nil
      go_simp
      refine (CA.out _ hHeld).mono ?_
      rintro e w8 ⟨rfl, hb8⟩
      refine hK.out _ _ (hHeld.below hb8) (fun hHeld => ?_)
      clear hK K
      try simp only [List.getElem_toArray, List.getElem_cons_zero, List.getElem_cons_succ, Act.put, List.setIfInBounds_toArray, List.set_cons_zero, List.set_cons_succ]
      refine wpAnyH_take (i := 10) (oi := _) (v := ?_) rfl (by kernel_rfl) (by kernel_rfl) (by kernel_rfl) (fun _ _ _ h => h) (Or.inl ⟨by rfl, ?_⟩) (by assumption) ?_
      rotate_left
      · (intro w hSw; (obtain ⟨⟨q0, q1, q2, q3, q4, q5, _, _, _, _, _, _⟩, ⟨r0, r1, r2, r3, r4, r5, _, _, _, _, _, _⟩, ⟨s0, s1, s2, s3, s4, s5, _, _, _, _, _, _⟩⟩ := And.intro (BlkN.cells hSw.a) (And.intro (BlkN.cells hSw.b) (BlkN.cells hSw.c))); obtain ⟨y0, y1, y2, y3, y4, y5⟩ := kid_all hSw.row rfl 0 (by decide) x rfl; go_simp; (try rw [beq_self_eq_true]); try with_reducible rfl)
      try simp only [List.getElem_toArray, List.getElem_cons_zero, List.getElem_cons_succ, Act.put, List.setIfInBounds_toArray, List.set_cons_zero, List.set_cons_succ]
      refine wpAnyH_take (i := 11) (oi := _) (v := ?_) rfl (by kernel_rfl) (by kernel_rfl) (by kernel_rfl) (fun _ _ _ h => h) (Or.inl ⟨by rfl, ?_⟩) (by assumption) ?_
      rotate_left
      · (intro w hSw; (obtain ⟨⟨q0, q1, q2, q3, q4, q5, _, _, _, _, _, _⟩, ⟨r0, r1, r2, r3, r4, r5, _, _, _, _, _, _⟩, ⟨s0, s1, s2, s3, s4, s5, _, _, _, _, _, _⟩⟩ := And.intro (BlkN.cells hSw.a) (And.intro (BlkN.cells hSw.b) (BlkN.cells hSw.c))); obtain ⟨y0, y1, y2, y3, y4, y5⟩ := kid_all hSw.row rfl 0 (by decide) x rfl; go_simp; try with_reducible rfl)
      try simp only [List.getElem_toArray, List.getElem_cons_zero, List.getElem_cons_succ, Act.put, List.setIfInBounds_toArray, List.set_cons_zero, List.set_cons_succ]
      refine wpAnyH_take (i := 12) (oi := _) (v := ?_) rfl (by kernel_rfl) (by kernel_rfl) (by kernel_rfl) (fun _ _ _ h => h) (Or.inl ⟨by rfl, ?_⟩) (by assumption) ?_
      rotate_left
      · (intro w hSw; (obtain ⟨⟨q0, q1, q2, q3, q4, q5, _, _, _, _, _, _⟩, ⟨r0, r1, r2, r3, r4, r5, _, _, _, _, _, _⟩, ⟨s0, s1, s2, s3, s4, s5, _, _, _, _, _, _⟩⟩ := And.intro (BlkN.cells hSw.a) (And.intro (BlkN.cells hSw.b) (BlkN.cells hSw.c))); obtain ⟨y0, y1, y2, y3, y4, y5⟩ := kid_all hSw.row rfl 0 (by decide) x rfl; go_simp; try with_reducible rfl)
      try simp only [List.getElem_toArray, List.getElem_cons_zero, List.getElem_cons_succ, Act.put, List.setIfInBounds_toArray, List.set_cons_zero, List.set_cons_succ]
      refine wpAnyH_take (i := 13) (oi := _) (v := ?_) rfl (by kernel_rfl) (by kernel_rfl) (by kernel_rfl) (fun _ _ _ h => h) (Or.inl ⟨by rfl, ?_⟩) (by assumption) ?_
      rotate_left
      · (intro w hSw; (obtain ⟨⟨q0, q1, q2, q3, q4, q5, _, _, _, _, _, _⟩, ⟨r0, r1, r2, r3, r4, r5, _, _, _, _, _, _⟩, ⟨s0, s1, s2, s3, s4, s5, _, _, _, _, _, _⟩⟩ := And.intro (BlkN.cells hSw.a) (And.intro (BlkN.cells hSw.b) (BlkN.cells hSw.c))); obtain ⟨y0, y1, y2, y3, y4, y5⟩ := kid_all hSw.row rfl 0 (by decide) x rfl; go_simp; try with_reducible rfl)
      try simp only [List.getElem_toArray, List.getElem_cons_zero, List.getElem_cons_succ, Act.put, List.setIfInBounds_toArray, List.set_cons_zero, List.set_cons_succ]
      refine wpAnyH_take (i := 14) (oi := _) (v := ?_) rfl (by kernel_rfl) (by kernel_rfl) (by kernel_rfl) (fun _ _ _ h => h) (Or.inl ⟨by rfl, ?_⟩) (by assumption) ?_
      rotate_left
      · (intro w hSw; (obtain ⟨⟨q0, q1, q2, q3, q4, q5, _, _, _, _, _, _⟩, ⟨r0, r1, r2, r3, r4, r5, _, _, _, _, _, _⟩, ⟨s0, s1, s2, s3, s4, s5, _, _, _, _, _, _⟩⟩ := And.intro (BlkN.cells hSw.a) (And.intro (BlkN.cells hSw.b) (BlkN.cells hSw.c))); obtain ⟨y0, y1, y2, y3, y4, y5⟩ := kid_all hSw.row rfl 0 (by decide) x rfl; go_simp; try with_reducible rfl)
      try simp only [List.getElem_toArray, List.getElem_cons_zero, List.getElem_cons_succ, Act.put, List.setIfInBounds_toArray, List.set_cons_zero, List.set_cons_succ]
      refine wpAnyH_take (i := 15) (oi := _) (v := ?_) rfl (by kernel_rfl) (by kernel_rfl) (by kernel_rfl) (fun _ _ _ h => h) (Or.inl ⟨by rfl, ?_⟩) (by assumption) ?_
      rotate_left
      · (intro w hSw; (obtain ⟨⟨q0, q1, q2, q3, q4, q5, _, _, _, _, _, _⟩, ⟨r0, r1, r2, r3, r4, r5, _, _, _, _, _, _⟩, ⟨s0, s1, s2, s3, s4, s5, _, _, _, _, _, _⟩⟩ := And.intro (BlkN.cells hSw.a) (And.intro (BlkN.cells hSw.b) (BlkN.cells hSw.c))); obtain ⟨y0, y1, y2, y3, y4, y5⟩ := kid_all hSw.row rfl 0 (by decide) x rfl; go_simp; try with_reducible rfl)
      try simp only [List.getElem_toArray, List.getElem_cons_zero, List.getElem_cons_succ, Act.put, List.setIfInBounds_toArray, List.set_cons_zero, List.set_cons_succ]
      refine wpAnyH_take (i := 16) (oi := _) (v := ?_) rfl (by kernel_rfl) (by kernel_rfl) (by kernel_rfl) (fun _ _ _ h => h) (Or.inl ⟨by rfl, ?_⟩) (by assumption) ?_
      rotate_left
      · (intro w hSw; (obtain ⟨⟨q0, q1, q2, q3, q4, q5, _, _, _, _, _, _⟩, ⟨r0, r1, r2, r3, r4, r5, _, _, _, _, _, _⟩, ⟨s0, s1, s2, s3, s4, s5, _, _, _, _, _, _⟩⟩ := And.intro (BlkN.cells hSw.a) (And.intro (BlkN.cells hSw.b) (BlkN.cells hSw.c))); obtain ⟨y0, y1, y2, y3, y4, y5⟩ := kid_all hSw.row rfl 0 (by decide) x rfl; go_simp; try with_reducible rfl)
      try simp only [List.getElem_toArray, List.getElem_cons_zero, List.getElem_cons_succ, Act.put, List.setIfInBounds_toArray, List.set_cons_zero, List.set_cons_succ]
      refine wpAnyH_take (i := 17) (oi := _) (v := ?_) rfl (by kernel_rfl) (by kernel_rfl) (by kernel_rfl) (fun _ _ _ h => h) (Or.inl ⟨by rfl, ?_⟩) (by assumption) ?_
      rotate_left
      · (intro w hSw; (obtain ⟨⟨q0, q1, q2, q3, q4, q5, _, _, _, _, _, _⟩, ⟨r0, r1, r2, r3, r4, r5, _, _, _, _, _, _⟩, ⟨s0, s1, s2, s3, s4, s5, _, _, _, _, _, _⟩⟩ := And.intro (BlkN.cells hSw.a) (And.intro (BlkN.cells hSw.b) (BlkN.cells hSw.c))); obtain ⟨y0, y1, y2, y3, y4, y5⟩ := kid_all hSw.row rfl 0 (by decide) x rfl; go_simp; try with_reducible rfl)
      try simp only [List.getElem_toArray, List.getElem_cons_zero, List.getElem_cons_succ, Act.put, List.setIfInBounds_toArray, List.set_cons_zero, List.set_cons_succ]
      refine wpAnyH_take (i := 18) (oi := _) (v := ?_) rfl (by kernel_rfl) (by kernel_rfl) (by kernel_rfl) (fun _ _ _ h => h) (Or.inl ⟨by rfl, ?_⟩) (by assumption) ?_
      rotate_left
      · (intro w hSw; (obtain ⟨⟨q0, q1, q2, q3, q4, q5, _, _, _, _, _, _⟩, ⟨r0, r1, r2, r3, r4, r5, _, _, _, _, _, _⟩, ⟨s0, s1, s2, s3, s4, s5, _, _, _, _, _, _⟩⟩ := And.intro (BlkN.cells hSw.a) (And.intro (BlkN.cells hSw.b) (BlkN.cells hSw.c))); obtain ⟨y0, y1, y2, y3, y4, y5⟩ := kid_all hSw.row rfl 0 (by decide) x rfl; go_simp; try with_reducible rfl)
      try simp only [List.getElem_toArray, List.getElem_cons_zero, List.getElem_cons_succ, Act.put, List.setIfInBounds_toArray, List.set_cons_zero, List.set_cons_succ]
      refine wpAnyH_take (i := 19) (oi := _) (v := ?_) rfl (by kernel_rfl) (by kernel_rfl) (by kernel_rfl) (fun _ _ _ h => h) (Or.inl ⟨by rfl, ?_⟩) (by assumption) ?_
      rotate_left
      · (intro w hSw; (obtain ⟨⟨q0, q1, q2, q3, q4, q5, _, _, _, _, _, _⟩, ⟨r0, r1, r2, r3, r4, r5, _, _, _, _, _, _⟩, ⟨s0, s1, s2, s3, s4, s5, _, _, _, _, _, _⟩⟩ := And.intro (BlkN.cells hSw.a) (And.intro (BlkN.cells hSw.b) (BlkN.cells hSw.c))); obtain ⟨y0, y1, y2, y3, y4, y5⟩ := kid_all hSw.row rfl 0 (by decide) x rfl; go_simp; try with_reducible rfl)
      try simp only [List.getElem_toArray, List.getElem_cons_zero, List.getElem_cons_succ, Act.put, List.setIfInBounds_toArray, List.set_cons_zero, List.set_cons_succ]
      refine wpAnyH_take (i := 20) (oi := _) (v := ?_) rfl (by kernel_rfl) (by kernel_rfl) (by kernel_rfl) (fun _ _ _ h => h) (Or.inl ⟨by rfl, ?_⟩) (by assumption) ?_
      rotate_left
      · (intro w hSw; (obtain ⟨⟨q0, q1, q2, q3, q4, q5, _, _, _, _, _, _⟩, ⟨r0, r1, r2, r3, r4, r5, _, _, _, _, _, _⟩, ⟨s0, s1, s2, s3, s4, s5, _, _, _, _, _, _⟩⟩ := And.intro (BlkN.cells hSw.a) (And.intro (BlkN.cells hSw.b) (BlkN.cells hSw.c))); obtain ⟨y0, y1, y2, y3, y4, y5⟩ := kid_all hSw.row rfl 0 (by decide) x rfl; go_simp; try with_reducible rfl)
      try simp only [List.getElem_toArray, List.getElem_cons_zero, List.getElem_cons_succ, Act.put, List.setIfInBounds_toArray, List.set_cons_zero, List.set_cons_succ]
      refine wpAnyH_take (i := 21) (oi := _) (v := ?_) rfl (by kernel_rfl) (by kernel_rfl) (by kernel_rfl) (fun _ _ _ h => h) (Or.inl ⟨by rfl, ?_⟩) (by assumption) ?_
      rotate_left
      · (intro w hSw; (obtain ⟨⟨q0, q1, q2, q3, q4, q5, _, _, _, _, _, _⟩, ⟨r0, r1, r2, r3, r4, r5, _, _, _, _, _, _⟩, ⟨s0, s1, s2, s3, s4, s5, _, _, _, _, _, _⟩⟩ := And.intro (BlkN.cells hSw.a) (And.intro (BlkN.cells hSw.b) (BlkN.cells hSw.c))); obtain ⟨y0, y1, y2, y3, y4, y5⟩ := kid_all hSw.row rfl 0 (by decide) x rfl; go_simp; try with_reducible rfl)
      try simp only [List.getElem_toArray, List.getElem_cons_zero, List.getElem_cons_succ, Act.put, List.setIfInBounds_toArray, List.set_cons_zero, List.set_cons_succ]
      refine wpAnyH_take (i := 22) (oi := _) (v := ?_) rfl (by kernel_rfl) (by kernel_rfl) (by kernel_rfl) (fun _ _ _ h => h) (Or.inl ⟨by rfl, ?_⟩) (by assumption) ?_
      rotate_left
      · (intro w hSw; (obtain ⟨⟨q0, q1, q2, q3, q4, q5, _, _, _, _, _, _⟩, ⟨r0, r1, r2, r3, r4, r5, _, _, _, _, _, _⟩, ⟨s0, s1, s2, s3, s4, s5, _, _, _, _, _, _⟩⟩ := And.intro (BlkN.cells hSw.a) (And.intro (BlkN.cells hSw.b) (BlkN.cells hSw.c))); obtain ⟨y0, y1, y2, y3, y4, y5⟩ := kid_all hSw.row rfl 0 (by decide) x rfl; go_simp; try with_reducible rfl)
      try simp only [List.getElem_toArray, List.getElem_cons_zero, List.getElem_cons_succ, Act.put, List.setIfInBounds_toArray, List.set_cons_zero, List.set_cons_succ]
      refine wpAnyH_take (i := 23) (oi := _) (v := ?_) rfl (by kernel_rfl) (by kernel_rfl) (by kernel_rfl) (fun _ _ _ h => h) (Or.inl ⟨by rfl, ?_⟩) (by assumption) ?_
      rotate_left
      · (intro w hSw; (obtain ⟨⟨q0, q1, q2, q3, q4, q5, _, _, _, _, _, _⟩, ⟨r0, r1, r2, r3, r4, r5, _, _, _, _, _, _⟩, ⟨s0, s1, s2, s3, s4, s5, _, _, _, _, _, _⟩⟩ := And.intro (BlkN.cells hSw.a) (And.intro (BlkN.cells hSw.b) (BlkN.cells hSw.c))); obtain ⟨y0, y1, y2, y3, y4, y5⟩ := kid_all hSw.row rfl 0 (by decide) x rfl; go_simp; try with_reducible rfl)
      try simp only [List.getElem_toArray, List.getElem_cons_zero, List.getElem_cons_succ, Act.put, List.setIfInBounds_toArray, List.set_cons_zero, List.set_cons_succ]
      refine wpAnyH_take (i := 24) (oi := _) (v := ?_) rfl (by kernel_rfl) (by kernel_rfl) (by kernel_rfl) (fun _ _ _ h => h) (Or.inl ⟨by rfl, ?_⟩) (by assumption) ?_
      rotate_left
      · (intro w hSw; (obtain ⟨⟨q0, q1, q2, q3, q4, q5, _, _, _, _, _, _⟩, ⟨r0, r1, r2, r3, r4, r5, _, _, _, _, _, _⟩, ⟨s0, s1, s2, s3, s4, s5, _, _, _, _, _, _⟩⟩ := And.intro (BlkN.cells hSw.a) (And.intro (BlkN.cells hSw.b) (BlkN.cells hSw.c))); obtain ⟨y0, y1, y2, y3, y4, y5⟩ := kid_all hSw.row rfl 0 (by decide) x rfl; go_simp; try with_reducible rfl)
      try simp only [List.getElem_toArray, List.getElem_cons_zero, List.getElem_cons_succ, Act.put, List.setIfInBounds_toArray, List.set_cons_zero, List.set_cons_succ]
      refine wpAnyH_take (i := 25) (oi := _) (v := ?_) rfl (by kernel_rfl) (by kernel_rfl) (by kernel_rfl) (fun _ _ _ h => h) (Or.inl ⟨by rfl, ?_⟩) (by assumption) ?_
      rotate_left
      · (intro w hSw; (obtain ⟨⟨q0, q1, q2, q3, q4, q5, _, _, _, _, _, _⟩, ⟨r0, r1, r2, r3, r4, r5, _, _, _, _, _, _⟩, ⟨s0, s1, s2, s3, s4, s5, _, _, _, _, _, _⟩⟩ := And.intro (BlkN.cells hSw.a) (And.intro (BlkN.cells hSw.b) (BlkN.cells hSw.c))); obtain ⟨y0, y1, y2, y3, y4, y5⟩ := kid_all hSw.row rfl 0 (by decide) x rfl; go_simp; try with_reducible rfl)
      try simp only [List.getElem_toArray, List.getElem_cons_zero, List.getElem_cons_succ, Act.put, List.setIfInBounds_toArray, List.set_cons_zero, List.set_cons_succ]
      refine wpAnyH_take (i := 26) (oi := _) (v := ?_) rfl (by kernel_rfl) (by kernel_rfl) (by kernel_rfl) (fun _ _ _ h => h) (Or.inl ⟨by rfl, ?_⟩) (by assumption) ?_
      rotate_left
      · (intro w hSw; (obtain ⟨⟨q0, q1, q2, q3, q4, q5, _, _, _, _, _, _⟩, ⟨r0, r1, r2, r3, r4, r5, _, _, _, _, _, _⟩, ⟨s0, s1, s2, s3, s4, s5, _, _, _, _, _, _⟩⟩ := And.intro (BlkN.cells hSw.a) (And.intro (BlkN.cells hSw.b) (BlkN.cells hSw.c))); obtain ⟨y0, y1, y2, y3, y4, y5⟩ := kid_all hSw.row rfl 0 (by decide) x rfl; go_simp; try with_reducible rfl)
      try simp only [List.getElem_toArray, List.getElem_cons_zero, List.getElem_cons_succ, Act.put, List.setIfInBounds_toArray, List.set_cons_zero, List.set_cons_succ]
      refine wpAnyH_take (i := 27) (oi := _) (v := ?_) rfl (by kernel_rfl) (by kernel_rfl) (by kernel_rfl) (fun _ _ _ h => h) (Or.inl ⟨by rfl, ?_⟩) (by assumption) ?_
      rotate_left
      · (intro w hSw; (obtain ⟨⟨q0, q1, q2, q3, q4, q5, _, _, _, _, _, _⟩, ⟨r0, r1, r2, r3, r4, r5, _, _, _, _, _, _⟩, ⟨s0, s1, s2, s3, s4, s5, _, _, _, _, _, _⟩⟩ := And.intro (BlkN.cells hSw.a) (And.intro (BlkN.cells hSw.b) (BlkN.cells hSw.c))); obtain ⟨y0, y1, y2, y3, y4, y5⟩ := kid_all hSw.row rfl 0 (by decide) x rfl; go_simp; try with_reducible rfl)
      try simp only [List.getElem_toArray, List.getElem_cons_zero, List.getElem_cons_succ, Act.put, List.setIfInBounds_toArray, List.set_cons_zero, List.set_cons_succ]
      refine wpAnyH_take (i := 28) (oi := _) (v := ?_) rfl (by kernel_rfl) (by kernel_rfl) (by kernel_rfl) (fun _ _ _ h => h) (Or.inl ⟨by rfl, ?_⟩) (by assumption) ?_
      rotate_left
      · (intro w hSw; (obtain ⟨⟨q0, q1, q2, q3, q4, q5, _, _, _, _, _, _⟩, ⟨r0, r1, r2, r3, r4, r5, _, _, _, _, _, _⟩, ⟨s0, s1, s2, s3, s4, s5, _, _, _, _, _, _⟩⟩ := And.intro (BlkN.cells hSw.a) (And.intro (BlkN.cells hSw.b) (BlkN.cells hSw.c))); obtain ⟨y0, y1, y2, y3, y4, y5⟩ := kid_all hSw.row rfl 0 (by decide) x rfl; go_simp; try with_reducible rfl)
      try simp only [List.getElem_toArray, List.getElem_cons_zero, List.getElem_cons_succ, Act.put, List.setIfInBounds_toArray, List.set_cons_zero, List.set_cons_succ]
      refine wpAnyH_take (i := 29) (oi := _) (v := ?_) rfl (by kernel_rfl) (by kernel_rfl) (by kernel_rfl) (fun _ _ _ h => h) (Or.inl ⟨by rfl, ?_⟩) (by assumption) ?_
      rotate_left
      · (intro w hSw; (obtain ⟨⟨q0, q1, q2, q3, q4, q5, _, _, _, _, _, _⟩, ⟨r0, r1, r2, r3, r4, r5, _, _, _, _, _, _⟩, ⟨s0, s1, s2, s3, s4, s5, _, _, _, _, _, _⟩⟩ := And.intro (BlkN.cells hSw.a) (And.intro (BlkN.cells hSw.b) (BlkN.cells hSw.c))); obtain ⟨y0, y1, y2, y3, y4, y5⟩ := kid_all hSw.row rfl 0 (by decide) x rfl; go_simp; try with_reducible rfl)
      try simp only [List.getElem_toArray, List.getElem_cons_zero, List.getElem_cons_succ, Act.put, List.setIfInBounds_toArray, List.set_cons_zero, List.set_cons_succ]
      refine wpAnyH_take (i := 30) (oi := _) (v := ?_) rfl (by kernel_rfl) (by kernel_rfl) (by kernel_rfl) (fun _ _ _ h => h) (Or.inl ⟨by rfl, ?_⟩) (by assumption) ?_
      rotate_left
      · (intro w hSw; (obtain ⟨⟨q0, q1, q2, q3, q4, q5, _, _, _, _, _, _⟩, ⟨r0, r1, r2, r3, r4, r5, _, _, _, _, _, _⟩, ⟨s0, s1, s2, s3, s4, s5, _, _, _, _, _, _⟩⟩ := And.intro (BlkN.cells hSw.a) (And.intro (BlkN.cells hSw.b) (BlkN.cells hSw.c))); obtain ⟨y0, y1, y2, y3, y4, y5⟩ := kid_all hSw.row rfl 0 (by decide) x rfl; go_simp; try with_reducible rfl)
      try simp only [List.getElem_toArray, List.getElem_cons_zero, List.getElem_cons_succ, Act.put, List.setIfInBounds_toArray, List.set_cons_zero, List.set_cons_succ]
      refine wpAnyH_take (i := 31) (oi := _) (v := ?_) rfl (by kernel_rfl) (by kernel_rfl) (by kernel_rfl) (fun _ _ _ h => h) (Or.inl ⟨by rfl, ?_⟩) (by assumption) ?_
      rotate_left
      · (intro w hSw; (obtain ⟨⟨q0, q1, q2, q3, q4, q5, _, _, _, _, _, _⟩, ⟨r0, r1, r2, r3, r4, r5, _, _, _, _, _, _⟩, ⟨s0, s1, s2, s3, s4, s5, _, _, _, _, _, _⟩⟩ := And.intro (BlkN.cells hSw.a) (And.intro (BlkN.cells hSw.b) (BlkN.cells hSw.c))); obtain ⟨y0, y1, y2, y3, y4, y5⟩ := kid_all hSw.row rfl 0 (by decide) x rfl; go_simp; try with_reducible rfl)
      try simp only [List.getElem_toArray, List.getElem_cons_zero, List.getElem_cons_succ, Act.put, List.setIfInBounds_toArray, List.set_cons_zero, List.set_cons_succ]
      refine wpAnyH_take (i := 33) (oi := _) (v := ?_) rfl (by kernel_rfl) (by kernel_rfl) (by kernel_rfl) (fun _ _ _ h => h) (Or.inl ⟨by rfl, ?_⟩) (by assumption) ?_
      rotate_left
      · (intro w hSw; (obtain ⟨⟨q0, q1, q2, q3, q4, q5, _, _, _, _, _, _⟩, ⟨r0, r1, r2, r3, r4, r5, _, _, _, _, _, _⟩, ⟨s0, s1, s2, s3, s4, s5, _, _, _, _, _, _⟩⟩ := And.intro (BlkN.cells hSw.a) (And.intro (BlkN.cells hSw.b) (BlkN.cells hSw.c))); obtain ⟨y0, y1, y2, y3, y4, y5⟩ := kid_all hSw.row rfl 0 (by decide) x rfl; go_simp; try with_reducible rfl)
      try simp only [List.getElem_toArray, List.getElem_cons_zero, List.getElem_cons_succ, Act.put, List.setIfInBounds_toArray, List.set_cons_zero, List.set_cons_succ]
      refine wpAnyH_ready (rs := [32]) (by kernel_rfl) (by simp) ?_
      refine AllReadyH.cons (o := _) rfl (fun K hK => ?_) AllReadyH.nil
      go_simp
      refine (CX.out _ hHeld).mono ?_
      rintro e w8 ⟨rfl, hb8⟩
      refine hK.out _ _ (hHeld.below hb8) (fun hHeld => ?_)
      clear hK K
      try simp only [List.getElem_toArray, List.getElem_cons_zero, List.getElem_cons_succ, Act.put, List.setIfInBounds_toArray, List.set_cons_zero, List.set_cons_succ]
      refine wpAnyH_ready (rs := [34]) (by kernel_rfl) (by simp) ?_
      refine AllReadyH.cons (o := _) rfl (fun K hK => ?_) AllReadyH.nil
      go_simp
      refine (CA.out _ hHeld).mono ?_
      rintro e w8 ⟨rfl, hb8⟩
      refine hK.out _ _ (hHeld.below hb8) (fun hHeld => ?_)
      clear hK K
      try simp only [List.getElem_toArray, List.getElem_cons_zero, List.getElem_cons_succ, Act.put, List.setIfInBounds_toArray, List.set_cons_zero, List.set_cons_succ]
      refine wpAnyH_take (i := 35) (oi := _) (v := ?_) rfl (by kernel_rfl) (by kernel_rfl) (by kernel_rfl) (fun _ _ _ h => h) (Or.inl ⟨by rfl, ?_⟩) (by assumption) ?_
      rotate_left
      · (intro w hSw; (obtain ⟨⟨q0, q1, q2, q3, q4, q5, _, _, _, _, _, _⟩, ⟨r0, r1, r2, r3, r4, r5, _, _, _, _, _, _⟩, ⟨s0, s1, s2, s3, s4, s5, _, _, _, _, _, _⟩⟩ := And.intro (BlkN.cells hSw.a) (And.intro (BlkN.cells hSw.b) (BlkN.cells hSw.c))); obtain ⟨y0, y1, y2, y3, y4, y5⟩ := kid_all hSw.row rfl 0 (by decide) x rfl; go_simp; (try rw [beq_self_eq_true]); try with_reducible rfl)
      try simp only [List.getElem_toArray, List.getElem_cons_zero, List.getElem_cons_succ, Act.put, List.setIfInBounds_toArray, List.set_cons_zero, List.set_cons_succ]
      refine wpAnyH_take (i := 36) (oi := _) (v := ?_) rfl (by kernel_rfl) (by kernel_rfl) (by kernel_rfl) (fun _ _ _ h => h) (Or.inl ⟨by rfl, ?_⟩) (by assumption) ?_
      rotate_left
      · (intro w hSw; (obtain ⟨⟨q0, q1, q2, q3, q4, q5, _, _, _, _, _, _⟩, ⟨r0, r1, r2, r3, r4, r5, _, _, _, _, _, _⟩, ⟨s0, s1, s2, s3, s4, s5, _, _, _, _, _, _⟩⟩ := And.intro (BlkN.cells hSw.a) (And.intro (BlkN.cells hSw.b) (BlkN.cells hSw.c))); obtain ⟨y0, y1, y2, y3, y4, y5⟩ := kid_all hSw.row rfl 0 (by decide) x rfl; go_simp; try with_reducible rfl)
      try simp only [List.getElem_toArray, List.getElem_cons_zero, List.getElem_cons_succ, Act.put, List.setIfInBounds_toArray, List.set_cons_zero, List.set_cons_succ]
      refine wpAnyH_take (i := 37) (oi := _) (v := ?_) rfl (by kernel_rfl) (by kernel_rfl) (by kernel_rfl) (fun _ _ _ h => h) (Or.inl ⟨by rfl, ?_⟩) (by assumption) ?_
      rotate_left
      · (intro w hSw; (obtain ⟨⟨q0, q1, q2, q3, q4, q5, _, _, _, _, _, _⟩, ⟨r0, r1, r2, r3, r4, r5, _, _, _, _, _, _⟩, ⟨s0, s1, s2, s3, s4, s5, _, _, _, _, _, _⟩⟩ := And.intro (BlkN.cells hSw.a) (And.intro (BlkN.cells hSw.b) (BlkN.cells hSw.c))); obtain ⟨y0, y1, y2, y3, y4, y5⟩ := kid_all hSw.row rfl 0 (by decide) x rfl; go_simp; try with_reducible rfl)
      try simp only [List.getElem_toArray, List.getElem_cons_zero, List.getElem_cons_succ, Act.put, List.setIfInBounds_toArray, List.set_cons_zero, List.set_cons_succ]
      refine wpAnyH_done (by kernel_rfl) ?_ _
      have HB9 := Lib.hid hHeld.bel
      clear hHeld
      go_wp2_with fail
      go_ret
      exact ⟨ret_true (by simp), HB9.out⟩
    · rw [← HAL.out.1] at hm1
      rw [← HAL.out.2] at hm2
      obtain rfl := HRA.out.told hm1
      obtain rfl := HRB.out.told hm2
      have HB2 := Lib.hid (show Below w.heap.size w (w3.alloc (.cells #[.int .i64 n3.op, .int .u64 n3.set.a, .int .u64 n3.set.b, .int .u64 n3.set.c, .int .u64 n3.set.d, .slice n3.kp n3.kn n3.kc] 28)) from by
        have h9 := HB1.out.trans (HBb.out.mono HB1.out.size)
        exact h9.trans (HBd.out.mono h9.size))
      go_wp2_with fail
      refine (AW.out _).mono ?_
      rintro e w5 ⟨rfl, hb5⟩
      have HB5 := Lib.hid (HB2.out.trans (hb5.mono HB2.out.size))
      clear hb5
      go_wp2_with fail
      go_ret
      exact ⟨rfl, HB5.out⟩
  · have h1b : ((er1 : Int) != 0) = true := by rw [bne_iff_ne]; omega
    have HB2 := HB1
    go_wp2_with fail
    refine (AW.out _).mono ?_
    rintro e w5 ⟨rfl, hb5⟩
    have HB5 := Lib.hid (HB2.out.trans (hb5.mono HB2.out.size))
    clear hb5
    go_wp2_with fail
    go_ret
    exact ⟨rfl, HB5.out⟩
end Go.Proofs.Ytgdalmdjbakbdaa
