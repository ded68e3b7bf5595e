/-
  THE WALK of scribelaw09.RegexNots: it returns true and writes to nothing that was there.
-/
import Derived.Test.YtgdalmdjbakbdaaRgN
import Derived.Test.YtgdalmdjbakbdaaCutA
import Derived.Deep.RegionHeld3
namespace Go.Proofs.Ytgdalmdjbakbdaa
open Go.RowKit

theorem ret_true {z : Bool} (h : z = true) : Ending.returned (.bool z) = .returned (.bool true) := by rw [h]
/-- What a call of Parse leaves: a node in its cell's block, an error's number. -/
def Ran (s : ByteArray) (w : World) (nd : Nd) (at_ er : Nat) : Prop :=
  (er = 0 ∧ at_ = 0 ∧ ∃ t r, topR withW notW orW s.data.toList = .ok (t, r) ∧ nd.op = (t.op : Int) ∧ nd.set = t.set ∧ TreeN w (fun _ => True) t nd) ∨ ((er = 9 ∨ er = 14) ∧ nd = Nd.zero ∧ ∃ n, topR withW notW orW s.data.toList = .error (n, er))
theorem Ran.ok {s : ByteArray} {w : World} {nd : Nd} {a : Nat} (h : Ran s w nd a 0) : ∃ t r, topR withW notW orW s.data.toList = .ok (t, r) ∧ nd.op = (t.op : Int) ∧ nd.set = t.set := by
  rcases h with ⟨_, _, t, r, h5, h6, h7, _⟩ | ⟨h, _⟩
  · exact ⟨t, r, h5, h6, h7⟩
  · omega
theorem rparse_ran (s : ByteArray) (hs : s.size ≤ 300) (w : World) :
    Calls Try.prog 10 #[.string s] w fun e w' => ∃ (nd : Nd) (a er : Nat), e = .returned (.tuple #[nd.val, .int .i64 (a : Int), .int .i64 (er : Int)]) ∧ Ran s w' nd a er ∧ Below w.heap.size w w' :=
  (rparse_any s w hs).mono fun e w' ⟨hb, hp⟩ => by
    rcases hp with ⟨t, r, nd, h1, h2, h3⟩ | ⟨n, k, h1, h2, _, h4⟩
    · have h5 := h3
      obtain ⟨op, st, ks⟩ := t
      unfold TreeN at h5
      exact ⟨nd, 0, 0, h2, .inl ⟨rfl, rfl, _, r, h1, h5.1, h5.2.1, h3.kept (fun _ _ _ => rfl) (fun _ _ _ => trivial)⟩, hb⟩
    · exact ⟨Nd.zero, s.size - n, k, h4, .inr ⟨h2, rfl, n, h1⟩, hb⟩
set_option maxHeartbeats 8000000 in
set_option maxRecDepth 100000 in
theorem nots_walk (s0 : ByteArray) (w0 : s0.size ≤ maxLen) (w : World) :
    Calls Try.prog 7 #[.string s0] w fun e w' => e = .returned (.bool true) ∧ Below w.heap.size w w' := by
  have C0 : Hid (∀ W, Calls Try.prog 9 #[.string s0, .int .i64 40] W fun e w' => e = .returned (.string (cutB s0 40)) ∧ W = w') := Lib.hid fun W => cut_any s0 40 W w0 (by omega)
  have hts := cutB_size s0 40
  generalize cutB s0 40 = s at *
  obtain ⟨A, hA⟩ : ∃ A, (⟨#[91]⟩ : ByteArray) ++ s ++ ⟨#[93]⟩ = A := ⟨_, rfl⟩
  obtain ⟨B, hB⟩ : ∃ B, (⟨#[91, 94]⟩ : ByteArray) ++ s ++ ⟨#[93]⟩ = B := ⟨_, rfl⟩
  have hAl : A.data.toList = 91 :: (s.data.toList ++ [93]) := by rw [← hA]; simp [ByteArray.data_append]
  have hBl : B.data.toList = 91 :: 94 :: (s.data.toList ++ [93]) := by rw [← hB]; simp [ByteArray.data_append]
  have z1 : (⟨#[91]⟩ : ByteArray).size = 1 := rfl
  have z2 : (⟨#[93]⟩ : ByteArray).size = 1 := rfl
  have z3 : (⟨#[91, 94]⟩ : ByteArray).size = 2 := rfl
  have hAs : A.size ≤ 300 := by rw [← hA, ByteArray.size_append, ByteArray.size_append]; omega
  have hBs : B.size ≤ 300 := by rw [← hB, ByteArray.size_append, ByteArray.size_append]; omega
  clear z1 z2 z3
  have PA := Lib.hid (rparse_ran A hAs)
  have PB := Lib.hid (rparse_ran B hBs)
  have AW := Lib.hid ragwake_any
  have NT := Lib.hid rnot_x
  have HA := Lib.hid hA
  have HB := Lib.hid hB
  have HAL := Lib.hid (And.intro hAl hBl)
  clear hA hB hAl hBl hAs hBs w0
  go_enter Try.func7, Try.ntmps7
  go_wp2_with ((with_reducible refine (C0.out _).mono ?_); rintro e w' ⟨rfl, rfl⟩)
  rw [HA.out]
  refine (PA.out _).mono ?_
  rintro e w1 ⟨n1, a1, er1, rfl, hra1, hb1⟩
  have HRA := Lib.hid hra1
  have HN1 := Lib.hid (show BlkN (w1.alloc (.cells #[.int .i64 n1.op, .int .u64 n1.set.a, .int .u64 n1.set.b, .int .u64 n1.set.c, .int .u64 n1.set.d, .slice n1.kp n1.kn n1.kc] 28)) w1.heap.size n1 from heap_alloc_new w1 _)
  have HB1 := Lib.hid (hb1.alloc hb1.size (.cells #[.int .i64 n1.op, .int .u64 n1.set.a, .int .u64 n1.set.b, .int .u64 n1.set.c, .int .u64 n1.set.d, .slice n1.kp n1.kn n1.kc] 28))
  clear hra1 hb1 PA
  unfold Nd.val
  go_wp2_with fail
  rw [HB.out]
  generalize w1.alloc (.cells #[.int .i64 n1.op, .int .u64 n1.set.a, .int .u64 n1.set.b, .int .u64 n1.set.c, .int .u64 n1.set.d, .slice n1.kp n1.kn n1.kc] 28) = wa at *
  generalize w1.heap.size = g1 at *
  refine (PB.out _).mono ?_
  rintro e w2 ⟨n2, a2, er2, rfl, hra2, hb2⟩
  have HRB := Lib.hid hra2
  have HG := Lib.hid (show g1 ≠ w2.heap.size from Nat.ne_of_lt (HN1.out.below hb2).lt)
  have HN1 := Lib.hid ((HN1.out.below hb2).alloc (.cells #[.int .i64 n2.op, .int .u64 n2.set.a, .int .u64 n2.set.b, .int .u64 n2.set.c, .int .u64 n2.set.d, .slice n2.kp n2.kn n2.kc] 28))
  have HN2 := Lib.hid (show BlkN (w2.alloc (.cells #[.int .i64 n2.op, .int .u64 n2.set.a, .int .u64 n2.set.b, .int .u64 n2.set.c, .int .u64 n2.set.d, .slice n2.kp n2.kn n2.kc] 28)) w2.heap.size n2 from heap_alloc_new w2 _)
  have HB2 := Lib.hid ((HB1.out.trans (hb2.mono HB1.out.size)).alloc (Nat.le_trans HB1.out.size hb2.size) (.cells #[.int .i64 n2.op, .int .u64 n2.set.a, .int .u64 n2.set.b, .int .u64 n2.set.c, .int .u64 n2.set.d, .slice n2.kp n2.kn n2.kc] 28))
  clear hra2 hb2 PB
  unfold Nd.val
  by_cases h1 : er1 = 0
  · subst h1
    by_cases h2 : er2 = 0
    · subst h2
      by_cases h3 : n1.op = 1
      · by_cases h4 : 0 < s.size ∧ ∃ h : 0 < s.size, s[0] = 94
        · obtain ⟨h5, h6, h7⟩ := h4
          have hsi : 0 < (s.size : Int) := by omega
          have h8 : ((s[0].toNat : Int) == 94) = true := by rw [h7]; rfl
          clear h7
          obtain ⟨c0, c1, c2, c3, c4, c5, _, _, _, _, _, _⟩ := HN1.out.cells
          go_wp2_with fail
          refine (AW.out _).mono ?_
          rintro e w5 ⟨rfl, hb5⟩
          have HB5 := Lib.hid (HB2.out.trans (hb5.mono HB2.out.size))
          clear hb5
          go_wp2_with fail
          go_ret
          exact ⟨rfl, HB5.out⟩
        · have hd : (s.data.toList ++ [93]).head? ≠ some 94 := by
            intro hh
            rcases hl : s.data.toList with _ | ⟨x, l⟩
            · rw [hl] at hh; simp at hh
            · rw [hl] at hh
              have hx : x = 94 := by simpa using hh
              have hz : 0 < s.size := by
                have : s.data.toList.length = s.size := by simp
                rw [hl] at this; simp at this; omega
              have hg := rg_at s 0 hz
              rw [hl] at hg
              exact h4 ⟨hz, hz, by simp at hg; rw [← hg]; exact hx⟩
          obtain ⟨t, r, h5, h6, h7⟩ := HRA.out.ok
          obtain ⟨t', r', h5', h6', h7'⟩ := HRB.out.ok
          rw [HAL.out.1] at h5
          rw [HAL.out.2] at h5'
          obtain ⟨s2, h9, rfl⟩ := one_set h5 (by rw [h3] at h6; have : ((1 : Int)) = (t.op : Int) := h6; omega) hd
          rw [not_set h9] at h5'
          cases h5'
          have hq1 : n2.op = 1 := h6'
          have hq2 : n1.set = s2 := h7
          have hq3 : n2.set = notW n1.set := by rw [hq2]; exact h7'
          obtain ⟨op1, S1, kp1, kn1, kc1⟩ := n1
          obtain ⟨op2, S2, kp2, kn2, kc2⟩ := n2
          simp only at h3 hq1 hq3
          subst h3 hq1 hq3
          have HRB := HB2
          have EQS := run_eq_set (notW S1).a (notW S1).b (notW S1).c (notW S1).d
          clear h5 h6 h7 h6' h7' h9 hq2 hd HAL
          by_cases hs0 : 0 < s.size
          · have hsi : 0 < (s.size : Int) := by omega
            have h8 : ((s[0].toNat : Int) == 94) = false := by
              rw [Bool.eq_false_iff]
              intro hh
              have : (s[0].toNat : Int) = 94 := by simpa using hh
              exact h4 ⟨hs0, hs0, UInt8.toNat_inj.1 (by show s[0].toNat = 94; omega)⟩
            have h8n : ¬ (s[0].toNat : Int) = 94 := by simpa using h8
            clear h4
            obtain ⟨c0, c1, c2, c3, c4, c5, _, _, _, _, _, _⟩ := HN1.out.cells
            go_wp2_with fail
            clear c0 c1 c2 c3 c4 c5
            generalize hwb : w2.alloc (.cells #[.int .i64 1, .int .u64 (notW S1).a, .int .u64 (notW S1).b, .int .u64 (notW S1).c, .int .u64 (notW S1).d, .slice kp2 kn2 kc2] 28) = wb at *
            clear hwb
            refine wp_region_held_drew (S := fun w' => BlkN w' g1 ⟨1, S1, kp1, kn1, kc1⟩ ∧ BlkN w' w2.heap.size ⟨1, notW S1, kp2, kn2, kc2⟩ ∧ Below w.heap.size w w') (by kernel_rfl) (⟨HN1.out, HN2.out, HB2.out.drew⟩) (fun hHeld => ?_)
            refine wpAnyH_ready (rs := [0]) (by kernel_rfl) (by simp) ?_
            refine AllReadyH.cons (o := _) rfl (fun K hK => ?_) AllReadyH.nil
            go_simp
            refine (AW.out _).mono ?_
            rintro e w8 ⟨rfl, hb8⟩
            refine hK.out _ _ (⟨hHeld.1.below hb8, hHeld.2.1.below hb8, hHeld.2.2.trans (hb8.mono hHeld.2.2.size)⟩) (fun hHeld => ?_)
            clear hK K
            try simp only [List.getElem_toArray, List.getElem_cons_zero, List.getElem_cons_succ, Act.put, List.setIfInBounds_toArray, List.set_cons_zero, List.set_cons_succ]
            refine wpAnyH_take (i := 1) (oi := _) (v := ?_) rfl (by kernel_rfl) (by kernel_rfl) (by kernel_rfl) (fun _ _ _ h => h) (Or.inl ⟨by rfl, ?_⟩) (by assumption) ?_
            rotate_left
            · (intro w hSw; (obtain ⟨⟨q0, q1, q2, q3, q4, q5, _, _, _, _, _, _⟩, ⟨r0, r1, r2, r3, r4, r5, _, _, _, _, _, _⟩⟩ := And.intro (BlkN.cells hSw.1) (BlkN.cells hSw.2.1)); go_simp; try with_reducible rfl)
            try simp only [List.getElem_toArray, List.getElem_cons_zero, List.getElem_cons_succ, Act.put, List.setIfInBounds_toArray, List.set_cons_zero, List.set_cons_succ]
            refine wpAnyH_take (i := 2) (oi := _) (v := ?_) rfl (by kernel_rfl) (by kernel_rfl) (by kernel_rfl) (fun _ _ _ h => h) (Or.inl ⟨by rfl, ?_⟩) (by assumption) ?_
            rotate_left
            · (intro w hSw; (obtain ⟨⟨q0, q1, q2, q3, q4, q5, _, _, _, _, _, _⟩, ⟨r0, r1, r2, r3, r4, r5, _, _, _, _, _, _⟩⟩ := And.intro (BlkN.cells hSw.1) (BlkN.cells hSw.2.1)); go_simp; try with_reducible rfl)
            try simp only [List.getElem_toArray, List.getElem_cons_zero, List.getElem_cons_succ, Act.put, List.setIfInBounds_toArray, List.set_cons_zero, List.set_cons_succ]
            refine wpAnyH_take (i := 3) (oi := _) (v := ?_) rfl (by kernel_rfl) (by kernel_rfl) (by kernel_rfl) (fun _ _ _ h => h) (Or.inl ⟨by rfl, ?_⟩) (by assumption) ?_
            rotate_left
            · (intro w hSw; (obtain ⟨⟨q0, q1, q2, q3, q4, q5, _, _, _, _, _, _⟩, ⟨r0, r1, r2, r3, r4, r5, _, _, _, _, _, _⟩⟩ := And.intro (BlkN.cells hSw.1) (BlkN.cells hSw.2.1)); go_simp; try with_reducible rfl)
            try simp only [List.getElem_toArray, List.getElem_cons_zero, List.getElem_cons_succ, Act.put, List.setIfInBounds_toArray, List.set_cons_zero, List.set_cons_succ]
            refine wpAnyH_take (i := 4) (oi := _) (v := ?_) rfl (by kernel_rfl) (by kernel_rfl) (by kernel_rfl) (fun _ _ _ h => h) (Or.inl ⟨by rfl, ?_⟩) (by assumption) ?_
            rotate_left
            · (intro w hSw; (obtain ⟨⟨q0, q1, q2, q3, q4, q5, _, _, _, _, _, _⟩, ⟨r0, r1, r2, r3, r4, r5, _, _, _, _, _, _⟩⟩ := And.intro (BlkN.cells hSw.1) (BlkN.cells hSw.2.1)); go_simp; try with_reducible rfl)
            try simp only [List.getElem_toArray, List.getElem_cons_zero, List.getElem_cons_succ, Act.put, List.setIfInBounds_toArray, List.set_cons_zero, List.set_cons_succ]
            refine wpAnyH_take (i := 5) (oi := _) (v := ?_) rfl (by kernel_rfl) (by kernel_rfl) (by kernel_rfl) (fun _ _ _ h => h) (Or.inl ⟨by rfl, ?_⟩) (by assumption) ?_
            rotate_left
            · (intro w hSw; (obtain ⟨⟨q0, q1, q2, q3, q4, q5, _, _, _, _, _, _⟩, ⟨r0, r1, r2, r3, r4, r5, _, _, _, _, _, _⟩⟩ := And.intro (BlkN.cells hSw.1) (BlkN.cells hSw.2.1)); go_simp; try with_reducible rfl)
            try simp only [List.getElem_toArray, List.getElem_cons_zero, List.getElem_cons_succ, Act.put, List.setIfInBounds_toArray, List.set_cons_zero, List.set_cons_succ]
            refine wpAnyH_take (i := 6) (oi := _) (v := ?_) rfl (by kernel_rfl) (by kernel_rfl) (by kernel_rfl) (fun _ _ _ h => h) (Or.inl ⟨by rfl, ?_⟩) (by assumption) ?_
            rotate_left
            · (intro w hSw; (obtain ⟨⟨q0, q1, q2, q3, q4, q5, _, _, _, _, _, _⟩, ⟨r0, r1, r2, r3, r4, r5, _, _, _, _, _, _⟩⟩ := And.intro (BlkN.cells hSw.1) (BlkN.cells hSw.2.1)); go_simp; try with_reducible rfl)
            try simp only [List.getElem_toArray, List.getElem_cons_zero, List.getElem_cons_succ, Act.put, List.setIfInBounds_toArray, List.set_cons_zero, List.set_cons_succ]
            refine wpAnyH_take (i := 7) (oi := _) (v := ?_) rfl (by kernel_rfl) (by kernel_rfl) (by kernel_rfl) (fun _ _ _ h => h) (Or.inl ⟨by rfl, ?_⟩) (by assumption) ?_
            rotate_left
            · (intro w hSw; (obtain ⟨⟨q0, q1, q2, q3, q4, q5, _, _, _, _, _, _⟩, ⟨r0, r1, r2, r3, r4, r5, _, _, _, _, _, _⟩⟩ := And.intro (BlkN.cells hSw.1) (BlkN.cells hSw.2.1)); go_simp; try with_reducible rfl)
            try simp only [List.getElem_toArray, List.getElem_cons_zero, List.getElem_cons_succ, Act.put, List.setIfInBounds_toArray, List.set_cons_zero, List.set_cons_succ]
            refine wpAnyH_take (i := 8) (oi := _) (v := ?_) rfl (by kernel_rfl) (by kernel_rfl) (by kernel_rfl) (fun _ _ _ h => h) (Or.inl ⟨by rfl, ?_⟩) (by assumption) ?_
            rotate_left
            · (intro w hSw; (obtain ⟨⟨q0, q1, q2, q3, q4, q5, _, _, _, _, _, _⟩, ⟨r0, r1, r2, r3, r4, r5, _, _, _, _, _, _⟩⟩ := And.intro (BlkN.cells hSw.1) (BlkN.cells hSw.2.1)); go_simp; try with_reducible rfl)
            try simp only [List.getElem_toArray, List.getElem_cons_zero, List.getElem_cons_succ, Act.put, List.setIfInBounds_toArray, List.set_cons_zero, List.set_cons_succ]
            refine wpAnyH_take (i := 9) (oi := _) (v := ?_) rfl (by kernel_rfl) (by kernel_rfl) (by kernel_rfl) (fun _ _ _ h => h) (Or.inl ⟨by rfl, ?_⟩) (by assumption) ?_
            rotate_left
            · (intro w hSw; (obtain ⟨⟨q0, q1, q2, q3, q4, q5, _, _, _, _, _, _⟩, ⟨r0, r1, r2, r3, r4, r5, _, _, _, _, _, _⟩⟩ := And.intro (BlkN.cells hSw.1) (BlkN.cells hSw.2.1)); go_simp; try with_reducible rfl)
            try simp only [List.getElem_toArray, List.getElem_cons_zero, List.getElem_cons_succ, Act.put, List.setIfInBounds_toArray, List.set_cons_zero, List.set_cons_succ]
            refine wpAnyH_take (i := 10) (oi := _) (v := ?_) rfl (by kernel_rfl) (by kernel_rfl) (by kernel_rfl) (fun _ _ _ h => h) (Or.inl ⟨by rfl, ?_⟩) (by assumption) ?_
            rotate_left
            · (intro w hSw; (obtain ⟨⟨q0, q1, q2, q3, q4, q5, _, _, _, _, _, _⟩, ⟨r0, r1, r2, r3, r4, r5, _, _, _, _, _, _⟩⟩ := And.intro (BlkN.cells hSw.1) (BlkN.cells hSw.2.1)); go_simp; try with_reducible rfl)
            try simp only [List.getElem_toArray, List.getElem_cons_zero, List.getElem_cons_succ, Act.put, List.setIfInBounds_toArray, List.set_cons_zero, List.set_cons_succ]
            refine wpAnyH_ready (rs := [11]) (by kernel_rfl) (by simp) ?_
            refine AllReadyH.cons (o := _) rfl (fun K hK => ?_) AllReadyH.nil
            go_simp
            refine (NT.out _ _ _ _ _).mono ?_
            rintro e w8 ⟨rfl, hb8⟩
            rw [show notW ⟨S1.a, S1.b, S1.c, S1.d⟩ = notW S1 from rfl]
            refine hK.out _ _ (⟨hHeld.1.below hb8, hHeld.2.1.below hb8, hHeld.2.2.trans (hb8.mono hHeld.2.2.size)⟩) (fun hHeld => ?_)
            clear hK K
            try simp only [List.getElem_toArray, List.getElem_cons_zero, List.getElem_cons_succ, Act.put, List.setIfInBounds_toArray, List.set_cons_zero, List.set_cons_succ]
            refine wpAnyH_take (i := 12) (oi := _) (v := ?_) rfl (by kernel_rfl) (by kernel_rfl) (by kernel_rfl) (fun _ _ _ h => h) (Or.inl ⟨by rfl, ?_⟩) (by assumption) ?_
            rotate_left
            · (intro w hSw; (obtain ⟨⟨q0, q1, q2, q3, q4, q5, _, _, _, _, _, _⟩, ⟨r0, r1, r2, r3, r4, r5, _, _, _, _, _, _⟩⟩ := And.intro (BlkN.cells hSw.1) (BlkN.cells hSw.2.1)); go_simp; try with_reducible rfl)
            try simp only [List.getElem_toArray, List.getElem_cons_zero, List.getElem_cons_succ, Act.put, List.setIfInBounds_toArray, List.set_cons_zero, List.set_cons_succ]
            refine wpAnyH_take (i := 13) (oi := _) (v := ?_) rfl (by kernel_rfl) (by kernel_rfl) (by kernel_rfl) (fun _ _ _ h => h) (Or.inl ⟨by rfl, ?_⟩) (by assumption) ?_
            rotate_left
            · (intro w hSw; (obtain ⟨⟨q0, q1, q2, q3, q4, q5, _, _, _, _, _, _⟩, ⟨r0, r1, r2, r3, r4, r5, _, _, _, _, _, _⟩⟩ := And.intro (BlkN.cells hSw.1) (BlkN.cells hSw.2.1)); go_simp; try with_reducible rfl)
            try simp only [List.getElem_toArray, List.getElem_cons_zero, List.getElem_cons_succ, Act.put, List.setIfInBounds_toArray, List.set_cons_zero, List.set_cons_succ]
            refine wpAnyH_take (i := 14) (oi := _) (v := ?_) rfl (by kernel_rfl) (by kernel_rfl) (by kernel_rfl) (fun _ _ _ h => h) (Or.inl ⟨by rfl, ?_⟩) (by assumption) ?_
            rotate_left
            · (intro w hSw; (obtain ⟨⟨q0, q1, q2, q3, q4, q5, _, _, _, _, _, _⟩, ⟨r0, r1, r2, r3, r4, r5, _, _, _, _, _, _⟩⟩ := And.intro (BlkN.cells hSw.1) (BlkN.cells hSw.2.1)); go_simp; try with_reducible rfl)
            try simp only [List.getElem_toArray, List.getElem_cons_zero, List.getElem_cons_succ, Act.put, List.setIfInBounds_toArray, List.set_cons_zero, List.set_cons_succ]
            refine wpAnyH_done (by kernel_rfl) ?_ _
            have HB9 := Lib.hid hHeld.2.2
            clear hHeld
            go_wp2_with fail
            go_ret
            exact ⟨ret_true (by simp), HB9.out⟩
          · have hsi : ¬ 0 < (s.size : Int) := by omega
            clear h4
            obtain ⟨c0, c1, c2, c3, c4, c5, _, _, _, _, _, _⟩ := HN1.out.cells
            go_wp2_with fail
            clear c0 c1 c2 c3 c4 c5
            generalize hwb : w2.alloc (.cells #[.int .i64 1, .int .u64 (notW S1).a, .int .u64 (notW S1).b, .int .u64 (notW S1).c, .int .u64 (notW S1).d, .slice kp2 kn2 kc2] 28) = wb at *
            clear hwb
            refine wp_region_held_drew (S := fun w' => BlkN w' g1 ⟨1, S1, kp1, kn1, kc1⟩ ∧ BlkN w' w2.heap.size ⟨1, notW S1, kp2, kn2, kc2⟩ ∧ Below w.heap.size w w') (by kernel_rfl) (⟨HN1.out, HN2.out, HB2.out.drew⟩) (fun hHeld => ?_)
            refine wpAnyH_ready (rs := [0]) (by kernel_rfl) (by simp) ?_
            refine AllReadyH.cons (o := _) rfl (fun K hK => ?_) AllReadyH.nil
            go_simp
            refine (AW.out _).mono ?_
            rintro e w8 ⟨rfl, hb8⟩
            refine hK.out _ _ (⟨hHeld.1.below hb8, hHeld.2.1.below hb8, hHeld.2.2.trans (hb8.mono hHeld.2.2.size)⟩) (fun hHeld => ?_)
            clear hK K
            try simp only [List.getElem_toArray, List.getElem_cons_zero, List.getElem_cons_succ, Act.put, List.setIfInBounds_toArray, List.set_cons_zero, List.set_cons_succ]
            refine wpAnyH_take (i := 1) (oi := _) (v := ?_) rfl (by kernel_rfl) (by kernel_rfl) (by kernel_rfl) (fun _ _ _ h => h) (Or.inl ⟨by rfl, ?_⟩) (by assumption) ?_
            rotate_left
            · (intro w hSw; (obtain ⟨⟨q0, q1, q2, q3, q4, q5, _, _, _, _, _, _⟩, ⟨r0, r1, r2, r3, r4, r5, _, _, _, _, _, _⟩⟩ := And.intro (BlkN.cells hSw.1) (BlkN.cells hSw.2.1)); go_simp; try with_reducible rfl)
            try simp only [List.getElem_toArray, List.getElem_cons_zero, List.getElem_cons_succ, Act.put, List.setIfInBounds_toArray, List.set_cons_zero, List.set_cons_succ]
            refine wpAnyH_take (i := 2) (oi := _) (v := ?_) rfl (by kernel_rfl) (by kernel_rfl) (by kernel_rfl) (fun _ _ _ h => h) (Or.inl ⟨by rfl, ?_⟩) (by assumption) ?_
            rotate_left
            · (intro w hSw; (obtain ⟨⟨q0, q1, q2, q3, q4, q5, _, _, _, _, _, _⟩, ⟨r0, r1, r2, r3, r4, r5, _, _, _, _, _, _⟩⟩ := And.intro (BlkN.cells hSw.1) (BlkN.cells hSw.2.1)); go_simp; try with_reducible rfl)
            try simp only [List.getElem_toArray, List.getElem_cons_zero, List.getElem_cons_succ, Act.put, List.setIfInBounds_toArray, List.set_cons_zero, List.set_cons_succ]
            refine wpAnyH_take (i := 3) (oi := _) (v := ?_) rfl (by kernel_rfl) (by kernel_rfl) (by kernel_rfl) (fun _ _ _ h => h) (Or.inl ⟨by rfl, ?_⟩) (by assumption) ?_
            rotate_left
            · (intro w hSw; (obtain ⟨⟨q0, q1, q2, q3, q4, q5, _, _, _, _, _, _⟩, ⟨r0, r1, r2, r3, r4, r5, _, _, _, _, _, _⟩⟩ := And.intro (BlkN.cells hSw.1) (BlkN.cells hSw.2.1)); go_simp; try with_reducible rfl)
            try simp only [List.getElem_toArray, List.getElem_cons_zero, List.getElem_cons_succ, Act.put, List.setIfInBounds_toArray, List.set_cons_zero, List.set_cons_succ]
            refine wpAnyH_take (i := 4) (oi := _) (v := ?_) rfl (by kernel_rfl) (by kernel_rfl) (by kernel_rfl) (fun _ _ _ h => h) (Or.inl ⟨by rfl, ?_⟩) (by assumption) ?_
            rotate_left
            · (intro w hSw; (obtain ⟨⟨q0, q1, q2, q3, q4, q5, _, _, _, _, _, _⟩, ⟨r0, r1, r2, r3, r4, r5, _, _, _, _, _, _⟩⟩ := And.intro (BlkN.cells hSw.1) (BlkN.cells hSw.2.1)); go_simp; try with_reducible rfl)
            try simp only [List.getElem_toArray, List.getElem_cons_zero, List.getElem_cons_succ, Act.put, List.setIfInBounds_toArray, List.set_cons_zero, List.set_cons_succ]
            refine wpAnyH_take (i := 5) (oi := _) (v := ?_) rfl (by kernel_rfl) (by kernel_rfl) (by kernel_rfl) (fun _ _ _ h => h) (Or.inl ⟨by rfl, ?_⟩) (by assumption) ?_
            rotate_left
            · (intro w hSw; (obtain ⟨⟨q0, q1, q2, q3, q4, q5, _, _, _, _, _, _⟩, ⟨r0, r1, r2, r3, r4, r5, _, _, _, _, _, _⟩⟩ := And.intro (BlkN.cells hSw.1) (BlkN.cells hSw.2.1)); go_simp; try with_reducible rfl)
            try simp only [List.getElem_toArray, List.getElem_cons_zero, List.getElem_cons_succ, Act.put, List.setIfInBounds_toArray, List.set_cons_zero, List.set_cons_succ]
            refine wpAnyH_take (i := 6) (oi := _) (v := ?_) rfl (by kernel_rfl) (by kernel_rfl) (by kernel_rfl) (fun _ _ _ h => h) (Or.inl ⟨by rfl, ?_⟩) (by assumption) ?_
            rotate_left
            · (intro w hSw; (obtain ⟨⟨q0, q1, q2, q3, q4, q5, _, _, _, _, _, _⟩, ⟨r0, r1, r2, r3, r4, r5, _, _, _, _, _, _⟩⟩ := And.intro (BlkN.cells hSw.1) (BlkN.cells hSw.2.1)); go_simp; try with_reducible rfl)
            try simp only [List.getElem_toArray, List.getElem_cons_zero, List.getElem_cons_succ, Act.put, List.setIfInBounds_toArray, List.set_cons_zero, List.set_cons_succ]
            refine wpAnyH_take (i := 7) (oi := _) (v := ?_) rfl (by kernel_rfl) (by kernel_rfl) (by kernel_rfl) (fun _ _ _ h => h) (Or.inl ⟨by rfl, ?_⟩) (by assumption) ?_
            rotate_left
            · (intro w hSw; (obtain ⟨⟨q0, q1, q2, q3, q4, q5, _, _, _, _, _, _⟩, ⟨r0, r1, r2, r3, r4, r5, _, _, _, _, _, _⟩⟩ := And.intro (BlkN.cells hSw.1) (BlkN.cells hSw.2.1)); go_simp; try with_reducible rfl)
            try simp only [List.getElem_toArray, List.getElem_cons_zero, List.getElem_cons_succ, Act.put, List.setIfInBounds_toArray, List.set_cons_zero, List.set_cons_succ]
            refine wpAnyH_take (i := 8) (oi := _) (v := ?_) rfl (by kernel_rfl) (by kernel_rfl) (by kernel_rfl) (fun _ _ _ h => h) (Or.inl ⟨by rfl, ?_⟩) (by assumption) ?_
            rotate_left
            · (intro w hSw; (obtain ⟨⟨q0, q1, q2, q3, q4, q5, _, _, _, _, _, _⟩, ⟨r0, r1, r2, r3, r4, r5, _, _, _, _, _, _⟩⟩ := And.intro (BlkN.cells hSw.1) (BlkN.cells hSw.2.1)); go_simp; try with_reducible rfl)
            try simp only [List.getElem_toArray, List.getElem_cons_zero, List.getElem_cons_succ, Act.put, List.setIfInBounds_toArray, List.set_cons_zero, List.set_cons_succ]
            refine wpAnyH_take (i := 9) (oi := _) (v := ?_) rfl (by kernel_rfl) (by kernel_rfl) (by kernel_rfl) (fun _ _ _ h => h) (Or.inl ⟨by rfl, ?_⟩) (by assumption) ?_
            rotate_left
            · (intro w hSw; (obtain ⟨⟨q0, q1, q2, q3, q4, q5, _, _, _, _, _, _⟩, ⟨r0, r1, r2, r3, r4, r5, _, _, _, _, _, _⟩⟩ := And.intro (BlkN.cells hSw.1) (BlkN.cells hSw.2.1)); go_simp; try with_reducible rfl)
            try simp only [List.getElem_toArray, List.getElem_cons_zero, List.getElem_cons_succ, Act.put, List.setIfInBounds_toArray, List.set_cons_zero, List.set_cons_succ]
            refine wpAnyH_take (i := 10) (oi := _) (v := ?_) rfl (by kernel_rfl) (by kernel_rfl) (by kernel_rfl) (fun _ _ _ h => h) (Or.inl ⟨by rfl, ?_⟩) (by assumption) ?_
            rotate_left
            · (intro w hSw; (obtain ⟨⟨q0, q1, q2, q3, q4, q5, _, _, _, _, _, _⟩, ⟨r0, r1, r2, r3, r4, r5, _, _, _, _, _, _⟩⟩ := And.intro (BlkN.cells hSw.1) (BlkN.cells hSw.2.1)); go_simp; try with_reducible rfl)
            try simp only [List.getElem_toArray, List.getElem_cons_zero, List.getElem_cons_succ, Act.put, List.setIfInBounds_toArray, List.set_cons_zero, List.set_cons_succ]
            refine wpAnyH_ready (rs := [11]) (by kernel_rfl) (by simp) ?_
            refine AllReadyH.cons (o := _) rfl (fun K hK => ?_) AllReadyH.nil
            go_simp
            refine (NT.out _ _ _ _ _).mono ?_
            rintro e w8 ⟨rfl, hb8⟩
            rw [show notW ⟨S1.a, S1.b, S1.c, S1.d⟩ = notW S1 from rfl]
            refine hK.out _ _ (⟨hHeld.1.below hb8, hHeld.2.1.below hb8, hHeld.2.2.trans (hb8.mono hHeld.2.2.size)⟩) (fun hHeld => ?_)
            clear hK K
            try simp only [List.getElem_toArray, List.getElem_cons_zero, List.getElem_cons_succ, Act.put, List.setIfInBounds_toArray, List.set_cons_zero, List.set_cons_succ]
            refine wpAnyH_take (i := 12) (oi := _) (v := ?_) rfl (by kernel_rfl) (by kernel_rfl) (by kernel_rfl) (fun _ _ _ h => h) (Or.inl ⟨by rfl, ?_⟩) (by assumption) ?_
            rotate_left
            · (intro w hSw; (obtain ⟨⟨q0, q1, q2, q3, q4, q5, _, _, _, _, _, _⟩, ⟨r0, r1, r2, r3, r4, r5, _, _, _, _, _, _⟩⟩ := And.intro (BlkN.cells hSw.1) (BlkN.cells hSw.2.1)); go_simp; try with_reducible rfl)
            try simp only [List.getElem_toArray, List.getElem_cons_zero, List.getElem_cons_succ, Act.put, List.setIfInBounds_toArray, List.set_cons_zero, List.set_cons_succ]
            refine wpAnyH_take (i := 13) (oi := _) (v := ?_) rfl (by kernel_rfl) (by kernel_rfl) (by kernel_rfl) (fun _ _ _ h => h) (Or.inl ⟨by rfl, ?_⟩) (by assumption) ?_
            rotate_left
            · (intro w hSw; (obtain ⟨⟨q0, q1, q2, q3, q4, q5, _, _, _, _, _, _⟩, ⟨r0, r1, r2, r3, r4, r5, _, _, _, _, _, _⟩⟩ := And.intro (BlkN.cells hSw.1) (BlkN.cells hSw.2.1)); go_simp; try with_reducible rfl)
            try simp only [List.getElem_toArray, List.getElem_cons_zero, List.getElem_cons_succ, Act.put, List.setIfInBounds_toArray, List.set_cons_zero, List.set_cons_succ]
            refine wpAnyH_take (i := 14) (oi := _) (v := ?_) rfl (by kernel_rfl) (by kernel_rfl) (by kernel_rfl) (fun _ _ _ h => h) (Or.inl ⟨by rfl, ?_⟩) (by assumption) ?_
            rotate_left
            · (intro w hSw; (obtain ⟨⟨q0, q1, q2, q3, q4, q5, _, _, _, _, _, _⟩, ⟨r0, r1, r2, r3, r4, r5, _, _, _, _, _, _⟩⟩ := And.intro (BlkN.cells hSw.1) (BlkN.cells hSw.2.1)); go_simp; try with_reducible rfl)
            try simp only [List.getElem_toArray, List.getElem_cons_zero, List.getElem_cons_succ, Act.put, List.setIfInBounds_toArray, List.set_cons_zero, List.set_cons_succ]
            refine wpAnyH_done (by kernel_rfl) ?_ _
            have HB9 := Lib.hid hHeld.2.2
            clear hHeld
            go_wp2_with fail
            go_ret
            exact ⟨ret_true (by simp), HB9.out⟩
      · have h3b : (n1.op != 1) = true := by rw [bne_iff_ne]; exact h3
        obtain ⟨c0, c1, c2, c3, c4, c5, _, _, _, _, _, _⟩ := HN1.out.cells
        go_wp2_with fail
        refine (AW.out _).mono ?_
        rintro e w5 ⟨rfl, hb5⟩
        have HB5 := Lib.hid (HB2.out.trans (hb5.mono HB2.out.size))
        clear hb5
        go_wp2_with fail
        go_ret
        exact ⟨rfl, HB5.out⟩
    · have h2b : ((er2 : Int) != 0) = true := by rw [bne_iff_ne]; omega
      go_wp2_with fail
      refine (AW.out _).mono ?_
      rintro e w5 ⟨rfl, hb5⟩
      have HB5 := Lib.hid (HB2.out.trans (hb5.mono HB2.out.size))
      clear hb5
      go_wp2_with fail
      go_ret
      exact ⟨rfl, HB5.out⟩
  · have h1b : ((er1 : Int) != 0) = true := by rw [bne_iff_ne]; omega
    go_wp2_with fail
    refine (AW.out _).mono ?_
    rintro e w5 ⟨rfl, hb5⟩
    have HB5 := Lib.hid (HB2.out.trans (hb5.mono HB2.out.size))
    clear hb5
    go_wp2_with fail
    go_ret
    exact ⟨rfl, HB5.out⟩
end Go.Proofs.Ytgdalmdjbakbdaa
