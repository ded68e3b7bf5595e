/-
  CONTRACT of the iterator that layer 10's All hands back.
-/
import Derived.Test.YtmlpkimbcjkbkaaGreatDoorMtAl
namespace Go.Proofs.YtmlpkimbcjkbkaaGreatDoor
open Go.RowKit
attribute [local go_sem] Oper.semAt_some

set_option maxHeartbeats 1000000 in
set_option maxRecDepth 100000 in
theorem mAll_seq {s : ByteArray} {t : RT} {d : Pd} {g : Nat} (hs : s.size ≤ 100000) (bs n : Nat) (_hn : 1 ≤ n) :
    SeqR Fence.wide n Tryz.prog 16 #[.pointer (some ⟨bs, 0, none⟩)] encP (AllS s t) (AllP s t) (s.size + 2) (KpS bs d t s g) := by
  intro l J Jx W hK hB hY h0
  have HYm := Lib.hid hY
  have HJB := Lib.hid hB
  have HK0 := Lib.hid hK
  have HJ0 := Lib.hid h0
  have hsi : (s.size : Int) ≤ 100000 := by omega
  clear hY hK h0 hB
  refine callsIn_of_wp Tryz.func16 rfl trivial ?_ rfl
  simp only [Tryz.ntmps16, List.size_toArray, List.length_cons, List.length_nil, Nat.reduceAdd, Nat.reduceSub, Array.replicate_succ, Array.replicate_zero, List.push_toArray, List.append_toArray, List.nil_append, List.cons_append]
  gi_wp2_with fail
  gi_loopw [3, 4] (fun av tv wr => ∃ (a : Nat) (told : Option Nat) (pre : List (Nat × Nat)), a ≤ s.size + 1 ∧ av = .int .i64 (a : Int) ∧ tv = tdV told ∧ Hid (Pth s t pre a told) ∧ Hid (J pre wr) ∧ Hid (KpS bs d t s g wr))
    (fun av _ _ => s.size + 2 - (intOf av).toNat)
  case atStart => exact ⟨0, none, [], Nat.zero_le _, rfl, rfl, Lib.hid .start, HJ0, HK0⟩
  case round =>
    clear HJ0 HK0
    obtain ⟨a, told, pre, ha, rfl, rfl, HP, HJ, HK⟩ := hrel
    have hai : (a : Int) ≤ 100001 := by omega
    obtain ⟨s0, s1, s2, s3, s4⟩ := se_cells HK.out.1
    have CF := Lib.hid (mfind_any s (by omega) HK.out.2 a (Nat.zero_le _) ha)
    unfold seV at CF
    generalize (s.size - 0 + 1) * d.m = R at *
    gi_wp2_with fail
    refine ⟨trivial, (callsIn_wide.2 CF.out).mono ?_⟩
    rintro e w3 ⟨r, rfl, hr, hb3⟩
    have HR := Lib.hid hr
    have HJ3 := Lib.hid (HJB.out pre _ _ HJ.out hb3)
    have HK3 := Lib.hid (HK.out.next hb3)
    clear hr hb3 CF HJ HK s0 s1 s2 s3 s4
    cases r with
    | none =>
      simp only [fndV]
      gi_wp2_with fail
      refine bodyPost_ret (results_none rfl _ _ _) rfl ?_
      exact ⟨⟨_, rfl⟩, HK3.out, .inl ⟨pre, ⟨a, told, HP.out, HR.out⟩, HJ3.out⟩⟩
    | some q =>
      obtain ⟨i, j⟩ := q
      simp only [fndV]
      obtain ⟨f1, f2, f3⟩ := HR.out.facts
      have hiv := HP.out.inv
      have hpl : pre.length < s.size + 2 := by omega
      have hji : (j : Int) ≤ (s.size : Int) := by omega
      have hij : (i : Int) ≤ (j : Int) := by omega
      by_cases hsk : i = j ∧ told = some i
      · obtain ⟨rfl, rfl⟩ := hsk
        have HP2 := Lib.hid (Pth.skip HP.out HR.out)
        have n1 : ¬ (i : Int) < (i : Int) := by omega
        have n2 : ((i : Int) != (i : Int)) = false := by simp
        have n3 : ((i : Int) == (i : Int)) = true := by simp
        clear hiv HR HP
        simp only [tdV]
        gi_wp2_with fail
        refine ⟨⟨i + 1, some i, pre, by omega, by go_num, rfl, HP2, HJ3, HK3⟩, ?_⟩
        simp [intOf]; omega
      · have HP2 := Lib.hid (Pth.take HP.out HR.out hsk)
        obtain ⟨fn, tmps, assign, body, hy, hR⟩ := HYm.out pre (i, j) w3 HJ3.out HK3.out hpl ⟨_, _, HP2.out⟩
        rw [show encP (i, j) = #[.int .i64 (i : Int), .int .i64 (j : Int)] from rfl] at hy
        have HRD := Lib.hid hR
        have hcond : (i : Int) < (j : Int) ∨ (i = j ∧ told ≠ some i) := by
          by_cases h : i < j
          · left; omega
          · right; exact ⟨by omega, fun h2 => hsk ⟨by omega, h2⟩⟩
        clear hR hiv HR HP hsk hpl
        rcases hcond with hlt | ⟨rfl, hne⟩
        · have hne3 : ((i : Int) == (j : Int)) = false := by
            rw [Bool.eq_false_iff]; intro h
            have := eq_of_beq h
            omega
          have hni : i ≠ j := by omega
          rw [if_neg hni] at HP2
          clear hni
          gi_wp2_with fail
          refine HRD.out.mono ?_
          rintro e1 W3 ⟨hk3, (⟨rfl, hJ3⟩ | ⟨rfl, hJ3⟩)⟩
          · have HK4 := Lib.hid hk3
            have HJ4 := Lib.hid hJ3
            clear hk3 hJ3 hy
            gi_wp2_with fail
            refine ⟨⟨j, some j, pre ++ [(i, j)], by omega, rfl, rfl, HP2, HJ4, HK4⟩, ?_⟩
            simp [intOf]; omega
          · have HK4 := Lib.hid hk3
            clear hk3
            gi_wp2_with fail
            refine bodyPost_ret (results_none rfl _ _ _) rfl ?_
            exact ⟨⟨_, rfl⟩, HK4.out, .inr ⟨_, ⟨_, _, HP2.out⟩, hJ3⟩⟩
        · have n1 : ¬ (i : Int) < (i : Int) := by omega
          have n3 : ((i : Int) == (i : Int)) = true := by simp
          obtain ⟨tn, htn, hne2⟩ : ∃ tn : Int, tdV told = .int .i64 tn ∧ ((i : Int) != tn) = true := by
            cases told with
            | none => exact ⟨-1, rfl, by rw [bne_iff_ne]; omega⟩
            | some b => exact ⟨(b : Int), rfl, by rw [bne_iff_ne]; intro h; exact hne (by rw [show b = i from by omega])⟩
          rw [htn]
          rw [if_pos rfl] at HP2
          clear hne htn
          gi_wp2_with fail
          refine HRD.out.mono ?_
          rintro e1 W3 ⟨hk3, (⟨rfl, hJ3⟩ | ⟨rfl, hJ3⟩)⟩
          · have HK4 := Lib.hid hk3
            have HJ4 := Lib.hid hJ3
            clear hk3 hJ3 hy
            gi_wp2_with fail
            refine ⟨⟨i + 1, some i, pre ++ [(i, i)], by omega, by go_num, rfl, HP2, HJ4, HK4⟩, ?_⟩
            simp [intOf]; omega
          · have HK4 := Lib.hid hk3
            clear hk3
            gi_wp2_with fail
            refine bodyPost_ret (results_none rfl _ _ _) rfl ?_
            exact ⟨⟨_, rfl⟩, HK4.out, .inr ⟨_, ⟨_, _, HP2.out⟩, hJ3⟩⟩
end Go.Proofs.YtmlpkimbcjkbkaaGreatDoor
