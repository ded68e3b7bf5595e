/-
  CONTRACT of layer 5's Looks: the number at the beginning of a text, and whether it is all but for blanks behind it; nothing that was there is written.
-/
import Derived.Test.YtipcanbeegladaaGreatDoorNumW3
namespace Go.Proofs.YtipcanbeegladaaGreatDoor
open Go.RowKit

theorem trim_nil (l : List UInt8) : Lib.trimS l [32, 9, 10] = [] ↔ l.all blk = true := by
  have h1 : ∀ m : List UInt8, Lib.trimLeftS m [32, 9, 10] = [] ↔ m.all blk = true := fun m => by
    show m.dropWhile blk = [] ↔ _
    rw [dropW_nil, List.all_eq_true]
  unfold Lib.trimS
  rw [h1]
  obtain ⟨z, hz, ha⟩ := trimR_split l [32, 9, 10]
  conv => rhs; rw [hz]
  rw [List.all_append]
  have : z.all blk = true := ha
  rw [this, Bool.and_true]
theorem prefix_le (l : List UInt8) : (prefixL l).2 ≤ l.length := by
  have ite_le : ∀ (n : Nat) (c : Prop) [Decidable c] (x y : Int × Nat), x.2 ≤ n → y.2 ≤ n → (if c then x else y).2 ≤ n := fun n c _ x y hx hy => by split <;> assumption
  unfold prefixL
  exact ite_le _ _ _ _ (Nat.zero_le _) (Nat.sub_le _ _)
set_option maxHeartbeats 1000000 in
theorem looks_any (s : ByteArray) (w : World) (hs : s.size ≤ 1000000) :
    Calls Tryz.prog 20 #[.string s] w fun e w' => e = .returned (.tuple #[.int .i64 (looksL s.data.toList).1, .bool (looksL s.data.toList).2]) ∧ Below w.heap.size w w' := by
  have hp := fun W => prefix_any s W hs
  have hle := prefix_le s.data.toList
  unfold looksL
  obtain ⟨v, hv⟩ : ∃ v, (prefixL s.data.toList).1 = v := ⟨_, rfl⟩
  obtain ⟨k, hk⟩ : ∃ k, (prefixL s.data.toList).2 = k := ⟨_, rfl⟩
  rw [hv, hk] at hp
  rw [hv, hk]
  rw [hk] at hle
  have hks : k ≤ s.size := by simpa using hle
  have hki : (k : Int) ≤ (s.size : Int) := by omega
  have HP := Lib.hid hp
  clear hp hle hv hk
  by_cases h0 : 0 < k
  · obtain ⟨R, hR⟩ : ∃ R, s.extract k s.size = R := ⟨_, rfl⟩
    have hRs : R.size ≤ 1000000 := by rw [← hR]; simp; omega
    have hRl : R.data.toList = s.data.toList.drop k := by rw [← hR, extk]
    obtain ⟨T, hT, hTs⟩ := has_ba (Lib.trimS R.data.toList [32, 9, 10])
    have tr : ∀ W, Calls Tryz.prog 45 #[.string R, .string ⟨#[32, 9, 10]⟩] W fun e w' => e = .returned (.string T) ∧ Below W.heap.size W w' := fun W => by
      refine (Any.strings_Trim_laid Tryz.lays160 (by kernel_rfl) R ⟨#[32, 9, 10]⟩ W (by omega) (by decide) (ascii_of_all (by decide))).mono ?_
      rintro e w' ⟨rfl, hb⟩
      exact ⟨ret_s (ba_of _ _ hT).symm, hb⟩
    have hTe : (T.toList = []) ↔ (s.data.toList.drop k).all blk = true := by rw [toList_data', hT, trim_nil, hRl]
    have HTR := Lib.hid tr
    have hk0 : (0 : Int) < (k : Int) := by omega
    clear tr hRl hT hTs
    by_cases hTn : T.toList = []
    all_goals
      have hall := hTe
      simp only [hTn, true_iff, false_iff] at hall
      clear hTe
      have HALL := Lib.hid hall
      clear hall
      have hT' : T.toList.isEmpty = decide (T.toList = []) := by cases T.toList <;> rfl
      simp only [hTn, decide_true, decide_false] at hT'
      go_enter Tryz.func20, Tryz.ntmps20
      go_wp2_with fail
      refine (HP.out _).mono ?_
      rintro e w1 ⟨rfl, hb1⟩
      have HB1 := Lib.hid hb1
      clear hb1
      go_wp2_with fail
      refine (HTR.out _).mono ?_
      rintro e w2 ⟨rfl, hb2⟩
      have HB2 := Lib.hid (HB1.out.trans (hb2.mono HB1.out.size))
      clear hb2 HB1
      go_wp2_with fail
      go_ret2
      exact ⟨by have := HALL.out; simp_all, HB2.out⟩
  · obtain rfl : k = 0 := by omega
    go_enter Tryz.func20, Tryz.ntmps20
    go_wp2_with fail
    refine (HP.out _).mono ?_
    rintro e w1 ⟨rfl, hb1⟩
    have HB1 := Lib.hid hb1
    clear hb1
    go_wp2_with fail
    go_ret2
    exact ⟨by simp, HB1.out⟩
end Go.Proofs.YtipcanbeegladaaGreatDoor
