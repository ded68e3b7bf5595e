/-
  CONTRACT of layer 10's own awake: a*b on xaabb.
-/
import Derived.Test.YtmlpkimbcjkbkaaGreatDoorMtAl
namespace Go.Proofs.YtmlpkimbcjkbkaaGreatDoor
open Go.RowKit

theorem hasP_one (c : UInt8) (x : Nat) (hx : x < 256) : hasP (withW W4.zero c) x ↔ x = c.toNat := by
  unfold hasP
  rw [(StF.zero.with c).has hx, Bool.false_or, beq_iff_eq]
  exact eq_comm
theorem gS_one {s : ByteArray} {c : UInt8} {i : Nat} : gS s (withW W4.zero c) i ↔ s.data.toList[i]? = some c := by
  unfold gS
  constructor
  · rintro ⟨h, h2⟩
    have hlt := s[i].toNat_lt
    rw [hasP_one c _ (by omega)] at h2
    have : s[i] = c := UInt8.toNat_inj.1 h2
    rw [← this]
    simp [h]
    rfl
  · intro h
    have hi : i < s.size := by
      have := (List.getElem?_eq_some_iff.1 h).1
      simpa using this
    refine ⟨hi, ?_⟩
    have hlt := s[i].toNat_lt
    rw [hasP_one c _ (by omega)]
    have : s[i] = c := by
      have h2 : s.data.toList[i]? = some s[i] := by simp [hi]; rfl
      rw [h2] at h
      exact Option.some.inj h
    rw [this]
theorem lead_one {g : W4 → Nat → Prop} {n : Nat} {st : W4} {i j : Nat} : Lead g n (.mk 1 st []) i j ↔ g st i ∧ i < n ∧ j = i + 1 := by
  unfold Lead
  rw [if_pos rfl]
theorem lead_star {g : W4 → Nat → Prop} {n : Nat} {st : W4} {ks : List RT} {i j : Nat} : Lead g n (.mk 4 st ks) i j ↔ Often (CatL g n ks) i j := by
  unfold Lead
  rw [if_neg (by decide), if_neg (by decide), if_neg (by decide), if_neg (by decide), if_pos rfl]
theorem lead_cat {g : W4 → Nat → Prop} {n : Nat} {st : W4} {ks : List RT} {i j : Nat} : Lead g n (.mk 2 st ks) i j ↔ CatL g n ks i j := by
  unfold Lead
  rw [if_neg (by decide), if_neg (by decide), if_neg (by decide), if_neg (by decide), if_neg (by decide), if_neg (by decide), if_neg (by decide)]
theorem catL_nil {g : W4 → Nat → Prop} {n i j : Nat} : CatL g n [] i j ↔ i = j := by unfold CatL; exact Iff.rfl
theorem catL_cons {g : W4 → Nat → Prop} {n : Nat} {t : RT} {ts : List RT} {i j : Nat} : CatL g n (t :: ts) i j ↔ ∃ k, Lead g n t i k ∧ CatL g n ts k j := by
  conv => lhs; unfold CatL
theorem catL_one {g : W4 → Nat → Prop} {n : Nat} {t : RT} {i j : Nat} : CatL g n [t] i j ↔ Lead g n t i j := by
  rw [catL_cons]
  constructor
  · rintro ⟨k, h, h2⟩
    rw [catL_nil] at h2
    subst h2; exact h
  · exact fun h => ⟨j, h, catL_nil.2 rfl⟩
/-- a*b. -/
def abT : RT := .mk 2 W4.zero [.mk 4 W4.zero [.mk 1 (withW W4.zero 97) []], .mk 1 (withW W4.zero 98) []]
theorem ab_top : topR withW notW orW [97, 42, 98] = .ok (abT, []) := by rfl
theorem ab_often {s : ByteArray} {i k : Nat} (h : Often (CatL (gS s) s.size [.mk 1 (withW W4.zero 97) []]) i k) : i ≤ k ∧ ∀ m, i ≤ m → m < k → s.data.toList[m]? = some 97 := by
  induction h with
  | none i => exact ⟨Nat.le_refl _, fun m h1 h2 => by omega⟩
  | @more i k j h1 h2 ih =>
    rw [catL_one, lead_one] at h1
    obtain ⟨h3, h4, h5⟩ := h1
    have ih1 := ih.1
    refine ⟨by omega, fun m h6 h7 => ?_⟩
    by_cases he : m = i
    · subst he; exact gS_one.1 h3
    · exact ih.2 m (by omega) h7
theorem ab_met {s : ByteArray} {i j : Nat} : Met s abT i j ↔ ∃ k, Often (CatL (gS s) s.size [.mk 1 (withW W4.zero 97) []]) i k ∧ s.data.toList[k]? = some 98 ∧ j = k + 1 := by
  unfold Met abT
  rw [lead_cat, catL_cons]
  constructor
  · rintro ⟨_, k, h1, h2⟩
    rw [lead_star] at h1
    rw [catL_one, lead_one] at h2
    exact ⟨k, h1, gS_one.1 h2.1, h2.2.2⟩
  · rintro ⟨k, h1, h2, h3⟩
    have hk : k < s.size := by
      have := (List.getElem?_eq_some_iff.1 h2).1
      simpa using this
    exact ⟨by omega, k, lead_star.2 h1, catL_one.2 (lead_one.2 ⟨gS_one.2 h2, hk, h3⟩)⟩
def xaabb : ByteArray := ⟨#[120, 97, 97, 98, 98]⟩
theorem ab_find {r : Option (Nat × Nat)} (h : FndIs xaabb abT 0 r) : r = some (1, 4) := by
  have m14 : Met xaabb abT 1 4 := ab_met.2 ⟨3, by
    have h1 : CatL (gS xaabb) xaabb.size [.mk 1 (withW W4.zero 97) []] 1 2 := catL_one.2 (lead_one.2 ⟨gS_one.2 rfl, by decide, rfl⟩)
    have h2 : CatL (gS xaabb) xaabb.size [.mk 1 (withW W4.zero 97) []] 2 3 := catL_one.2 (lead_one.2 ⟨gS_one.2 rfl, by decide, rfl⟩)
    exact .more h1 (.more h2 (.none 3)), rfl, rfl⟩
  have n0 : ∀ j, ¬ Met xaabb abT 0 j := fun j hj => by
    obtain ⟨k, h1, h2, _⟩ := ab_met.1 hj
    have h3 := ab_often h1
    by_cases hk : k = 0
    · subst hk; simp [xaabb] at h2
    · have := h3.2 0 (by omega) (by omega)
      simp [xaabb] at this
  have l1 : ∀ j, Met xaabb abT 1 j → j ≤ 4 := fun j hj => by
    obtain ⟨k, h1, h2, rfl⟩ := ab_met.1 hj
    have h3 := ab_often h1
    by_cases hk : k ≤ 3
    · omega
    · have := h3.2 3 (by omega) (by omega)
      simp [xaabb] at this
  cases r with
  | none => exact (h 1 (by omega) 4 m14).elim
  | some q =>
    obtain ⟨i, j⟩ := q
    obtain ⟨h1, h2, h3, h4⟩ := h
    have hi1 : i ≤ 1 := Nat.le_of_not_lt fun hlt => h4 1 (by omega) hlt 4 m14
    have hi0 : i ≠ 0 := fun e => by subst e; exact n0 j h2
    obtain rfl : i = 1 := by omega
    have := l1 j h2
    have := h3 4 m14
    obtain rfl : j = 4 := by omega
    rfl
def xx : ByteArray := ⟨#[120, 120]⟩
theorem ab_in : ¬ InIs xx abT := fun ⟨i, j, h⟩ => by
  obtain ⟨k, _, h2, _⟩ := ab_met.1 h
  have hk := (List.getElem?_eq_some_iff.1 h2).1
  have : k = 0 ∨ k = 1 := by simp [xx] at hk; omega
  rcases this with rfl | rfl <;> simp [xx] at h2
end Go.Proofs.YtmlpkimbcjkbkaaGreatDoor
