/-
  HELPERS for layer 10's end: a set of leaves is made, and is emptied.
-/
import Derived.Test.YtjjejcgpeefclaaDoorMtS2
import Derived.Lib.SliceRun
namespace Go.Proofs.YtjjejcgpeefclaaDoor
open Go.RowKit

theorem tab_clear {g m : Nat} : ∀ (n k : Nat) (w : World) (P : Nat → Nat → Prop), Tb w g 1 m P → k + n = m → Tb (w.setCells g k (List.replicate n (.int .u64 0))) g 1 m (fun r x => x < 64 * k ∧ P r x) ∧ Onl g w (w.setCells g k (List.replicate n (.int .u64 0)))
  | 0, k, w, P, h, e => by
    subst e
    exact ⟨h.congr fun r x _ hx => by simp only [Nat.add_zero] at hx; simp [hx], Onl.refl _ _⟩
  | n + 1, k, w, P, h, e => by
    have h1 := h.set (i := 0) (j := k) (by omega) (by omega) (fun _ => False)
    rw [wd_none, show 0 * m + k = k by omega] at h1
    obtain ⟨h2, h3⟩ := tab_clear n (k + 1) _ _ h1 (by omega)
    refine ⟨h2.congr fun r x hr hx => ?_, ((Onl.refl g w).setCell k (.int .u64 0)).trans h3⟩
    obtain rfl : r = 0 := by omega
    by_cases hk : x / 64 = k
    · have h4 : ¬ x < 64 * k := by omega
      simp [hk, h4]
    · have h4 : x < 64 * (k + 1) ↔ x < 64 * k := by omega
      simp [hk, h4]
theorem Tryd.zeroU64 (w : World) : (zeroValue 45).run Tryd.prog w = .ok (.int .u64 0) w := by
  obtain ⟨i0, hi, hz0, hz1, hz2⟩ := info_parts Tryd.infoU64
  simp [zeroValue, typeInfo, hi, hz0]
theorem run_mclear {g m c : Nat} {P : Nat → Nat → Prop} (ty : TypeId) (w : World) (h : Tb w g 1 m P) :
    ∃ w', (Builtin.clear_ #[91] ty #[.slice (some ⟨g, 0, none⟩) m c]).run Tryd.prog w = .ok (.tuple #[]) w' ∧ Tb w' g 1 m (fun _ _ => False) ∧ Onl g w w' := by
  by_cases hm : m = 0
  · subst hm
    refine ⟨w, ?_, h.congr fun _ x _ hx => by omega, Onl.refl _ _⟩
    simp [Builtin.clear_, run_underlying Tryd.underlying91]
  · have hr := Lib.run_clear_slice (P := Tryd.prog) w 91 45 ty (.int .u64 0) Tryd.underlying91 Tryd.zeroU64 rfl rfl g 0 m c (by omega) (fun j hj => by
      have := h.cell (i := 0) (by omega) hj
      rw [show 0 * m + j = 0 + j by omega] at this
      rw [this]; rfl) (fun j _ => h.frozen)
    obtain ⟨h1, h2⟩ := tab_clear m 0 w P h (by omega)
    exact ⟨_, hr, h1.congr fun _ x _ _ => by simp, h2⟩
theorem run_mmake (m : Nat) (hm : m ≤ 100) (w : World) : (Instr.makeSlice 91 (.int .i64 (m : Int)) (.int .i64 (m : Int))).run Tryd.prog w = .ok (.slice (some ⟨w.heap.size, 0, none⟩) m m) (w.alloc (.cells (tabA 1 m (fun _ _ => False)) 45)) := by
  obtain ⟨i0, hi, hz0, hz1, hz2⟩ := info_parts Tryd.infoU64
  have hr := run_make (P := Tryd.prog) w 91 45 i0 (.int .u64 0) Tryd.underlying91 hi hz0 .i64 .i64 (m : Int) (m : Int) (by omega) (by omega) (by rw [hz2]; omega) (by omega)
  have hmt := made_tab 1 m
  rw [hz1, Int.toNat_natCast] at hr
  rw [Nat.one_mul] at hmt
  rw [hmt] at hr
  exact hr
end Go.Proofs.YtjjejcgpeefclaaDoor
