/-
  CONTRACTS of bytes.HasPrefix, slices.Clip, and of a file's crash.
-/
import Derived.Test.YtjlkdglbnfifeaaGreatDoorDkWA
namespace Go.Proofs.YtjlkdglbnfifeaaGreatDoor
open Go.RowKit Go.Maps

variable {Fp : Nat → Prop} {w : World} {Bd mn ms : Nat} {vs : Nat → Value × Value} {d : DS} {m : Nat}
theorem Slot.conv {v : Value} {l : List UInt8} (h : Slot w v l) : ∃ p c, v = .slice p l.length c ∧ (convert 27 9 (.slice p l.length c)).run Tryz.prog w = .ok (.string ⟨l.toArray⟩) w := by
  rcases h with ⟨rfl, rfl⟩ | ⟨g, cap, cur, rfl, hb, h1, h2, h3, h4⟩
  · exact ⟨none, 0, rfl, Lib.run_convert_nil_bytes (P := Tryz.prog) w 27 9 5 0 Tryz.underlying27 Tryz.underlying5 Tryz.underlying9⟩
  · have := row_conv hb h4 0 l.length cap (by omega)
    rw [show (⟨g, 0, none⟩ : Addr).add 0 = ⟨g, 0, none⟩ from rfl] at this
    simp only [List.drop_zero, List.take_length] at this
    exact ⟨_, cap, rfl, this⟩
theorem lbytes_ne {a b : List UInt8} (h : a ≠ b) : (⟨a.toArray⟩ : ByteArray) ≠ ⟨b.toArray⟩ := by
  intro e
  apply h
  have := congrArg (fun s : ByteArray => s.data.toList) e
  simpa using this
set_option maxHeartbeats 1000000 in
theorem equal_any {u v : Value} {a b : List UInt8} (hu : Slot w u a) (hv : Slot w v b) : Calls Tryz.prog 78 #[u, v] w fun e w' => e = .returned (.bool (decide (a = b))) ∧ w' = w := by
  obtain ⟨p, c, rfl, h1⟩ := hu.conv
  obtain ⟨q, k, rfl, h2⟩ := hv.conv
  by_cases hab : a = b
  · subst hab
    rw [decide_eq_true rfl]
    generalize (⟨a.toArray⟩ : ByteArray) = A at *
    generalize a.length = n at *
    clear hu hv
    go_enter Tryz.func78, Tryz.ntmps78
    go_wp2
    go_ret
    exact ⟨rfl, rfl⟩
  · rw [decide_eq_false hab]
    have hne := lbytes_ne hab
    generalize (⟨a.toArray⟩ : ByteArray) = A at *
    generalize (⟨b.toArray⟩ : ByteArray) = B at *
    have hne2 : (A.toList == B.toList) = false := by
      rw [beq_eq_false_iff_ne]
      intro e
      rw [ByteArray.toList_eq, ByteArray.toList_eq] at e
      exact hne (WideShapes.bytes_inj e)
    generalize a.length = n at *
    generalize b.length = k0 at *
    clear hu hv hab
    go_enter Tryz.func78, Tryz.ntmps78
    go_wp2
    go_ret
    exact ⟨rfl, rfl⟩
set_option maxHeartbeats 1000000 in
theorem hasp_any {u v : Value} {a b : List UInt8} (hu : Slot w u a) (hv : Slot w v b) (ha : a.length ≤ 1048576) (hb : b.length ≤ 1048576) : Calls Tryz.prog 53 #[u, v] w fun e w' => e = .returned (.bool (b.isPrefixOf a)) ∧ w' = w := by
  by_cases hle : b.length ≤ a.length
  · have hcut : ∃ p c, u = .slice p a.length c ∧ a.length ≤ c ∧ Slot w (.slice p b.length c) (a.take b.length) := by
      rcases hu with ⟨rfl, rfl⟩ | ⟨g, cap, cur, rfl, hg, h1, h2, h3, h4⟩
      · have : b = [] := List.eq_nil_of_length_eq_zero (by simpa using hle)
        subst this
        exact ⟨none, 0, rfl, Nat.le_refl _, .inl ⟨rfl, rfl⟩⟩
      · exact ⟨_, cap, rfl, h1, Slot.first (.inr ⟨g, cap, cur, rfl, hg, h1, h2, h3, h4⟩) hle (by omega) (Nat.le_refl _)⟩
    obtain ⟨p, c, rfl, hc, hs⟩ := hcut
    have EC := equal_any hs hv
    have hpre : decide (a.take b.length = b) = b.isPrefixOf a := by
      rw [Bool.eq_iff_iff]
      simp only [decide_eq_true_eq, List.isPrefixOf_iff_prefix, List.prefix_iff_eq_take]
      exact ⟨fun e => e.symm, fun e => e.symm⟩
    rw [hpre] at EC
    obtain ⟨q, k, rfl, _, _⟩ := hv.form
    generalize b.isPrefixOf a = r at *
    generalize a.length = n at *
    generalize b.length = k0 at *
    clear hu hv hpre
    go_enter Tryz.func53, Tryz.ntmps53
    go_wp2_with (refine EC.mono ?_; rintro e w1 ⟨rfl, rfl⟩)
    go_ret
    exact ⟨rfl, rfl⟩
  · have hr : b.isPrefixOf a = false := by
      rw [Bool.eq_false_iff]
      intro e
      rw [List.isPrefixOf_iff_prefix] at e
      exact hle e.length_le
    rw [hr]
    obtain ⟨p, c, rfl, _, _⟩ := hu.form
    obtain ⟨q, k, rfl, _, _⟩ := hv.form
    have hle' : decide ((b.length : Int) ≤ (a.length : Int)) = false := by simp; omega
    generalize a.length = n at *
    generalize b.length = k0 at *
    clear hu hv hr
    go_enter Tryz.func53, Tryz.ntmps53
    go_wp2
    go_ret
    exact ⟨rfl, rfl⟩
set_option maxHeartbeats 1000000 in
theorem clip_any (p : Option Addr) (n c : Nat) (hn : n ≤ c) (hc : n ≤ 1048576) (hp : p = none → n = 0) (w : World) : Calls Tryz.prog 54 #[.slice p n c] w fun e w' => e = .returned (.slice p n n) ∧ w' = w := by
  cases p with
  | none =>
    obtain rfl : n = 0 := hp rfl
    go_enter Tryz.func54, Tryz.ntmps54
    go_wp2
    go_ret
    exact ⟨rfl, rfl⟩
  | some a =>
    clear hp
    go_enter Tryz.func54, Tryz.ntmps54
    go_wp2
    go_ret
    exact ⟨rfl, rfl⟩
end Go.Proofs.YtjlkdglbnfifeaaGreatDoor
