/-
  THE WALK of the law SumJoins: whatever the two numbers and the count, it returns true and writes to nothing that was there.
-/
import Derived.Test.YtjiehfjpejoeeaaRef
namespace Go.Proofs.Ytjiehfjpejoeeaa
open Go.RowKit

set_option maxHeartbeats 400000 in
theorem join_neg (x y : Nat) (n : Int) (w : World) (hn : n < 0) :
    Calls Try.prog 17 #[.int .u32 x, .int .u32 y, .int .i64 n] w fun e w' => e = .returned (.int .u32 x) ∧ w = w' := by
  go_enter Try.func17, Try.ntmps17
  go_wp2_with fail
  go_ret
  exact ⟨rfl, rfl⟩
set_option maxHeartbeats 400000 in
theorem refjoin_neg (x y : Nat) (n : Int) (w : World) (hn : n < 0) :
    Calls Try.prog 18 #[.int .u32 x, .int .u32 y, .int .i64 n] w fun e w' => e = .returned (.int .u32 x) ∧ w = w' := by
  go_enter Try.func18, Try.ntmps18
  go_wp2_with fail
  go_ret
  exact ⟨rfl, rfl⟩

def joinV (x y : Nat) (n : Int) : Nat := if n < 0 then x else Ad.join x y n.toNat
theorem join_all (x y : Nat) (n : Int) (w : World) (hx : x < 4294967296) (hy : y < 4294967296) (hn : n ≤ 9223372036854775807) :
    Calls Try.prog 17 #[.int .u32 x, .int .u32 y, .int .i64 n] w fun e w' => e = .returned (.int .u32 (joinV x y n : Nat)) ∧ Below w.heap.size w w' := by
  by_cases h : n < 0
  · unfold joinV; rw [if_pos h]
    exact (join_neg x y n w h).mono fun e w' ⟨h1, h2⟩ => ⟨h1, by rw [← h2]; exact Below.refl _ _⟩
  · unfold joinV; rw [if_neg h]
    have := join_any x y n.toNat w hx hy (by unfold maxLen; omega)
    rwa [Int.toNat_of_nonneg (by omega)] at this
theorem refjoin_all (x y : Nat) (n : Int) (w : World) (hx : x < 4294967296) (hy : y < 4294967296) (hn : n ≤ 9223372036854775807) :
    Calls Try.prog 18 #[.int .u32 x, .int .u32 y, .int .i64 n] w fun e w' => e = .returned (.int .u32 (joinV x y n : Nat)) ∧ w = w' := by
  by_cases h : n < 0
  · unfold joinV; rw [if_pos h]
    exact refjoin_neg x y n w h
  · unfold joinV; rw [if_neg h]
    have := refjoin_any x y n.toNat w hx hy (by unfold maxLen; omega)
    rwa [Int.toNat_of_nonneg (by omega)] at this

set_option maxHeartbeats 1000000 in
theorem joins_walk (a0 a1 a2 : Int) (w0 : (Lit.int .u32 a0).wf = true) (w1 : (Lit.int .u32 a1).wf = true) (w2 : (Lit.int .i64 a2).wf = true) (w : World) :
    Calls Try.prog 4 #[.int .u32 a0, .int .u32 a1, .int .i64 a2] w fun e w' => e = .returned (.bool true) ∧ Below w.heap.size w w' := by
  have g0 := bounds_u32 w0
  have g1 := bounds_u32 w1
  have g2 := bounds_i64 w2
  obtain ⟨x, rfl⟩ : ∃ x : Nat, a0 = x := ⟨a0.toNat, by omega⟩
  obtain ⟨y, rfl⟩ : ∃ y : Nat, a1 = y := ⟨a1.toNat, by omega⟩
  have hx : x < 4294967296 := by omega
  have hy : y < 4294967296 := by omega
  have JA := Lib.hid (fun w => join_all x y a2 w hx hy (by omega))
  have RA := Lib.hid (fun w => refjoin_all x y a2 w hx hy (by omega))
  clear w0 w1 w2 g0 g1 g2
  go_enter Try.func4, Try.ntmps4
  go_wp2_with fail
  all_goals
    refine (awake_any _).mono ?_
    rintro e w1 ⟨rfl, h1⟩
    go_wp2_with fail
    first
      | (go_ret; exact ⟨rfl, h1⟩)
      | (refine (JA.out _).mono ?_
         rintro e w2 ⟨rfl, hb2⟩
         have h2 := h1.trans (hb2.mono h1.size)
         clear h1 hb2
         go_wp2_with fail
         refine (RA.out _).mono ?_
         rintro e w3 ⟨rfl, rfl⟩
         go_wp2_with fail
         refine (hex_any y _ hy).mono ?_
         rintro e w4 ⟨rfl, hb4⟩
         have h4 := h2.trans (hb4.mono h2.size)
         clear h2 hb4
         go_wp2_with fail
         refine (refhex_any y _ hy).mono ?_
         rintro e w5 ⟨rfl, hb5⟩
         have h5 := h4.trans (hb5.mono h4.size)
         clear h4 hb5
         go_wp2_with fail
         go_ret
         exact ⟨by simp, h5⟩)
end Go.Proofs.Ytjiehfjpejoeeaa
