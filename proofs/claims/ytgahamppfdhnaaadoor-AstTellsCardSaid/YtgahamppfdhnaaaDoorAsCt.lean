/-
  CONTRACT of slices.Contains on two texts.
-/
import Derived.Test.YtgahamppfdhnaaaDoorAsRp
import Derived.LoopNIn
namespace Go.Proofs.YtgahamppfdhnaaaDoor
open Go.RowKit

def idx2 (x s0 s1 : ByteArray) : Int := if eqB x s0 then 0 else if eqB x s1 then 1 else -1
set_option maxHeartbeats 2000000 in
set_option maxRecDepth 100000 in
theorem index_two (g c : Nat) (s0 s1 x : ByteArray) (w : World) (h0 : w.cell? ⟨g, 0, none⟩ = some (.string s0)) (h1 : w.cell? ⟨g, 1, none⟩ = some (.string s1)) :
    Calls Tryd.prog 36 #[.slice (some ⟨g, 0, none⟩) 2 c, .string x] w fun e w' => e = .returned (.int .i64 (idx2 x s0 s1)) ∧ w' = w := by
  unfold idx2
  cases e0 : eqB x s0 with
  | true =>
    have g0 : (x.toList == s0.toList) = true := e0
    clear e0
    go_enter Tryd.func36, Tryd.ntmps36
    go_wp2_with fail
    refine (wpIn_wide (n := 6)).1 (wpIn_loop_rounds 4 ?_)
    rw [roundsIn_succ]
    refine wpIn_wide.2 ?_
    go_wp2_with fail
    go_ret
    exact ⟨rfl, rfl⟩
  | false =>
    have g0 : (x.toList == s0.toList) = false := e0
    clear e0
    cases e1 : eqB x s1 with
    | true =>
      have g1 : (x.toList == s1.toList) = true := e1
      clear e1
      go_enter Tryd.func36, Tryd.ntmps36
      go_wp2_with fail
      refine (wpIn_wide (n := 6)).1 (wpIn_loop_rounds 4 ?_)
      rw [roundsIn_succ]
      refine wpIn_wide.2 ?_
      go_wp2_with fail
      rw [roundsIn_succ]
      refine wpIn_wide.2 ?_
      go_wp2_with fail
      go_ret
      exact ⟨rfl, rfl⟩
    | false =>
      have g1 : (x.toList == s1.toList) = false := e1
      clear e1
      go_enter Tryd.func36, Tryd.ntmps36
      go_wp2_with fail
      refine (wpIn_wide (n := 6)).1 (wpIn_loop_rounds 4 ?_)
      rw [roundsIn_succ]
      refine wpIn_wide.2 ?_
      go_wp2_with fail
      rw [roundsIn_succ]
      refine wpIn_wide.2 ?_
      go_wp2_with fail
      rw [roundsIn_succ]
      refine wpIn_wide.2 ?_
      go_wp2_with fail
      go_ret
      exact ⟨rfl, rfl⟩
theorem contains_two (g c : Nat) (s0 s1 x : ByteArray) (w : World) (h0 : w.cell? ⟨g, 0, none⟩ = some (.string s0)) (h1 : w.cell? ⟨g, 1, none⟩ = some (.string s1)) :
    Calls Tryd.prog 29 #[.slice (some ⟨g, 0, none⟩) 2 c, .string x] w fun e w' => e = .returned (.bool (eqB x s0 || eqB x s1)) ∧ w' = w := by
  have HC := Lib.hid (index_two g c s0 s1 x w h0 h1)
  have HI : Hid (idx2 x s0 s1 = 0 ∧ (eqB x s0 || eqB x s1) = true ∨ idx2 x s0 s1 = 1 ∧ (eqB x s0 || eqB x s1) = true ∨ idx2 x s0 s1 = -1 ∧ (eqB x s0 || eqB x s1) = false) := Lib.hid (by
    unfold idx2
    cases eqB x s0 <;> cases eqB x s1 <;> simp)
  clear h0 h1
  generalize idx2 x s0 s1 = v at *
  generalize (eqB x s0 || eqB x s1) = b at *
  rcases HI.out with ⟨rfl, rfl⟩ | ⟨rfl, rfl⟩ | ⟨rfl, rfl⟩
  all_goals
    go_enter Tryd.func29, Tryd.ntmps29
    go_wp2_with fail
    refine HC.out.mono ?_
    rintro e w2 ⟨rfl, rfl⟩
    go_wp2_with fail
    go_ret
    exact ⟨rfl, rfl⟩
end Go.Proofs.YtgahamppfdhnaaaDoor
