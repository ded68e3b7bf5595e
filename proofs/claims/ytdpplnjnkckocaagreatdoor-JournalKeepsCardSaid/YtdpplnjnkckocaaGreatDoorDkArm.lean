/-
  CONTRACT of Arm.
-/
import Derived.Test.YtdpplnjnkckocaaGreatDoorDkL
namespace Go.Proofs.YtdpplnjnkckocaaGreatDoor
open Go.RowKit Go.Maps

section
variable {Fp : Nat → Prop} {w : World} {Bd mn ms : Nat} {vs : Nat → Value × Value} {d : DS} {m : Nat}
set_option maxHeartbeats 1000000 in
theorem arm_any (h : DV Fp w Bd mn ms vs d m) (n : Int) (hn : -9223372036854775808 ≤ n ∧ n ≤ 9223372036854775807) :
    Calls Tryz.prog 8 #[.pointer (some ⟨Bd, 0, none⟩), .int .i64 n] w fun e w' => e = .returned (.tuple #[]) ∧ DV Fp w' Bd mn ms vs (armDS d n) m ∧ Oth Fp w w' := by
  unfold armDS
  have c4 := h.c4
  cases hd : d.dead with
  | true =>
    have HD := Lib.hid h
    rw [hd] at c4
    clear h
    go_enter Tryz.func8, Tryz.ntmps8
    go_wp2
    go_end0
    exact ⟨rfl, by simpa [hd] using HD.out, Oth.refl _ _⟩
  | false =>
    have HD := Lib.hid (h.setB 3 (.int .i64 n) (q := d.quota) (l := n) (x := d.dead) h.quo hn rfl)
    have HO := Lib.hid ((Oth.refl Fp w).setCell (p := ⟨Bd, 3, none⟩) h.fB (.int .i64 n))
    have c3 := h.c3
    have z3 := h.fz 3
    rw [hd] at c4
    clear h
    go_enter Tryz.func8, Tryz.ntmps8
    go_wp2
    go_end0
    exact ⟨rfl, by have := HD.out; rw [hd] at this; simpa using this, HO.out⟩
end
variable {Fp : Nat → Prop} {w : World} {Bd : Nat} {d : DS} {m : Nat}
theorem arm_d (h : Dsk Fp w Bd d m) (n : Int) (hn : -9223372036854775808 ≤ n ∧ n ≤ 9223372036854775807) :
    Calls Tryz.prog 8 #[.pointer (some ⟨Bd, 0, none⟩), .int .i64 n] w fun e w' => e = .returned (.tuple #[]) ∧ OpPost Fp w Bd (armDS d n) m w' := by
  obtain ⟨a, b, c, hne, hD⟩ := h
  exact (arm_any hD n hn).mono (fun e w' ⟨h1, h2, h3⟩ => ⟨h1, ⟨_, _, _, hne, h2⟩, h3⟩)
end Go.Proofs.YtdpplnjnkckocaaGreatDoor
