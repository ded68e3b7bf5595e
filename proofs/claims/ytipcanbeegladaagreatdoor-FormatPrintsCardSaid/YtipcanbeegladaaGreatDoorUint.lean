/-
  CONTRACT of strconv.FormatUint at base 10, walked over the library's own text: the decimal digits; nothing that was there is written. Condition: the library's table of powers of ten is as it was laid.
-/
import Derived.Test.YtipcanbeegladaaGreatDoorShelf
import Derived.Test.YtipcanbeegladaaGreatDoorRows
import Derived.WalkKit
import Derived.WalkSpells
import Derived.WalkLawsBesides
import Derived.Lib.Hide
import Derived.Lib.ItoaMem
import Derived.Lib.AppendIntMem
import Derived.Lib.ItoaLen
import Derived.BigCall
import Derived.BigGuard
namespace Go.Proofs.YtipcanbeegladaaGreatDoor
open Go.RowKit

/-- What the library's package-level variables hold: the table of powers of ten. -/
structure Gl (w : World) : Prop where
  tab : Lib.TabBelow Tryz.prog w.heap.size w "internal/strconv.uint64pow10" .u64 Lib.pow10Tab
theorem Gl.next {w w1 : World} (h : Gl w) (hb : Below w.heap.size w w1) : Gl w1 := ⟨fun w' h' => h.tab w' (hb.trans (h'.mono hb.size))⟩
theorem Gl.tabIs {w : World} (h : Gl w) : Lib.TabIs Tryz.prog w "internal/strconv.uint64pow10" .u64 Lib.pow10Tab := h.tab _ (Below.refl _ _)

theorem zeros_row (w : World) (T : TypeId) (nd : Nat) (hs : nd ≤ 24) : Sort.Holds (fun (b : UInt8) => Value.int .u8 (b.toNat : Int)) (w.alloc (.cells Lib.zeros24 T)) w.heap.size 0 (Array.replicate nd (0 : UInt8)) := fun j hj => by
  have hj' : j < nd := by simpa using hj
  refine ⟨?_, World.frozen?_alloc_new _ _ _ _⟩
  rw [World.cell?_alloc_new, Lib.zeros24_at _ (by omega), getElem!_pos _ j hj]
  simp
set_option maxHeartbeats 2000000 in
set_option maxRecDepth 100000 in
theorem iuint_any (u : Nat) (w : World) (hu : u < 18446744073709551616) (G : Gl w) :
    Calls Tryz.prog 82 #[.int .u64 u, .int .i64 10] w fun e w' => e = .returned (.string ⟨(Lib.decDigits u).toArray⟩) ∧ Below w.heap.size w w' := by
  by_cases h100 : u < 100
  · have hi : ((u : Nat) : Int) ≤ 99 := by omega
    go_enter Tryz.func82, Tryz.ntmps82
    go_wp2_with (go_at_call 98; refine (Tryz.internal_strconv_small u h100 _).mono ?_; rintro e w' ⟨rfl, rfl⟩)
    go_ret
    exact ⟨rfl, Below.refl _ _⟩
  · have hi : ¬ ((u : Nat) : Int) < 100 := by omega
    have hu1 : 1 ≤ u := by omega
    have hnd := Lib.nDigits_le20 u hu
    have hnp := Lib.nDigits_pos u
    have hal : Tryz.prog.arrayLen 128 = 24 := by kernel_rfl
    have hsl : ∀ W, (Instr.sliceAt 128 (.pointer (some ⟨w.heap.size, 0, none⟩)) none (some (.int .i64 (Lib.nDigits u : Int))) none).run Tryz.prog W = .ok (.slice (some ⟨w.heap.size, 0, none⟩) (Lib.nDigits u) 24) W := fun W => by
      rw [run_sliceAt_array_h W 128 ⟨w.heap.size, 0, none⟩ (by kernel_rfl) .i64 (Lib.nDigits u : Int) (by omega) (by rw [hal]; omega)]
      go_simp
    have hH0 := zeros_row w 128 (Lib.nDigits u) (by omega)
    have hfmt := Tryz.internal_strconv_formatBase10 w.heap.size 0 24 u (Array.replicate (Lib.nDigits u) 0) (w.alloc (.cells Lib.zeros24 128)) hH0 (by rw [Array.size_replicate]; exact Lib.lt_pow_nDigits u) hu (by rw [Array.size_replicate]; omega)
    rw [Array.size_replicate] at hfmt
    have HH0 := Lib.hid hH0
    have HU := Lib.hid (And.intro hu1 hu)
    have HT := Lib.hid (Lib.tabIs_alloc G.tabIs (.cells Lib.zeros24 128))
    clear hH0 hal hu hu1 h100 G
    go_enter Tryz.func82, Tryz.ntmps82
    go_wp2_with (first
      | (go_at_call 99; refine (Tryz.internal_strconv_numDigits u HU.out.1 HU.out.2 _ HT.out).mono ?_; rintro e w' ⟨rfl, rfl⟩))
    refine (show Calls _ _ _ _ _ from hfmt).mono ?_
    rintro e w2 ⟨rfl, k, v', dk, hw2, hF⟩
    have hcv : (convert 39 9 (.slice (some ⟨w.heap.size, 0, none⟩) (Lib.nDigits u) 24)).run Tryz.prog w2 = .ok (.string ⟨(Lib.decDigits u).toArray⟩) w2 := by
      have h := run_convert_bytes_back (P := Tryz.prog) w2 39 9 5 ⟨w.heap.size, 0, none⟩ 24 (Lib.decDigits u) Tryz.underlying39 Tryz.underlying5 Tryz.underlying9 (fun j hj => by
        rw [Lib.row_is_numeral hF j hj, Lib.add_plain, hw2, World.cell?_drewN]
        exact Sort.cell?_putRow (fun (b : UInt8) => Value.int .u8 (b.toNat : Int)) _ w.heap.size 0 _ dk HH0.out (by rw [hF.size, Array.size_replicate]) j (by rw [hF.size]; rw [Lib.decDigits_length] at hj; exact hj))
      rw [Lib.decDigits_length] at h
      exact h
    have HB : Hid (Below w.heap.size w w2) := by
      rw [hw2, Sort.alloc_eq_grow]
      obtain ⟨os', _, e⟩ := Sort.putRow_grow_new (fun (b : UInt8) => Value.int .u8 (b.toNat : Int)) w #[Obj.cells Lib.zeros24 128] w.heap.size 0 dk (Nat.le_refl _)
      rw [e]
      exact Lib.hid (Lib.below_grow _ w (Nat.le_refl _) k os')
    clear hw2 hF hfmt HT HH0
    go_wp2
    go_ret
    exact ⟨rfl, HB.out⟩
theorem uint_any (u : Nat) (w : World) (hu : u < 18446744073709551616) (G : Gl w) :
    Calls Tryz.prog 54 #[.int .u64 u, .int .i64 10] w fun e w' => e = .returned (.string ⟨(Lib.decDigits u).toArray⟩) ∧ Below w.heap.size w w' := by
  have HU := Lib.hid hu
  have HG := Lib.hid G
  clear hu G
  go_enter Tryz.func54, Tryz.ntmps54
  go_wp2_with (go_at_call 82; refine (iuint_any u _ HU.out HG.out).mono ?_; rintro e w' ⟨rfl, hb⟩)
  go_ret
  exact ⟨rfl, hb⟩
end Go.Proofs.YtipcanbeegladaaGreatDoor
