/-
  CONTRACTS of New and of deed, with each function that it is handed.
-/
import Derived.Test.YtjlkdglbnfifeaaGreatDoorDkW5
namespace Go.Proofs.YtjlkdglbnfifeaaGreatDoor
open Go.RowKit Go.Maps

variable {Fp : Nat → Prop} {w : World} {Bd mn ms : Nat} {vs : Nat → Value × Value} {d : DS} {m : Nat}
def newDS (q : Int) : DS := { now := [], safe := [], fs := fun _ => ([], []), quota := max q 0, left := -1, dead := false }
theorem DV.made {Fp : Nat → Prop} (w : World) (hF : Up Fp w) (m : Nat) (hm : m ≤ 100000) :
    DV Fp (((w.alloc (.map #[] 0)).alloc (.map #[] 0)).alloc (.cells #[.map (some w.heap.size), .map (some (w.heap.size + 1)), .int .i64 0, .int .i64 (-1), .bool false] 50)) (w.heap.size + 2) w.heap.size (w.heap.size + 1) (fun _ => (.slice none 0 0, .slice none 0 0)) (newDS 0) m := by
  have e1 : (w.alloc (.map #[] 0)).heap.size = w.heap.size + 1 := by simp
  have e2 : ((w.alloc (.map #[] 0)).alloc (.map #[] 0)).heap.size = w.heap.size + 2 := by simp
  have no : ∀ b, ¬ (newDS 0).Has b := by
    rintro b ⟨n, h | h⟩ <;> cases h
  have o1 := World.ownsMap_made (H := Unit) w Tryz.prog 9 ptrE
  have o2 := World.ownsMap_made (H := Unit) (w.alloc (.map #[] 0)) Tryz.prog 9 ptrE
  rw [e1] at o2
  refine { blk := ?_, mapN := ((o1.alloc _).alloc _).mono (Nat.zero_le _), mapS := (o2.alloc _).mono (Nat.zero_le _), fB := hF _ (by omega), fN := hF _ (by omega), fS := hF _ (by omega), files := fun b hb => absurd hb (no b), apart := fun b _ hb _ => absurd hb (no b), srtN := List.Pairwise.nil, srtS := List.Pairwise.nil, lens := fun b hb => absurd hb (no b), quo := by simp [newDS], lft := by simp [newDS], few := hm }
  have := heap_alloc_new ((w.alloc (.map #[] 0)).alloc (.map #[] 0)) (.cells #[.map (some w.heap.size), .map (some (w.heap.size + 1)), .int .i64 0, .int .i64 (-1), .bool false] 50)
  rw [e2] at this
  exact this
def NewPost (Fp : Nat → Prop) (w : World) (q : Int) (m : Nat) (w' : World) : Prop := Dsk Fp w' (w.heap.size + 2) (newDS q) m ∧ Below w.heap.size w w'
set_option maxHeartbeats 4000000 in
set_option maxRecDepth 100000 in
theorem dnew_any (w : World) (hF : Up Fp w) (q : Int) (hq : q ≤ 9223372036854775807) (m : Nat) (hm : m ≤ 100000) :
    Calls Tryz.prog 5 #[.int .i64 q] w fun e w' => e = .returned (.pointer (some ⟨w.heap.size + 2, 0, none⟩)) ∧ NewPost Fp w q m w' := by
  have HD := DV.made (Fp := fun k => w.heap.size ≤ k) w (fun _ hk => hk) m hm
  have hB : Below w.heap.size w (((w.alloc (.map #[] 0)).alloc (.map #[] 0)).alloc (.cells #[.map (some w.heap.size), .map (some (w.heap.size + 1)), .int .i64 0, .int .i64 (-1), .bool false] 50)) := (((Below.refl _ w).alloc (Nat.le_refl _) _).alloc (by simp) _).alloc (by simp; omega) _
  have QC := (quota_any HD q hq).mono (R' := fun e w' => e = .returned (.tuple #[]) ∧ NewPost Fp w q m w') (by
    rintro e w' ⟨rfl, hD, hO⟩
    exact ⟨rfl, ⟨_, _, _, by omega, hD.wider (fun j _ hj => hF j hj)⟩, hB.trans (hO.below (fun k hk => hk) hB.size)⟩)
  have QH := Lib.hid QC
  clear QC HD hB hF
  have hmm := @run_makeMap Tryz.prog
  go_enter Tryz.func5, Tryz.ntmps5
  go_wp2_with (refine QH.out.mono ?_; rintro e w1 ⟨rfl, H1⟩)
  go_ret
  exact ⟨rfl, H1⟩


def dieD (d : DS) : DS := { d with dead := true }
def decD (d : DS) : DS := if 0 < d.left then { d with left := d.left - 1 } else d
def decW (w : World) (Bd : Nat) (d : DS) : World := if 0 < d.left then w.setCell ⟨Bd, 3, none⟩ (.int .i64 (d.left - 1)) else w
theorem DV.die (h : DV Fp w Bd mn ms vs d m) : DV Fp (w.setCell ⟨Bd, 4, none⟩ (.bool true)) Bd mn ms vs (dieD d) m := h.setB 4 (.bool true) (q := d.quota) (l := d.left) (x := true) h.quo h.lft rfl
theorem DV.dieO (h : DV Fp w Bd mn ms vs d m) : Oth Fp w (w.setCell ⟨Bd, 4, none⟩ (.bool true)) := (Oth.refl Fp w).setCell (p := ⟨Bd, 4, none⟩) h.fB _
theorem DV.dec (h : DV Fp w Bd mn ms vs d m) : DV Fp (decW w Bd d) Bd mn ms vs (decD d) m := by
  unfold decW decD
  split
  · exact h.setB 3 (.int .i64 (d.left - 1)) (q := d.quota) (l := d.left - 1) (x := d.dead) h.quo (by have := h.lft; omega) rfl
  · exact h
theorem DV.decO (h : DV Fp w Bd mn ms vs d m) : Oth Fp w (decW w Bd d) := by
  unfold decW
  split
  · exact (Oth.refl Fp w).setCell (p := ⟨Bd, 3, none⟩) h.fB _
  · exact Oth.refl _ _
theorem decW_cell {a : Addr} (h : a.block ≠ Bd) : (decW w Bd d).cell? a = w.cell? a := by
  unfold decW
  split
  · exact World.cell?_setCell_far _ _ _ _ (Ne.symm h)
  · rfl
theorem dieW_cell {a : Addr} (h : a.block ≠ Bd) : (w.setCell ⟨Bd, 4, none⟩ (.bool true)).cell? a = w.cell? a := World.cell?_setCell_far _ _ _ _ (Ne.symm h)
theorem nothing_any (w : World) : Calls Tryz.prog 48 #[] w fun e w' => e = .returned (.tuple #[]) ∧ w' = w := by
  go_enter Tryz.func48, Tryz.ntmps48
  go_wp2
  go_end0
  exact ⟨rfl, rfl⟩

set_option maxHeartbeats 1000000 in
theorem die_Append (h : DV Fp w Bd mn ms vs d m) (h0 : d.left = 0) (x0 x1 x2 : Value) (R : World → Prop) (H : Calls Tryz.prog 41 #[x0, x1, x2] (w.setCell ⟨Bd, 4, none⟩ (.bool true)) fun e w' => e = .returned (.tuple #[]) ∧ R w') :
    Calls Tryz.prog 43 #[.pointer (some ⟨Bd, 0, none⟩), .func (.func 41) #[] #[x0, x1, x2], .func (.func 41) #[] #[x0, x1, x2]] w fun e w' => e = .returned (.int .i64 8) ∧ R w' := by
  have c3 := h.c3
  have c4 := h.c4
  have z4 := h.fz 4
  rw [h0] at c3
  clear h h0
  go_enter Tryz.func43, Tryz.ntmps43
  go_wp2_with (refine H.mono ?_; rintro e w1 ⟨rfl, H1⟩)
  go_ret
  exact ⟨rfl, H1⟩
set_option maxHeartbeats 1000000 in
theorem do_Append (h : DV Fp w Bd mn ms vs d m) (h0 : d.left ≠ 0) (x0 x1 x2 : Value) (R : World → Prop) (H : Calls Tryz.prog 41 #[x0, x1, x2] (decW w Bd d) fun e w' => e = .returned (.tuple #[]) ∧ R w') :
    Calls Tryz.prog 43 #[.pointer (some ⟨Bd, 0, none⟩), .func (.func 41) #[] #[x0, x1, x2], .func (.func 41) #[] #[x0, x1, x2]] w fun e w' => e = .returned (.int .i64 0) ∧ R w' := by
  have c3 := h.c3
  have z3 := h.fz 3
  have i0 : (d.left == 0) = false := by simpa using h0
  have hl := h.lft
  have hw : 0 < d.left → IntKind.i64.wrap (d.left - 1) = d.left - 1 := fun hp => wrap_in (by omega) (by omega)
  unfold decW at H
  generalize d.left = l at *
  clear h h0 hl
  by_cases hp : 0 < l
  · rw [if_pos hp] at H
    have hw1 := hw hp
    clear hw
    go_enter Tryz.func43, Tryz.ntmps43
    go_wp2_with (refine H.mono ?_; rintro e w1 ⟨rfl, H1⟩)
    go_ret
    exact ⟨rfl, H1⟩
  · rw [if_neg hp] at H
    have hp' : decide (0 < l) = false := by simpa using hp
    clear hw
    go_enter Tryz.func43, Tryz.ntmps43
    go_wp2_with (refine H.mono ?_; rintro e w1 ⟨rfl, H1⟩)
    go_ret
    exact ⟨rfl, H1⟩
set_option maxHeartbeats 1000000 in
theorem die_Sync (h : DV Fp w Bd mn ms vs d m) (h0 : d.left = 0) (x0 : Value) :
    Calls Tryz.prog 43 #[.pointer (some ⟨Bd, 0, none⟩), .func (.func 47) #[] #[x0], .func (.func 48) #[] #[]] w fun e w' => e = .returned (.int .i64 8) ∧ w' = w.setCell ⟨Bd, 4, none⟩ (.bool true) := by
  have c3 := h.c3
  have c4 := h.c4
  have z4 := h.fz 4
  rw [h0] at c3
  have H := nothing_any (w.setCell ⟨Bd, 4, none⟩ (.bool true))
  clear h h0
  go_enter Tryz.func43, Tryz.ntmps43
  go_wp2_with (refine H.mono ?_; rintro e w1 ⟨rfl, H1⟩)
  subst H1
  go_ret
  exact ⟨rfl, rfl⟩
set_option maxHeartbeats 1000000 in
theorem do_Sync (h : DV Fp w Bd mn ms vs d m) (h0 : d.left ≠ 0) (x0 : Value) (R : World → Prop) (H : Calls Tryz.prog 47 #[x0] (decW w Bd d) fun e w' => e = .returned (.tuple #[]) ∧ R w') :
    Calls Tryz.prog 43 #[.pointer (some ⟨Bd, 0, none⟩), .func (.func 47) #[] #[x0], .func (.func 48) #[] #[]] w fun e w' => e = .returned (.int .i64 0) ∧ R w' := by
  have c3 := h.c3
  have z3 := h.fz 3
  have i0 : (d.left == 0) = false := by simpa using h0
  have hl := h.lft
  have hw : 0 < d.left → IntKind.i64.wrap (d.left - 1) = d.left - 1 := fun hp => wrap_in (by omega) (by omega)
  unfold decW at H
  generalize d.left = l at *
  clear h h0 hl
  by_cases hp : 0 < l
  · rw [if_pos hp] at H
    have hw1 := hw hp
    clear hw
    go_enter Tryz.func43, Tryz.ntmps43
    go_wp2_with (refine H.mono ?_; rintro e w1 ⟨rfl, H1⟩)
    go_ret
    exact ⟨rfl, H1⟩
  · rw [if_neg hp] at H
    have hp' : decide (0 < l) = false := by simpa using hp
    clear hw
    go_enter Tryz.func43, Tryz.ntmps43
    go_wp2_with (refine H.mono ?_; rintro e w1 ⟨rfl, H1⟩)
    go_ret
    exact ⟨rfl, H1⟩
set_option maxHeartbeats 1000000 in
theorem die_SyncDir (h : DV Fp w Bd mn ms vs d m) (h0 : d.left = 0) (x0 : Value) :
    Calls Tryz.prog 43 #[.pointer (some ⟨Bd, 0, none⟩), .func (.func 50) #[] #[x0], .func (.func 48) #[] #[]] w fun e w' => e = .returned (.int .i64 8) ∧ w' = w.setCell ⟨Bd, 4, none⟩ (.bool true) := by
  have c3 := h.c3
  have c4 := h.c4
  have z4 := h.fz 4
  rw [h0] at c3
  have H := nothing_any (w.setCell ⟨Bd, 4, none⟩ (.bool true))
  clear h h0
  go_enter Tryz.func43, Tryz.ntmps43
  go_wp2_with (refine H.mono ?_; rintro e w1 ⟨rfl, H1⟩)
  subst H1
  go_ret
  exact ⟨rfl, rfl⟩
set_option maxHeartbeats 1000000 in
theorem do_SyncDir (h : DV Fp w Bd mn ms vs d m) (h0 : d.left ≠ 0) (x0 : Value) (R : World → Prop) (H : Calls Tryz.prog 50 #[x0] (decW w Bd d) fun e w' => e = .returned (.tuple #[]) ∧ R w') :
    Calls Tryz.prog 43 #[.pointer (some ⟨Bd, 0, none⟩), .func (.func 50) #[] #[x0], .func (.func 48) #[] #[]] w fun e w' => e = .returned (.int .i64 0) ∧ R w' := by
  have c3 := h.c3
  have z3 := h.fz 3
  have i0 : (d.left == 0) = false := by simpa using h0
  have hl := h.lft
  have hw : 0 < d.left → IntKind.i64.wrap (d.left - 1) = d.left - 1 := fun hp => wrap_in (by omega) (by omega)
  unfold decW at H
  generalize d.left = l at *
  clear h h0 hl
  by_cases hp : 0 < l
  · rw [if_pos hp] at H
    have hw1 := hw hp
    clear hw
    go_enter Tryz.func43, Tryz.ntmps43
    go_wp2_with (refine H.mono ?_; rintro e w1 ⟨rfl, H1⟩)
    go_ret
    exact ⟨rfl, H1⟩
  · rw [if_neg hp] at H
    have hp' : decide (0 < l) = false := by simpa using hp
    clear hw
    go_enter Tryz.func43, Tryz.ntmps43
    go_wp2_with (refine H.mono ?_; rintro e w1 ⟨rfl, H1⟩)
    go_ret
    exact ⟨rfl, H1⟩
set_option maxHeartbeats 1000000 in
theorem die_Rename (h : DV Fp w Bd mn ms vs d m) (h0 : d.left = 0) (x0 x1 x2 x3 : Value) :
    Calls Tryz.prog 43 #[.pointer (some ⟨Bd, 0, none⟩), .func (.func 49) #[] #[x0, x1, x2, x3], .func (.func 48) #[] #[]] w fun e w' => e = .returned (.int .i64 8) ∧ w' = w.setCell ⟨Bd, 4, none⟩ (.bool true) := by
  have c3 := h.c3
  have c4 := h.c4
  have z4 := h.fz 4
  rw [h0] at c3
  have H := nothing_any (w.setCell ⟨Bd, 4, none⟩ (.bool true))
  clear h h0
  go_enter Tryz.func43, Tryz.ntmps43
  go_wp2_with (refine H.mono ?_; rintro e w1 ⟨rfl, H1⟩)
  subst H1
  go_ret
  exact ⟨rfl, rfl⟩
set_option maxHeartbeats 1000000 in
theorem do_Rename (h : DV Fp w Bd mn ms vs d m) (h0 : d.left ≠ 0) (x0 x1 x2 x3 : Value) (R : World → Prop) (H : Calls Tryz.prog 49 #[x0, x1, x2, x3] (decW w Bd d) fun e w' => e = .returned (.tuple #[]) ∧ R w') :
    Calls Tryz.prog 43 #[.pointer (some ⟨Bd, 0, none⟩), .func (.func 49) #[] #[x0, x1, x2, x3], .func (.func 48) #[] #[]] w fun e w' => e = .returned (.int .i64 0) ∧ R w' := by
  have c3 := h.c3
  have z3 := h.fz 3
  have i0 : (d.left == 0) = false := by simpa using h0
  have hl := h.lft
  have hw : 0 < d.left → IntKind.i64.wrap (d.left - 1) = d.left - 1 := fun hp => wrap_in (by omega) (by omega)
  unfold decW at H
  generalize d.left = l at *
  clear h h0 hl
  by_cases hp : 0 < l
  · rw [if_pos hp] at H
    have hw1 := hw hp
    clear hw
    go_enter Tryz.func43, Tryz.ntmps43
    go_wp2_with (refine H.mono ?_; rintro e w1 ⟨rfl, H1⟩)
    go_ret
    exact ⟨rfl, H1⟩
  · rw [if_neg hp] at H
    have hp' : decide (0 < l) = false := by simpa using hp
    clear hw
    go_enter Tryz.func43, Tryz.ntmps43
    go_wp2_with (refine H.mono ?_; rintro e w1 ⟨rfl, H1⟩)
    go_ret
    exact ⟨rfl, H1⟩
set_option maxHeartbeats 1000000 in
theorem die_Remove (h : DV Fp w Bd mn ms vs d m) (h0 : d.left = 0) (x0 x1 : Value) :
    Calls Tryz.prog 43 #[.pointer (some ⟨Bd, 0, none⟩), .func (.func 71) #[] #[x0, x1], .func (.func 48) #[] #[]] w fun e w' => e = .returned (.int .i64 8) ∧ w' = w.setCell ⟨Bd, 4, none⟩ (.bool true) := by
  have c3 := h.c3
  have c4 := h.c4
  have z4 := h.fz 4
  rw [h0] at c3
  have H := nothing_any (w.setCell ⟨Bd, 4, none⟩ (.bool true))
  clear h h0
  go_enter Tryz.func43, Tryz.ntmps43
  go_wp2_with (refine H.mono ?_; rintro e w1 ⟨rfl, H1⟩)
  subst H1
  go_ret
  exact ⟨rfl, rfl⟩
set_option maxHeartbeats 1000000 in
theorem do_Remove (h : DV Fp w Bd mn ms vs d m) (h0 : d.left ≠ 0) (x0 x1 : Value) (R : World → Prop) (H : Calls Tryz.prog 71 #[x0, x1] (decW w Bd d) fun e w' => e = .returned (.tuple #[]) ∧ R w') :
    Calls Tryz.prog 43 #[.pointer (some ⟨Bd, 0, none⟩), .func (.func 71) #[] #[x0, x1], .func (.func 48) #[] #[]] w fun e w' => e = .returned (.int .i64 0) ∧ R w' := by
  have c3 := h.c3
  have z3 := h.fz 3
  have i0 : (d.left == 0) = false := by simpa using h0
  have hl := h.lft
  have hw : 0 < d.left → IntKind.i64.wrap (d.left - 1) = d.left - 1 := fun hp => wrap_in (by omega) (by omega)
  unfold decW at H
  generalize d.left = l at *
  clear h h0 hl
  by_cases hp : 0 < l
  · rw [if_pos hp] at H
    have hw1 := hw hp
    clear hw
    go_enter Tryz.func43, Tryz.ntmps43
    go_wp2_with (refine H.mono ?_; rintro e w1 ⟨rfl, H1⟩)
    go_ret
    exact ⟨rfl, H1⟩
  · rw [if_neg hp] at H
    have hp' : decide (0 < l) = false := by simpa using hp
    clear hw
    go_enter Tryz.func43, Tryz.ntmps43
    go_wp2_with (refine H.mono ?_; rintro e w1 ⟨rfl, H1⟩)
    go_ret
    exact ⟨rfl, H1⟩
end Go.Proofs.YtjlkdglbnfifeaaGreatDoor