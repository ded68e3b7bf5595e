/-
  CONTRACT of room: is there room for so many bytes?
-/
import Derived.Test.YtjlkdglbnfifeaaGreatDoorDkW3
import Derived.Deep.RegionHeld3
namespace Go.Proofs.YtjlkdglbnfifeaaGreatDoor
open Go.RowKit Go.Maps

theorem drew2 {w w' : World} {a : Addr} {v : Value} {B : Nat} (h : w'.cell? a = some v ∧ Below B w w') : w'.drew.cell? a = some v ∧ Below B w w'.drew := ⟨h.1, h.2.drew⟩
theorem wrap_in {x : Int} (h1 : -9223372036854775808 ≤ x) (h2 : x ≤ 9223372036854775807) : IntKind.i64.wrap x = x := by
  simp [IntKind.wrap, IntKind.bits, IntKind.signed]
  omega
variable {Fp : Nat → Prop} {w : World} {Bd mn ms : Nat} {vs : Nat → Value × Value} {d : DS} {m : Nat}
def hasL (d : DS) (n : Nm) : Nat := match getD d.now n with | none => 0 | some b => (d.fs b).1.length
def roomE (d : DS) (n : Nm) (k : Int) : Int :=
  if getD d.now n = none ∧ 100 ≤ d.now.length then 7
  else if d.quota - (usedD d : Nat) < k then 7
  else if 1048576 - (hasL d n : Nat) < k then 12 else 0
theorem roomE_low (d : DS) (n : Nm) (k : Int) (h0 : ¬ (getD d.now n = none ∧ 100 ≤ d.now.length)) : roomE d n k = if d.quota - (usedD d : Nat) < k then 7 else if 1048576 - (hasL d n : Nat) < k then 12 else 0 := by
  unfold roomE; rw [if_neg h0]
set_option maxHeartbeats 4000000 in
set_option maxRecDepth 100000 in
theorem room_any (h : DV Fp w Bd mn ms vs d m) (s : ByteArray) (hs : s.size ≤ 9223372036854775807) (k : Nat) (hk : k ≤ 100000000) :
    Calls Tryz.prog 40 #[.pointer (some ⟨Bd, 0, none⟩), .string s, .int .i64 k] w fun e w' => e = .returned (.int .i64 (roomE d s.data.toList k)) ∧ Below w.heap.size w w' := by
  have c0 := h.c0
  have c2 := h.c2
  have lk := h.look s hs
  have hwr : IntKind.i64.wrap (d.quota - (usedD d : Nat)) = d.quota - (usedD d : Nat) := by
    have hq := h.quo
    have hu := h.used_le
    exact wrap_in (by omega) (by omega)
  have hln := h.mapN.len Tryz.underlying48 3
  rw [dat_size] at hln
  have UC : Hid (∀ w', Below w.heap.size w w' → Calls Tryz.prog 73 #[.pointer (some ⟨Bd, 0, none⟩)] w' fun e w1 => e = .returned (.int .i64 (usedD d)) ∧ Below w.heap.size w w1) := Lib.hid (fun w' hb => (used_any (h.below hb)).mono (fun e w1 he => ⟨he.1, hb.trans (he.2.mono hb.size)⟩))
  have hltB := h.ltB
  have hbw := And.intro h.c2 (Below.refl w.heap.size w)
  cases hg : getD d.now s.data.toList with
  | none =>
    rw [hg] at lk
    unfold ptrV at lk
    by_cases h1 : 100 ≤ d.now.length
    · have hr : roomE d s.data.toList k = 7 := by unfold roomE; rw [if_pos ⟨hg, h1⟩]
      rw [hr]
      generalize d.now.length = L at *
      clear hr hg UC h hwr
      go_enter Tryz.func40, Tryz.ntmps40
      go_wp2
      go_ret
      exact ⟨rfl, Below.refl _ _⟩
    · have hr := roomE_low d s.data.toList k (by rw [hg]; simp; omega)
      have hh : hasL d s.data.toList = 0 := by unfold hasL; rw [hg]
      rw [hh] at hr
      rw [hr]
      have hL2 : decide (100 ≤ (d.now.length : Int)) = false := by simp; omega
      generalize d.now.length = L at *
      generalize (usedD d : Nat) = U at *
      generalize d.quota = q at *
      clear hr hg h hh h1
      by_cases h2 : q - (U : Int) < k
      · rw [if_pos h2]
        go_enter Tryz.func40, Tryz.ntmps40
        go_wp2
        go_region_held3 (fun w' => w'.cell? ⟨Bd, 2, none⟩ = some (.int .i64 q) ∧ Below w.heap.size w w') (first | assumption | exact drew2 (by assumption) | go_keep) (first | ((with_reducible refine (UC.out _ (And.right (by assumption))).mono ?_); rintro e w8 ⟨rfl, hb8⟩; have k8 := And.intro ((hb8.cell (p := ⟨Bd, 2, none⟩) hltB).trans c2) hb8))
        all_goals
          have HB9 := Lib.hid k8.2
          clear k8
          go_wp2
          go_ret
          exact ⟨rfl, HB9.out⟩
      · rw [if_neg h2]
        have h2' : decide (q - (U : Int) < k) = false := by simpa using h2
        by_cases h3 : 1048576 - (0 : Int) < k
        · rw [if_pos (by simpa using h3)]
          go_enter Tryz.func40, Tryz.ntmps40
          go_wp2
          go_region_held3 (fun w' => w'.cell? ⟨Bd, 2, none⟩ = some (.int .i64 q) ∧ Below w.heap.size w w') (first | assumption | exact drew2 (by assumption) | go_keep) (first | ((with_reducible refine (UC.out _ (And.right (by assumption))).mono ?_); rintro e w8 ⟨rfl, hb8⟩; have k8 := And.intro ((hb8.cell (p := ⟨Bd, 2, none⟩) hltB).trans c2) hb8))
          all_goals
            have HB9 := Lib.hid k8.2
            clear k8
            go_wp2
            go_ret
            exact ⟨rfl, HB9.out⟩
        · rw [if_neg (by simpa using h3)]
          have h3' : decide (1048576 - (0 : Int) < k) = false := by simpa using h3
          go_enter Tryz.func40, Tryz.ntmps40
          go_wp2
          go_region_held3 (fun w' => w'.cell? ⟨Bd, 2, none⟩ = some (.int .i64 q) ∧ Below w.heap.size w w') (first | assumption | exact drew2 (by assumption) | go_keep) (first | ((with_reducible refine (UC.out _ (And.right (by assumption))).mono ?_); rintro e w8 ⟨rfl, hb8⟩; have k8 := And.intro ((hb8.cell (p := ⟨Bd, 2, none⟩) hltB).trans c2) hb8))
          all_goals
            have HB9 := Lib.hid k8.2
            clear k8
            go_wp2
            go_ret
            exact ⟨rfl, HB9.out⟩
  | some b =>
    rw [hg] at lk
    unfold ptrV at lk
    have hr := roomE_low d s.data.toList k (by rw [hg]; simp)
    have hh : hasL d s.data.toList = (d.fs b).1.length := by unfold hasL; rw [hg]
    rw [hh] at hr
    rw [hr]
    have hF := h.files b (h.has_of_get hg)
    have f0 := hF.c0
    obtain ⟨p, cap, hp, _, _⟩ := hF.s1.form
    rw [hp] at f0
    have hle := (h.lens b (h.has_of_get hg)).1
    generalize (d.fs b).1.length = HL at *
    generalize (usedD d : Nat) = U at *
    generalize d.quota = q at *
    clear hr hg h hh hF hp hln
    by_cases h2 : q - (U : Int) < k
    · rw [if_pos h2]
      go_enter Tryz.func40, Tryz.ntmps40
      go_wp2
      go_region_held3 (fun w' => w'.cell? ⟨Bd, 2, none⟩ = some (.int .i64 q) ∧ Below w.heap.size w w') (first | assumption | exact drew2 (by assumption) | go_keep) (first | ((with_reducible refine (UC.out _ (And.right (by assumption))).mono ?_); rintro e w8 ⟨rfl, hb8⟩; have k8 := And.intro ((hb8.cell (p := ⟨Bd, 2, none⟩) hltB).trans c2) hb8))
      all_goals
        have HB9 := Lib.hid k8.2
        clear k8
        go_wp2
        go_ret
        exact ⟨rfl, HB9.out⟩
    · rw [if_neg h2]
      have h2' : decide (q - (U : Int) < k) = false := by simpa using h2
      by_cases h3 : 1048576 - (HL : Int) < k
      · rw [if_pos (by simpa using h3)]
        go_enter Tryz.func40, Tryz.ntmps40
        go_wp2
        go_region_held3 (fun w' => w'.cell? ⟨Bd, 2, none⟩ = some (.int .i64 q) ∧ Below w.heap.size w w') (first | assumption | exact drew2 (by assumption) | go_keep) (first | ((with_reducible refine (UC.out _ (And.right (by assumption))).mono ?_); rintro e w8 ⟨rfl, hb8⟩; have k8 := And.intro ((hb8.cell (p := ⟨Bd, 2, none⟩) hltB).trans c2) hb8))
        all_goals
          have HB9 := Lib.hid k8.2
          clear k8
          go_wp2
          go_ret
          exact ⟨rfl, HB9.out⟩
      · rw [if_neg (by simpa using h3)]
        have h3' : decide (1048576 - (HL : Int) < k) = false := by simpa using h3
        go_enter Tryz.func40, Tryz.ntmps40
        go_wp2
        go_region_held3 (fun w' => w'.cell? ⟨Bd, 2, none⟩ = some (.int .i64 q) ∧ Below w.heap.size w w') (first | assumption | exact drew2 (by assumption) | go_keep) (first | ((with_reducible refine (UC.out _ (And.right (by assumption))).mono ?_); rintro e w8 ⟨rfl, hb8⟩; have k8 := And.intro ((hb8.cell (p := ⟨Bd, 2, none⟩) hltB).trans c2) hb8))
        all_goals
          have HB9 := Lib.hid k8.2
          clear k8
          go_wp2
          go_ret
          exact ⟨rfl, HB9.out⟩
end Go.Proofs.YtjlkdglbnfifeaaGreatDoor
