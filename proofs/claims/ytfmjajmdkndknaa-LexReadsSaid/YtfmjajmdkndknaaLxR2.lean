/-
  CONTRACT of layer 11's beginsRegex: by the last token.
-/
import Derived.Test.YtfmjajmdkndknaaLxR1
import Derived.BigQuiet
import Derived.Deep.RegionHeld3
namespace Go.Proofs.Ytfmjajmdkndknaa
open Go.RowKit

theorem own_form {w : World} {B : Nat} {e : TypeId} {z : Nat} {v : Value} {n : Nat} {xs : List Value} (h : w.ownsRow B e z v n xs) : ∃ a c, v = .slice a n c := by
  rcases h.2 with ⟨rfl, rfl⟩ | ⟨g', cap, cur, rfl, _⟩
  · exact ⟨_, _, rfl⟩
  · exact ⟨_, _, rfl⟩
theorem rxL_snoc (m : List Tok) (x : Tok) : rxL (m ++ [x]) = rxA x.k x.t := by unfold rxL; rw [List.getLast?_concat]
theorem tok_cells {w : World} {B g c n : Nat} {m : List Tok} {x : Tok} (hn : m.length = n) (h : w.ownsRow B 36 3 (.slice (some ⟨g, 0, none⟩) (n + 1) c) (n + 1) (tokRow (m ++ [x]))) :
    w.cell? ⟨g, n * 3, none⟩ = some (.int .i64 x.k) ∧ w.cell? ⟨g, n * 3 + 1, none⟩ = some (.string ⟨x.t.toArray⟩) ∧ w.cell? ⟨g, n * 3 + 2, none⟩ = some (.int .i64 x.a) := by
  have hl : n < (m ++ [x]).length := by rw [List.length_append]; simp; omega
  have he : (m ++ [x])[n] = x := by subst hn; simp
  refine ⟨?_, ?_, ?_⟩
  · rw [h.cellAt (n * 3) (by omega), show n * 3 = n * 3 + 0 from rfl, tokRow_get _ n 0 hl (by omega), he]; rfl
  · rw [h.cellAt (n * 3 + 1) (by omega), tokRow_get _ n 1 hl (by omega), he]; rfl
  · rw [h.cellAt (n * 3 + 2) (by omega), tokRow_get _ n 2 hl (by omega), he]; rfl
theorem begins_nil (b : Nat) (a : Option Addr) (c : Nat) (w : World) (c3 : w.cell? ⟨b, 3, none⟩ = some (.slice a 0 c)) :
    Calls Try.prog 24 #[.pointer (some ⟨b, 0, none⟩)] w fun e w' => e = .returned (.bool true) ∧ Below w.heap.size w w' := by
  go_enter Try.func24, Try.ntmps24
  go_wp2
  go_ret
  exact ⟨rfl, Below.refl _ _⟩
set_option maxHeartbeats 1000000 in
theorem begins_k2 (b g n c : Nat) (kk aa : Int) (T : ByteArray) (w : World) (c3 : w.cell? ⟨b, 3, none⟩ = some (.slice (some ⟨g, 0, none⟩) (n + 1) c)) (hn : n ≤ 100000)
    (d0 : w.cell? ⟨g, n * 3, none⟩ = some (.int .i64 kk)) (d1 : w.cell? ⟨g, n * 3 + 1, none⟩ = some (.string T)) (d2 : w.cell? ⟨g, n * 3 + 2, none⟩ = some (.int .i64 aa)) (hk : kk = 2) :
    Calls Try.prog 24 #[.pointer (some ⟨b, 0, none⟩)] w fun e w' => e = .returned (.bool false) ∧ Below w.heap.size w w' := by
  have e1 : ¬ ((n + 1 : Nat) : Int) = 0 := by omega
  have e2 : IntKind.i64.wrap (n : Int) = (n : Int) := by rw [IntKind.wrap_i64]; omega
  have e3 : (n : Int) < (n : Int) + 1 := by omega
  have e4 : 0 ≤ (n : Int) := by omega
  subst hk
  go_enter Try.func24, Try.ntmps24
  go_wp2_with fail
  go_region_held3 (fun w' => w'.cell? ⟨b, 3, none⟩ = some (.slice (some ⟨g, 0, none⟩) (n + 1) c) ∧ w'.cell? ⟨g, n * 3, none⟩ = some (.int .i64 2) ∧ w'.cell? ⟨g, n * 3 + 1, none⟩ = some (.string T) ∧ w'.cell? ⟨g, n * 3 + 2, none⟩ = some (.int .i64 aa)) (first | assumption | go_keep) (fail)
  go_wp2
  go_ret
  first | exact ⟨rfl, ((Below.refl _ _).alloc (Nat.le_refl _) _).drew⟩ | exact ⟨by simp, ((Below.refl _ _).alloc (Nat.le_refl _) _).drew⟩
set_option maxHeartbeats 1000000 in
theorem begins_k3 (b g n c : Nat) (kk aa : Int) (T : ByteArray) (w : World) (c3 : w.cell? ⟨b, 3, none⟩ = some (.slice (some ⟨g, 0, none⟩) (n + 1) c)) (hn : n ≤ 100000)
    (d0 : w.cell? ⟨g, n * 3, none⟩ = some (.int .i64 kk)) (d1 : w.cell? ⟨g, n * 3 + 1, none⟩ = some (.string T)) (d2 : w.cell? ⟨g, n * 3 + 2, none⟩ = some (.int .i64 aa)) (hk : kk = 3) :
    Calls Try.prog 24 #[.pointer (some ⟨b, 0, none⟩)] w fun e w' => e = .returned (.bool false) ∧ Below w.heap.size w w' := by
  have e1 : ¬ ((n + 1 : Nat) : Int) = 0 := by omega
  have e2 : IntKind.i64.wrap (n : Int) = (n : Int) := by rw [IntKind.wrap_i64]; omega
  have e3 : (n : Int) < (n : Int) + 1 := by omega
  have e4 : 0 ≤ (n : Int) := by omega
  subst hk
  go_enter Try.func24, Try.ntmps24
  go_wp2_with fail
  go_region_held3 (fun w' => w'.cell? ⟨b, 3, none⟩ = some (.slice (some ⟨g, 0, none⟩) (n + 1) c) ∧ w'.cell? ⟨g, n * 3, none⟩ = some (.int .i64 3) ∧ w'.cell? ⟨g, n * 3 + 1, none⟩ = some (.string T) ∧ w'.cell? ⟨g, n * 3 + 2, none⟩ = some (.int .i64 aa)) (first | assumption | go_keep) (fail)
  go_wp2
  go_ret
  first | exact ⟨rfl, ((Below.refl _ _).alloc (Nat.le_refl _) _).drew⟩ | exact ⟨by simp, ((Below.refl _ _).alloc (Nat.le_refl _) _).drew⟩
set_option maxHeartbeats 1000000 in
theorem begins_k4 (b g n c : Nat) (kk aa : Int) (T : ByteArray) (w : World) (c3 : w.cell? ⟨b, 3, none⟩ = some (.slice (some ⟨g, 0, none⟩) (n + 1) c)) (hn : n ≤ 100000)
    (d0 : w.cell? ⟨g, n * 3, none⟩ = some (.int .i64 kk)) (d1 : w.cell? ⟨g, n * 3 + 1, none⟩ = some (.string T)) (d2 : w.cell? ⟨g, n * 3 + 2, none⟩ = some (.int .i64 aa)) (hk : kk = 4) :
    Calls Try.prog 24 #[.pointer (some ⟨b, 0, none⟩)] w fun e w' => e = .returned (.bool false) ∧ Below w.heap.size w w' := by
  have e1 : ¬ ((n + 1 : Nat) : Int) = 0 := by omega
  have e2 : IntKind.i64.wrap (n : Int) = (n : Int) := by rw [IntKind.wrap_i64]; omega
  have e3 : (n : Int) < (n : Int) + 1 := by omega
  have e4 : 0 ≤ (n : Int) := by omega
  subst hk
  go_enter Try.func24, Try.ntmps24
  go_wp2_with fail
  go_region_held3 (fun w' => w'.cell? ⟨b, 3, none⟩ = some (.slice (some ⟨g, 0, none⟩) (n + 1) c) ∧ w'.cell? ⟨g, n * 3, none⟩ = some (.int .i64 4) ∧ w'.cell? ⟨g, n * 3 + 1, none⟩ = some (.string T) ∧ w'.cell? ⟨g, n * 3 + 2, none⟩ = some (.int .i64 aa)) (first | assumption | go_keep) (fail)
  go_wp2
  go_ret
  first | exact ⟨rfl, ((Below.refl _ _).alloc (Nat.le_refl _) _).drew⟩ | exact ⟨by simp, ((Below.refl _ _).alloc (Nat.le_refl _) _).drew⟩
set_option maxHeartbeats 1000000 in
theorem begins_k5 (b g n c : Nat) (kk aa : Int) (T : ByteArray) (w : World) (c3 : w.cell? ⟨b, 3, none⟩ = some (.slice (some ⟨g, 0, none⟩) (n + 1) c)) (hn : n ≤ 100000)
    (d0 : w.cell? ⟨g, n * 3, none⟩ = some (.int .i64 kk)) (d1 : w.cell? ⟨g, n * 3 + 1, none⟩ = some (.string T)) (d2 : w.cell? ⟨g, n * 3 + 2, none⟩ = some (.int .i64 aa)) (hk : kk = 5) :
    Calls Try.prog 24 #[.pointer (some ⟨b, 0, none⟩)] w fun e w' => e = .returned (.bool false) ∧ Below w.heap.size w w' := by
  have e1 : ¬ ((n + 1 : Nat) : Int) = 0 := by omega
  have e2 : IntKind.i64.wrap (n : Int) = (n : Int) := by rw [IntKind.wrap_i64]; omega
  have e3 : (n : Int) < (n : Int) + 1 := by omega
  have e4 : 0 ≤ (n : Int) := by omega
  subst hk
  go_enter Try.func24, Try.ntmps24
  go_wp2_with fail
  go_region_held3 (fun w' => w'.cell? ⟨b, 3, none⟩ = some (.slice (some ⟨g, 0, none⟩) (n + 1) c) ∧ w'.cell? ⟨g, n * 3, none⟩ = some (.int .i64 5) ∧ w'.cell? ⟨g, n * 3 + 1, none⟩ = some (.string T) ∧ w'.cell? ⟨g, n * 3 + 2, none⟩ = some (.int .i64 aa)) (first | assumption | go_keep) (fail)
  go_wp2
  go_ret
  first | exact ⟨rfl, ((Below.refl _ _).alloc (Nat.le_refl _) _).drew⟩ | exact ⟨by simp, ((Below.refl _ _).alloc (Nat.le_refl _) _).drew⟩
set_option maxHeartbeats 1000000 in
theorem begins_b1 (b g n c : Nat) (kk aa : Int) (T : ByteArray) (w : World) (c3 : w.cell? ⟨b, 3, none⟩ = some (.slice (some ⟨g, 0, none⟩) (n + 1) c)) (hn : n ≤ 100000)
    (d0 : w.cell? ⟨g, n * 3, none⟩ = some (.int .i64 kk)) (d1 : w.cell? ⟨g, n * 3 + 1, none⟩ = some (.string T)) (d2 : w.cell? ⟨g, n * 3 + 2, none⟩ = some (.int .i64 aa)) (hk : kk = 9) (_t : (T.toList == [108, 101, 110, 103, 116, 104]) = true) :
    Calls Try.prog 24 #[.pointer (some ⟨b, 0, none⟩)] w fun e w' => e = .returned (.bool false) ∧ Below w.heap.size w w' := by
  have e1 : ¬ ((n + 1 : Nat) : Int) = 0 := by omega
  have e2 : IntKind.i64.wrap (n : Int) = (n : Int) := by rw [IntKind.wrap_i64]; omega
  have e3 : (n : Int) < (n : Int) + 1 := by omega
  have e4 : 0 ≤ (n : Int) := by omega
  subst hk
  go_enter Try.func24, Try.ntmps24
  go_wp2_with fail
  go_region_held3 (fun w' => w'.cell? ⟨b, 3, none⟩ = some (.slice (some ⟨g, 0, none⟩) (n + 1) c) ∧ w'.cell? ⟨g, n * 3, none⟩ = some (.int .i64 9) ∧ w'.cell? ⟨g, n * 3 + 1, none⟩ = some (.string T) ∧ w'.cell? ⟨g, n * 3 + 2, none⟩ = some (.int .i64 aa)) (first | assumption | go_keep) (fail)
  go_wp2
  go_ret
  first | exact ⟨rfl, ((Below.refl _ _).alloc (Nat.le_refl _) _).drew⟩ | exact ⟨by simp, ((Below.refl _ _).alloc (Nat.le_refl _) _).drew⟩
set_option maxHeartbeats 1000000 in
theorem begins_b0 (b g n c : Nat) (kk aa : Int) (T : ByteArray) (w : World) (c3 : w.cell? ⟨b, 3, none⟩ = some (.slice (some ⟨g, 0, none⟩) (n + 1) c)) (hn : n ≤ 100000)
    (d0 : w.cell? ⟨g, n * 3, none⟩ = some (.int .i64 kk)) (d1 : w.cell? ⟨g, n * 3 + 1, none⟩ = some (.string T)) (d2 : w.cell? ⟨g, n * 3 + 2, none⟩ = some (.int .i64 aa)) (hk : kk = 9) (_t : (T.toList == [108, 101, 110, 103, 116, 104]) = false) :
    Calls Try.prog 24 #[.pointer (some ⟨b, 0, none⟩)] w fun e w' => e = .returned (.bool true) ∧ Below w.heap.size w w' := by
  have e1 : ¬ ((n + 1 : Nat) : Int) = 0 := by omega
  have e2 : IntKind.i64.wrap (n : Int) = (n : Int) := by rw [IntKind.wrap_i64]; omega
  have e3 : (n : Int) < (n : Int) + 1 := by omega
  have e4 : 0 ≤ (n : Int) := by omega
  subst hk
  go_enter Try.func24, Try.ntmps24
  go_wp2_with fail
  go_region_held3 (fun w' => w'.cell? ⟨b, 3, none⟩ = some (.slice (some ⟨g, 0, none⟩) (n + 1) c) ∧ w'.cell? ⟨g, n * 3, none⟩ = some (.int .i64 9) ∧ w'.cell? ⟨g, n * 3 + 1, none⟩ = some (.string T) ∧ w'.cell? ⟨g, n * 3 + 2, none⟩ = some (.int .i64 aa)) (first | assumption | go_keep) (fail)
  go_wp2
  go_ret
  first | exact ⟨rfl, ((Below.refl _ _).alloc (Nat.le_refl _) _).drew⟩ | exact ⟨by simp, ((Below.refl _ _).alloc (Nat.le_refl _) _).drew⟩
set_option maxHeartbeats 1000000 in
theorem begins_s0 (b g n c : Nat) (kk aa : Int) (T : ByteArray) (w : World) (c3 : w.cell? ⟨b, 3, none⟩ = some (.slice (some ⟨g, 0, none⟩) (n + 1) c)) (hn : n ≤ 100000)
    (d0 : w.cell? ⟨g, n * 3, none⟩ = some (.int .i64 kk)) (d1 : w.cell? ⟨g, n * 3 + 1, none⟩ = some (.string T)) (d2 : w.cell? ⟨g, n * 3 + 2, none⟩ = some (.int .i64 aa)) (hk : kk = 8) (_t0 : (T.toList == [41]) = true) :
    Calls Try.prog 24 #[.pointer (some ⟨b, 0, none⟩)] w fun e w' => e = .returned (.bool false) ∧ Below w.heap.size w w' := by
  have e1 : ¬ ((n + 1 : Nat) : Int) = 0 := by omega
  have e2 : IntKind.i64.wrap (n : Int) = (n : Int) := by rw [IntKind.wrap_i64]; omega
  have e3 : (n : Int) < (n : Int) + 1 := by omega
  have e4 : 0 ≤ (n : Int) := by omega
  subst hk
  go_enter Try.func24, Try.ntmps24
  go_wp2_with fail
  go_region_held3 (fun w' => w'.cell? ⟨b, 3, none⟩ = some (.slice (some ⟨g, 0, none⟩) (n + 1) c) ∧ w'.cell? ⟨g, n * 3, none⟩ = some (.int .i64 8) ∧ w'.cell? ⟨g, n * 3 + 1, none⟩ = some (.string T) ∧ w'.cell? ⟨g, n * 3 + 2, none⟩ = some (.int .i64 aa)) (first | assumption | go_keep) (fail)
  go_wp2
  go_ret
  first | exact ⟨rfl, ((Below.refl _ _).alloc (Nat.le_refl _) _).drew⟩ | exact ⟨by simp, ((Below.refl _ _).alloc (Nat.le_refl _) _).drew⟩
set_option maxHeartbeats 1000000 in
theorem begins_s1 (b g n c : Nat) (kk aa : Int) (T : ByteArray) (w : World) (c3 : w.cell? ⟨b, 3, none⟩ = some (.slice (some ⟨g, 0, none⟩) (n + 1) c)) (hn : n ≤ 100000)
    (d0 : w.cell? ⟨g, n * 3, none⟩ = some (.int .i64 kk)) (d1 : w.cell? ⟨g, n * 3 + 1, none⟩ = some (.string T)) (d2 : w.cell? ⟨g, n * 3 + 2, none⟩ = some (.int .i64 aa)) (hk : kk = 8) (_t0 : (T.toList == [41]) = false) (_t1 : (T.toList == [93]) = true) :
    Calls Try.prog 24 #[.pointer (some ⟨b, 0, none⟩)] w fun e w' => e = .returned (.bool false) ∧ Below w.heap.size w w' := by
  have e1 : ¬ ((n + 1 : Nat) : Int) = 0 := by omega
  have e2 : IntKind.i64.wrap (n : Int) = (n : Int) := by rw [IntKind.wrap_i64]; omega
  have e3 : (n : Int) < (n : Int) + 1 := by omega
  have e4 : 0 ≤ (n : Int) := by omega
  subst hk
  go_enter Try.func24, Try.ntmps24
  go_wp2_with fail
  go_region_held3 (fun w' => w'.cell? ⟨b, 3, none⟩ = some (.slice (some ⟨g, 0, none⟩) (n + 1) c) ∧ w'.cell? ⟨g, n * 3, none⟩ = some (.int .i64 8) ∧ w'.cell? ⟨g, n * 3 + 1, none⟩ = some (.string T) ∧ w'.cell? ⟨g, n * 3 + 2, none⟩ = some (.int .i64 aa)) (first | assumption | go_keep) (fail)
  go_wp2
  go_ret
  first | exact ⟨rfl, ((Below.refl _ _).alloc (Nat.le_refl _) _).drew⟩ | exact ⟨by simp, ((Below.refl _ _).alloc (Nat.le_refl _) _).drew⟩
set_option maxHeartbeats 1000000 in
theorem begins_s2 (b g n c : Nat) (kk aa : Int) (T : ByteArray) (w : World) (c3 : w.cell? ⟨b, 3, none⟩ = some (.slice (some ⟨g, 0, none⟩) (n + 1) c)) (hn : n ≤ 100000)
    (d0 : w.cell? ⟨g, n * 3, none⟩ = some (.int .i64 kk)) (d1 : w.cell? ⟨g, n * 3 + 1, none⟩ = some (.string T)) (d2 : w.cell? ⟨g, n * 3 + 2, none⟩ = some (.int .i64 aa)) (hk : kk = 8) (_t0 : (T.toList == [41]) = false) (_t1 : (T.toList == [93]) = false) (_t2 : (T.toList == [43, 43]) = true) :
    Calls Try.prog 24 #[.pointer (some ⟨b, 0, none⟩)] w fun e w' => e = .returned (.bool false) ∧ Below w.heap.size w w' := by
  have e1 : ¬ ((n + 1 : Nat) : Int) = 0 := by omega
  have e2 : IntKind.i64.wrap (n : Int) = (n : Int) := by rw [IntKind.wrap_i64]; omega
  have e3 : (n : Int) < (n : Int) + 1 := by omega
  have e4 : 0 ≤ (n : Int) := by omega
  subst hk
  go_enter Try.func24, Try.ntmps24
  go_wp2_with fail
  go_region_held3 (fun w' => w'.cell? ⟨b, 3, none⟩ = some (.slice (some ⟨g, 0, none⟩) (n + 1) c) ∧ w'.cell? ⟨g, n * 3, none⟩ = some (.int .i64 8) ∧ w'.cell? ⟨g, n * 3 + 1, none⟩ = some (.string T) ∧ w'.cell? ⟨g, n * 3 + 2, none⟩ = some (.int .i64 aa)) (first | assumption | go_keep) (fail)
  go_wp2
  go_ret
  first | exact ⟨rfl, ((Below.refl _ _).alloc (Nat.le_refl _) _).drew⟩ | exact ⟨by simp, ((Below.refl _ _).alloc (Nat.le_refl _) _).drew⟩
set_option maxHeartbeats 1000000 in
theorem begins_s3 (b g n c : Nat) (kk aa : Int) (T : ByteArray) (w : World) (c3 : w.cell? ⟨b, 3, none⟩ = some (.slice (some ⟨g, 0, none⟩) (n + 1) c)) (hn : n ≤ 100000)
    (d0 : w.cell? ⟨g, n * 3, none⟩ = some (.int .i64 kk)) (d1 : w.cell? ⟨g, n * 3 + 1, none⟩ = some (.string T)) (d2 : w.cell? ⟨g, n * 3 + 2, none⟩ = some (.int .i64 aa)) (hk : kk = 8) (_t0 : (T.toList == [41]) = false) (_t1 : (T.toList == [93]) = false) (_t2 : (T.toList == [43, 43]) = false) (_t3 : (T.toList == [45, 45]) = true) :
    Calls Try.prog 24 #[.pointer (some ⟨b, 0, none⟩)] w fun e w' => e = .returned (.bool false) ∧ Below w.heap.size w w' := by
  have e1 : ¬ ((n + 1 : Nat) : Int) = 0 := by omega
  have e2 : IntKind.i64.wrap (n : Int) = (n : Int) := by rw [IntKind.wrap_i64]; omega
  have e3 : (n : Int) < (n : Int) + 1 := by omega
  have e4 : 0 ≤ (n : Int) := by omega
  subst hk
  go_enter Try.func24, Try.ntmps24
  go_wp2_with fail
  go_region_held3 (fun w' => w'.cell? ⟨b, 3, none⟩ = some (.slice (some ⟨g, 0, none⟩) (n + 1) c) ∧ w'.cell? ⟨g, n * 3, none⟩ = some (.int .i64 8) ∧ w'.cell? ⟨g, n * 3 + 1, none⟩ = some (.string T) ∧ w'.cell? ⟨g, n * 3 + 2, none⟩ = some (.int .i64 aa)) (first | assumption | go_keep) (fail)
  go_wp2
  go_ret
  first | exact ⟨rfl, ((Below.refl _ _).alloc (Nat.le_refl _) _).drew⟩ | exact ⟨by simp, ((Below.refl _ _).alloc (Nat.le_refl _) _).drew⟩
set_option maxHeartbeats 1000000 in
theorem begins_s4 (b g n c : Nat) (kk aa : Int) (T : ByteArray) (w : World) (c3 : w.cell? ⟨b, 3, none⟩ = some (.slice (some ⟨g, 0, none⟩) (n + 1) c)) (hn : n ≤ 100000)
    (d0 : w.cell? ⟨g, n * 3, none⟩ = some (.int .i64 kk)) (d1 : w.cell? ⟨g, n * 3 + 1, none⟩ = some (.string T)) (d2 : w.cell? ⟨g, n * 3 + 2, none⟩ = some (.int .i64 aa)) (hk : kk = 8) (_t0 : (T.toList == [41]) = false) (_t1 : (T.toList == [93]) = false) (_t2 : (T.toList == [43, 43]) = false) (_t3 : (T.toList == [45, 45]) = false) :
    Calls Try.prog 24 #[.pointer (some ⟨b, 0, none⟩)] w fun e w' => e = .returned (.bool true) ∧ Below w.heap.size w w' := by
  have e1 : ¬ ((n + 1 : Nat) : Int) = 0 := by omega
  have e2 : IntKind.i64.wrap (n : Int) = (n : Int) := by rw [IntKind.wrap_i64]; omega
  have e3 : (n : Int) < (n : Int) + 1 := by omega
  have e4 : 0 ≤ (n : Int) := by omega
  subst hk
  go_enter Try.func24, Try.ntmps24
  go_wp2_with fail
  go_region_held3 (fun w' => w'.cell? ⟨b, 3, none⟩ = some (.slice (some ⟨g, 0, none⟩) (n + 1) c) ∧ w'.cell? ⟨g, n * 3, none⟩ = some (.int .i64 8) ∧ w'.cell? ⟨g, n * 3 + 1, none⟩ = some (.string T) ∧ w'.cell? ⟨g, n * 3 + 2, none⟩ = some (.int .i64 aa)) (first | assumption | go_keep) (fail)
  go_wp2
  go_ret
  first | exact ⟨rfl, ((Below.refl _ _).alloc (Nat.le_refl _) _).drew⟩ | exact ⟨by simp, ((Below.refl _ _).alloc (Nat.le_refl _) _).drew⟩
set_option maxHeartbeats 1000000 in
theorem begins_no (b g n c : Nat) (kk aa : Int) (T : ByteArray) (w : World) (c3 : w.cell? ⟨b, 3, none⟩ = some (.slice (some ⟨g, 0, none⟩) (n + 1) c)) (hn : n ≤ 100000)
    (d0 : w.cell? ⟨g, n * 3, none⟩ = some (.int .i64 kk)) (d1 : w.cell? ⟨g, n * 3 + 1, none⟩ = some (.string T)) (d2 : w.cell? ⟨g, n * 3 + 2, none⟩ = some (.int .i64 aa)) (n2 : ¬ kk = 2) (n3 : ¬ kk = 3) (n4 : ¬ kk = 4) (n5 : ¬ kk = 5) (n9 : ¬ kk = 9) (n8 : ¬ kk = 8) :
    Calls Try.prog 24 #[.pointer (some ⟨b, 0, none⟩)] w fun e w' => e = .returned (.bool true) ∧ Below w.heap.size w w' := by
  have e1 : ¬ ((n + 1 : Nat) : Int) = 0 := by omega
  have e2 : IntKind.i64.wrap (n : Int) = (n : Int) := by rw [IntKind.wrap_i64]; omega
  have e3 : (n : Int) < (n : Int) + 1 := by omega
  have e4 : 0 ≤ (n : Int) := by omega
  skip
  go_enter Try.func24, Try.ntmps24
  go_wp2_with fail
  go_region_held3 (fun w' => w'.cell? ⟨b, 3, none⟩ = some (.slice (some ⟨g, 0, none⟩) (n + 1) c) ∧ w'.cell? ⟨g, n * 3, none⟩ = some (.int .i64 kk) ∧ w'.cell? ⟨g, n * 3 + 1, none⟩ = some (.string T) ∧ w'.cell? ⟨g, n * 3 + 2, none⟩ = some (.int .i64 aa)) (first | assumption | go_keep) (fail)
  go_wp2
  go_ret
  first | exact ⟨rfl, ((Below.refl _ _).alloc (Nat.le_refl _) _).drew⟩ | exact ⟨by simp, ((Below.refl _ _).alloc (Nat.le_refl _) _).drew⟩
theorem is_or3 (T : ByteArray) (t l : List UInt8) (h : T.data.toList = t) : ((T.toList == l) = true ∧ t = l) ∨ ((T.toList == l) = false ∧ ¬ t = l) := by subst h; exact is_or2 T l
theorem begins_any (b : Nat) (s : ByteArray) (p : Nat) (bad : Bool) (l : List Tok) (w : World) (h : Rs b w s p bad l) (hl : l.length ≤ 100000) :
    Calls Try.prog 24 #[.pointer (some ⟨b, 0, none⟩)] w fun e w' => e = .returned (.bool (rxL l)) ∧ Below w.heap.size w w' := by
  obtain ⟨v, h⟩ := h
  rcases List.eq_nil_or_concat l with rfl | ⟨m, x, rfl⟩
  · obtain ⟨a, c, rfl⟩ := own_form h.row
    exact begins_nil b a c w h.cells.1.2.2.2
  · rw [List.concat_eq_append] at h hl ⊢
    obtain ⟨hb, hr⟩ := h
    have he : (m ++ [x]).length = m.length + 1 := by simp
    rw [he] at hr hl
    obtain ⟨g, c, rfl⟩ := own_succ hr
    obtain ⟨d0, d1, d2⟩ := tok_cells rfl hr
    have c3 := (RC.of hb).1.2.2.2
    rw [rxL_snoc]
    unfold rxA
    have hT : (⟨x.t.toArray⟩ : ByteArray).data.toList = x.t := by simp
    have hn : m.length ≤ 100000 := by omega
    generalize (⟨x.t.toArray⟩ : ByteArray) = T at *
    by_cases k2 : x.k = 2
    · rw [if_pos (.inl k2)]; exact begins_k2 b g _ c _ _ T w c3 hn d0 d1 d2 (by omega)
    by_cases k3 : x.k = 3
    · rw [if_pos (.inr (.inl k3))]; exact begins_k3 b g _ c _ _ T w c3 hn d0 d1 d2 (by omega)
    by_cases k4 : x.k = 4
    · rw [if_pos (.inr (.inr (.inl k4)))]; exact begins_k4 b g _ c _ _ T w c3 hn d0 d1 d2 (by omega)
    by_cases k5 : x.k = 5
    · rw [if_pos (.inr (.inr (.inr k5)))]; exact begins_k5 b g _ c _ _ T w c3 hn d0 d1 d2 (by omega)
    rw [if_neg (by rintro (h | h | h | h) <;> contradiction)]
    by_cases k9 : x.k = 9
    · rw [if_pos k9]
      rcases is_or3 T x.t [108, 101, 110, 103, 116, 104] hT with ⟨h, e⟩ | ⟨h, e⟩
      · rw [decide_eq_false (by simpa using e)]; exact begins_b1 b g _ c _ _ T w c3 hn d0 d1 d2 (by omega) h
      · rw [decide_eq_true e]; exact begins_b0 b g _ c _ _ T w c3 hn d0 d1 d2 (by omega) h
    rw [if_neg k9]
    by_cases k8 : x.k = 8
    · rw [if_pos k8]
      rcases is_or3 T x.t [41] hT with ⟨h1, e1⟩ | ⟨h1, e1⟩
      · rw [decide_eq_false (by simpa using e1)]; exact begins_s0 b g _ c _ _ T w c3 hn d0 d1 d2 (by omega) h1
      rcases is_or3 T x.t [93] hT with ⟨h2, e2⟩ | ⟨h2, e2⟩
      · rw [decide_eq_false (p := x.t ≠ [93]) (by simpa using e2)]; simp only [Bool.and_false, Bool.false_and]; exact begins_s1 b g _ c _ _ T w c3 hn d0 d1 d2 (by omega) h1 h2
      rcases is_or3 T x.t [43, 43] hT with ⟨h3, e3⟩ | ⟨h3, e3⟩
      · rw [decide_eq_false (p := x.t ≠ [43, 43]) (by simpa using e3)]; simp only [Bool.and_false, Bool.false_and]; exact begins_s2 b g _ c _ _ T w c3 hn d0 d1 d2 (by omega) h1 h2 h3
      rcases is_or3 T x.t [45, 45] hT with ⟨h4, e4⟩ | ⟨h4, e4⟩
      · rw [decide_eq_false (p := x.t ≠ [45, 45]) (by simpa using e4)]; simp only [Bool.and_false]; exact begins_s3 b g _ c _ _ T w c3 hn d0 d1 d2 (by omega) h1 h2 h3 h4
      rw [decide_eq_true e1, decide_eq_true e2, decide_eq_true e3, decide_eq_true e4]
      exact begins_s4 b g _ c _ _ T w c3 hn d0 d1 d2 (by omega) h1 h2 h3 h4
    rw [if_neg k8]
    exact begins_no b g _ c _ _ T w c3 hn d0 d1 d2 (by omega) (by omega) (by omega) (by omega) (by omega) (by omega)
end Go.Proofs.Ytfmjajmdkndknaa
