/-
  THE WALK of scribelaw06.CellMakes: it returns true and writes to nothing that was there, where the library's table of powers of ten is as it was laid.
-/
import Derived.Test.YtnickicmfogahaaDoorRef6I
import Derived.Deep.RegionHeld3
namespace Go.Proofs.YtnickicmfogahaaDoor
open Go.RowKit

theorem keep3 {W w w3 : World} {a : Nat} {x1 x2 x3 : Value} (h : w.cell? ⟨a, 0, none⟩ = some x1 ∧ w.cell? ⟨a, 1, none⟩ = some x2 ∧ w.cell? ⟨a, 2, none⟩ = some x3 ∧ Below W.heap.size W w) (hb : Below w.heap.size w w3) :
    w3.cell? ⟨a, 0, none⟩ = some x1 ∧ w3.cell? ⟨a, 1, none⟩ = some x2 ∧ w3.cell? ⟨a, 2, none⟩ = some x3 ∧ Below W.heap.size W w3 := by
  have k : ∀ {c o : Nat} {x : Value}, w.cell? ⟨c, o, none⟩ = some x → w3.cell? ⟨c, o, none⟩ = some x := fun h => (hb.cell (p := ⟨_, _, none⟩) (World.block_lt_of_cell? _ _ h)).trans h
  obtain ⟨h1, h2, h3, h7⟩ := h
  exact ⟨k h1, k h2, k h3, h7.trans (hb.mono h7.size)⟩
theorem below3 {W w : World} {a : Nat} {x1 x2 x3 : Value} (h : w.cell? ⟨a, 0, none⟩ = some x1 ∧ w.cell? ⟨a, 1, none⟩ = some x2 ∧ w.cell? ⟨a, 2, none⟩ = some x3 ∧ Below W.heap.size W w) : Below W.heap.size W w := h.2.2.2
theorem draw3 {W w : World} {a : Nat} {x1 x2 x3 : Value} (h : w.cell? ⟨a, 0, none⟩ = some x1 ∧ w.cell? ⟨a, 1, none⟩ = some x2 ∧ w.cell? ⟨a, 2, none⟩ = some x3 ∧ Below W.heap.size W w) :
    w.drew.cell? ⟨a, 0, none⟩ = some x1 ∧ w.drew.cell? ⟨a, 1, none⟩ = some x2 ∧ w.drew.cell? ⟨a, 2, none⟩ = some x3 ∧ Below W.heap.size W w.drew := ⟨h.1, h.2.1, h.2.2.1, h.2.2.2.drew⟩
set_option maxRecDepth 100000 in
set_option maxHeartbeats 4000000 in
theorem makes_false (s : ByteArray) (n k : Int) (hs : s.size ≤ maxLen) (hk : -9223372036854775808 ≤ k ∧ k ≤ 9223372036854775807) (w : World) (G : Gl w) :
    Calls Tryd.prog 4 #[.string s, .int .i64 n, .int .i64 k, .bool false] w fun e w' => e = .returned (.bool true) ∧ Below w.heap.size w w' := by
  have C0 : Hid (∀ W, Calls Tryd.prog 18 #[.string s, .int .i64 100] W fun e w' => e = .returned (.string (cutB s 100)) ∧ W = w') := Lib.hid fun W => cut_any s 100 W hs (by omega)
  have hts := cutB_size s 100
  generalize cutB s 100 = t at *
  have CA := Lib.hid fun W G => cawake_any W G
  have CI := Lib.hid fun W => input_any t W (by omega)
  have CR := Lib.hid fun W => rinput_any t W (by omega)
  have CT := Lib.hid fun W => text_mk t W (by omega)
  have CO := Lib.hid fun W => of_any n W
  have CB : Hid (∀ W, Calls Tryd.prog 23 #[.bool false] W fun e w' => e = .returned (.agg #[.int .i64 1, .int .i64 0, .string ⟨#[]⟩]) ∧ Below W.heap.size W w') := Lib.hid fun W => bool_any false W
  have CN := Lib.hid fun W => cint_any k W hk
  have CM : Hid (∀ W, Calls Tryd.prog 25 #[.int .i64 k] W fun e w' => e = .returned (.int .i64 (clampI (k * 1000000))) ∧ Below W.heap.size W w') := Lib.hid fun W => (int_any k W hk).mono fun _ _ ⟨h1, h2⟩ => ⟨h1, h2.below⟩
  have TO := Lib.hid told_any
  unfold cv at CI CT CO CN
  have HG := Lib.hid G
  generalize inK t.data.toList = ik at *
  generalize inN t.data.toList = iN at *
  generalize clampI (k * 1000000) = ck at *
  clear hk hs G
  by_cases hn : OkN n
  · unfold OkN at hn
    obtain ⟨h1, h2⟩ := hn
    have h1' : ¬ n < -4611686018427387903 := by omega
    have h2' : ¬ 4611686018427387903 < n := by omega
    clear h1 h2
    go_enter Tryd.func4, Tryd.ntmps4
    go_wp2_with ((with_reducible refine (C0.out _).mono ?_); rintro e w' ⟨rfl, rfl⟩)
    generalize hX : Obj.cells #[Value.int .i64 1, Value.int .i64 0, Value.string ⟨#[]⟩] 27 = X
    obtain ⟨B1, hB1⟩ : ∃ B, w.heap.size = B := ⟨_, rfl⟩
    have hs3 : (w.alloc X).cell? ⟨B1, 0, none⟩ = some (.int .i64 1) ∧ (w.alloc X).cell? ⟨B1, 1, none⟩ = some (.int .i64 0) ∧ (w.alloc X).cell? ⟨B1, 2, none⟩ = some (.string ⟨#[]⟩) ∧ Below w.heap.size w (w.alloc X) := by
      rw [← hX, ← hB1]
      refine ⟨by simp [go_sem], by simp [go_sem], by simp [go_sem], (Below.refl _ _).alloc (Nat.le_refl _) _⟩
    clear hX
    rw [hB1]
    generalize (w.alloc X) = w0 at *
    clear hB1
    go_region_held3 (fun w' => w'.cell? ⟨B1, 0, none⟩ = some (.int .i64 1) ∧ w'.cell? ⟨B1, 1, none⟩ = some (.int .i64 0) ∧ w'.cell? ⟨B1, 2, none⟩ = some (.string ⟨#[]⟩) ∧ Below w.heap.size w w') (first | assumption | exact draw3 (by assumption) | go_keep) (first
      | ((with_reducible refine (CA.out _ (HG.out.next (below3 (by assumption)))).mono ?_); rintro e w8 ⟨rfl, hb8⟩; have k8 := keep3 (by assumption) hb8)
      | ((with_reducible refine (CI.out _).mono ?_); rintro e w8 ⟨rfl, hb8⟩; have k8 := keep3 (by assumption) hb8)
      | ((with_reducible refine (CR.out _).mono ?_); rintro e w8 ⟨rfl, hb8⟩; have k8 := keep3 (by assumption) hb8)
      | ((with_reducible refine (CT.out _).mono ?_); rintro e w8 ⟨rfl, hb8⟩; have k8 := keep3 (by assumption) hb8)
      | ((with_reducible refine (CO.out _).mono ?_); rintro e w8 ⟨rfl, hb8⟩; have k8 := keep3 (by assumption) hb8)
      | ((with_reducible refine (CB.out _).mono ?_); rintro e w8 ⟨rfl, hb8⟩; have k8 := keep3 (by assumption) hb8)
      | ((with_reducible refine (CN.out _).mono ?_); rintro e w8 ⟨rfl, hb8⟩; have k8 := keep3 (by assumption) hb8)
      | ((with_reducible refine (CM.out _).mono ?_); rintro e w8 ⟨rfl, hb8⟩; have k8 := keep3 (by assumption) hb8)
      | ((with_reducible refine (TO.out _ _ _ _).mono ?_); rintro e w8 ⟨rfl, hb8⟩; have k8 := keep3 (by assumption) hb8))
    all_goals
      have HB9 : Hid (Below w.heap.size w w8) := Lib.hid (below3 (by assumption))
      go_wp2_with fail
      go_ret
      exact ⟨by simp, HB9.out⟩
  · have hn2 : n < -4611686018427387903 ∨ 4611686018427387903 < n := by unfold OkN at hn; omega
    clear hn
    by_cases h1 : n < -4611686018427387903
    · clear hn2
      go_enter Tryd.func4, Tryd.ntmps4
      go_wp2_with ((with_reducible refine (C0.out _).mono ?_); rintro e w' ⟨rfl, rfl⟩)
      (with_reducible refine (CA.out _ HG.out).mono ?_)
      rintro e w1 ⟨rfl, hb1⟩
      go_wp2_with fail
      go_ret
      exact ⟨rfl, hb1⟩
    · have h2 : 4611686018427387903 < n := by omega
      clear hn2
      go_enter Tryd.func4, Tryd.ntmps4
      go_wp2_with ((with_reducible refine (C0.out _).mono ?_); rintro e w' ⟨rfl, rfl⟩)
      (with_reducible refine (CA.out _ HG.out).mono ?_)
      rintro e w1 ⟨rfl, hb1⟩
      go_wp2_with fail
      go_ret
      exact ⟨rfl, hb1⟩
set_option maxRecDepth 100000 in
set_option maxHeartbeats 4000000 in
theorem makes_true (s : ByteArray) (n k : Int) (hs : s.size ≤ maxLen) (hk : -9223372036854775808 ≤ k ∧ k ≤ 9223372036854775807) (w : World) (G : Gl w) :
    Calls Tryd.prog 4 #[.string s, .int .i64 n, .int .i64 k, .bool true] w fun e w' => e = .returned (.bool true) ∧ Below w.heap.size w w' := by
  have C0 : Hid (∀ W, Calls Tryd.prog 18 #[.string s, .int .i64 100] W fun e w' => e = .returned (.string (cutB s 100)) ∧ W = w') := Lib.hid fun W => cut_any s 100 W hs (by omega)
  have hts := cutB_size s 100
  generalize cutB s 100 = t at *
  have CA := Lib.hid fun W G => cawake_any W G
  have CI := Lib.hid fun W => input_any t W (by omega)
  have CR := Lib.hid fun W => rinput_any t W (by omega)
  have CT := Lib.hid fun W => text_mk t W (by omega)
  have CO := Lib.hid fun W => of_any n W
  have CB : Hid (∀ W, Calls Tryd.prog 23 #[.bool true] W fun e w' => e = .returned (.agg #[.int .i64 1, .int .i64 1000000, .string ⟨#[]⟩]) ∧ Below W.heap.size W w') := Lib.hid fun W => bool_any true W
  have CN := Lib.hid fun W => cint_any k W hk
  have CM : Hid (∀ W, Calls Tryd.prog 25 #[.int .i64 k] W fun e w' => e = .returned (.int .i64 (clampI (k * 1000000))) ∧ Below W.heap.size W w') := Lib.hid fun W => (int_any k W hk).mono fun _ _ ⟨h1, h2⟩ => ⟨h1, h2.below⟩
  have TO := Lib.hid told_any
  unfold cv at CI CT CO CN
  have HG := Lib.hid G
  generalize inK t.data.toList = ik at *
  generalize inN t.data.toList = iN at *
  generalize clampI (k * 1000000) = ck at *
  clear hk hs G
  by_cases hn : OkN n
  · unfold OkN at hn
    obtain ⟨h1, h2⟩ := hn
    have h1' : ¬ n < -4611686018427387903 := by omega
    have h2' : ¬ 4611686018427387903 < n := by omega
    clear h1 h2
    go_enter Tryd.func4, Tryd.ntmps4
    go_wp2_with ((with_reducible refine (C0.out _).mono ?_); rintro e w' ⟨rfl, rfl⟩)
    generalize hX : Obj.cells #[Value.int .i64 1, Value.int .i64 1000000, Value.string ⟨#[]⟩] 27 = X
    obtain ⟨B1, hB1⟩ : ∃ B, w.heap.size = B := ⟨_, rfl⟩
    have hs3 : (w.alloc X).cell? ⟨B1, 0, none⟩ = some (.int .i64 1) ∧ (w.alloc X).cell? ⟨B1, 1, none⟩ = some (.int .i64 1000000) ∧ (w.alloc X).cell? ⟨B1, 2, none⟩ = some (.string ⟨#[]⟩) ∧ Below w.heap.size w (w.alloc X) := by
      rw [← hX, ← hB1]
      refine ⟨by simp [go_sem], by simp [go_sem], by simp [go_sem], (Below.refl _ _).alloc (Nat.le_refl _) _⟩
    clear hX
    rw [hB1]
    generalize (w.alloc X) = w0 at *
    clear hB1
    go_region_held3 (fun w' => w'.cell? ⟨B1, 0, none⟩ = some (.int .i64 1) ∧ w'.cell? ⟨B1, 1, none⟩ = some (.int .i64 1000000) ∧ w'.cell? ⟨B1, 2, none⟩ = some (.string ⟨#[]⟩) ∧ Below w.heap.size w w') (first | assumption | exact draw3 (by assumption) | go_keep) (first
      | ((with_reducible refine (CA.out _ (HG.out.next (below3 (by assumption)))).mono ?_); rintro e w8 ⟨rfl, hb8⟩; have k8 := keep3 (by assumption) hb8)
      | ((with_reducible refine (CI.out _).mono ?_); rintro e w8 ⟨rfl, hb8⟩; have k8 := keep3 (by assumption) hb8)
      | ((with_reducible refine (CR.out _).mono ?_); rintro e w8 ⟨rfl, hb8⟩; have k8 := keep3 (by assumption) hb8)
      | ((with_reducible refine (CT.out _).mono ?_); rintro e w8 ⟨rfl, hb8⟩; have k8 := keep3 (by assumption) hb8)
      | ((with_reducible refine (CO.out _).mono ?_); rintro e w8 ⟨rfl, hb8⟩; have k8 := keep3 (by assumption) hb8)
      | ((with_reducible refine (CB.out _).mono ?_); rintro e w8 ⟨rfl, hb8⟩; have k8 := keep3 (by assumption) hb8)
      | ((with_reducible refine (CN.out _).mono ?_); rintro e w8 ⟨rfl, hb8⟩; have k8 := keep3 (by assumption) hb8)
      | ((with_reducible refine (CM.out _).mono ?_); rintro e w8 ⟨rfl, hb8⟩; have k8 := keep3 (by assumption) hb8)
      | ((with_reducible refine (TO.out _ _ _ _).mono ?_); rintro e w8 ⟨rfl, hb8⟩; have k8 := keep3 (by assumption) hb8))
    all_goals
      have HB9 : Hid (Below w.heap.size w w8) := Lib.hid (below3 (by assumption))
      go_wp2_with fail
      go_ret
      exact ⟨by simp, HB9.out⟩
  · have hn2 : n < -4611686018427387903 ∨ 4611686018427387903 < n := by unfold OkN at hn; omega
    clear hn
    by_cases h1 : n < -4611686018427387903
    · clear hn2
      go_enter Tryd.func4, Tryd.ntmps4
      go_wp2_with ((with_reducible refine (C0.out _).mono ?_); rintro e w' ⟨rfl, rfl⟩)
      (with_reducible refine (CA.out _ HG.out).mono ?_)
      rintro e w1 ⟨rfl, hb1⟩
      go_wp2_with fail
      go_ret
      exact ⟨rfl, hb1⟩
    · have h2 : 4611686018427387903 < n := by omega
      clear hn2
      go_enter Tryd.func4, Tryd.ntmps4
      go_wp2_with ((with_reducible refine (C0.out _).mono ?_); rintro e w' ⟨rfl, rfl⟩)
      (with_reducible refine (CA.out _ HG.out).mono ?_)
      rintro e w1 ⟨rfl, hb1⟩
      go_wp2_with fail
      go_ret
      exact ⟨rfl, hb1⟩
theorem makes_walk (s : ByteArray) (n k : Int) (b : Bool) (hs : s.size ≤ maxLen) (hk : -9223372036854775808 ≤ k ∧ k ≤ 9223372036854775807) (w : World) (G : Gl w) :
    Calls Tryd.prog 4 #[.string s, .int .i64 n, .int .i64 k, .bool b] w fun e w' => e = .returned (.bool true) ∧ Below w.heap.size w w' := by
  cases b
  · exact makes_false s n k hs hk w G
  · exact makes_true s n k hs hk w G
theorem makes_wf (s : ByteArray) (n k : Int) (b : Bool) (hs : s.size ≤ maxLen) (hk : (Lit.int .i64 k).wf = true) (w : World) (G : Gl w) :
    Calls Tryd.prog 4 #[.string s, .int .i64 n, .int .i64 k, .bool b] w fun e w' => e = .returned (.bool true) ∧ Below w.heap.size w w' :=
  makes_walk s n k b hs (by
    simp [Lit.wf, IntKind.min, IntKind.max, IntKind.signed, IntKind.bits] at hk
    exact hk) w G
end Go.Proofs.YtnickicmfogahaaDoor
