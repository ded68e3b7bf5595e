/-
  CONTRACTS of the document's own answer for layer 11: pattern, quoted.
-/
import Derived.Test.YtfmjajmdkndknaaLxRf1
namespace Go.Proofs.Ytfmjajmdkndknaa
open Go.RowKit

theorem rpat_nil (a : Option Addr) (c : Nat) (w : World) : Calls Try.prog 36 #[.slice a 0 c] w fun e w' => e = .returned (.bool true) ∧ Below w.heap.size w w' := by
  go_enter Try.func36, Try.ntmps36
  go_wp2
  go_ret
  exact ⟨rfl, Below.refl _ _⟩
set_option maxHeartbeats 1000000 in
theorem rpat_k2 (g n c : Nat) (kk aa : Int) (T : ByteArray) (w : World) (hn : n ≤ 100000)
    (d0 : w.cell? ⟨g, n * 3, none⟩ = some (.int .i64 kk)) (d1 : w.cell? ⟨g, n * 3 + 1, none⟩ = some (.string T)) (d2 : w.cell? ⟨g, n * 3 + 2, none⟩ = some (.int .i64 aa)) (hk : kk = 2) :
    Calls Try.prog 36 #[.slice (some ⟨g, 0, none⟩) (n + 1) c] w fun e w' => e = .returned (.bool false) ∧ Below w.heap.size w w' := by
  have e1 : ¬ ((n + 1 : Nat) : Int) = 0 := by omega
  have e3 : (n : Int) < (n : Int) + 1 := by omega
  have e4 : 0 ≤ (n : Int) := by omega
  subst hk
  go_enter Try.func36, Try.ntmps36
  go_wp2
  go_ret
  first | exact ⟨rfl, (Below.refl _ _).alloc (Nat.le_refl _) _⟩ | exact ⟨by simp, (Below.refl _ _).alloc (Nat.le_refl _) _⟩
set_option maxHeartbeats 1000000 in
theorem rpat_k3 (g n c : Nat) (kk aa : Int) (T : ByteArray) (w : World) (hn : n ≤ 100000)
    (d0 : w.cell? ⟨g, n * 3, none⟩ = some (.int .i64 kk)) (d1 : w.cell? ⟨g, n * 3 + 1, none⟩ = some (.string T)) (d2 : w.cell? ⟨g, n * 3 + 2, none⟩ = some (.int .i64 aa)) (hk : kk = 3) :
    Calls Try.prog 36 #[.slice (some ⟨g, 0, none⟩) (n + 1) c] w fun e w' => e = .returned (.bool false) ∧ Below w.heap.size w w' := by
  have e1 : ¬ ((n + 1 : Nat) : Int) = 0 := by omega
  have e3 : (n : Int) < (n : Int) + 1 := by omega
  have e4 : 0 ≤ (n : Int) := by omega
  subst hk
  go_enter Try.func36, Try.ntmps36
  go_wp2
  go_ret
  first | exact ⟨rfl, (Below.refl _ _).alloc (Nat.le_refl _) _⟩ | exact ⟨by simp, (Below.refl _ _).alloc (Nat.le_refl _) _⟩
set_option maxHeartbeats 1000000 in
theorem rpat_k4 (g n c : Nat) (kk aa : Int) (T : ByteArray) (w : World) (hn : n ≤ 100000)
    (d0 : w.cell? ⟨g, n * 3, none⟩ = some (.int .i64 kk)) (d1 : w.cell? ⟨g, n * 3 + 1, none⟩ = some (.string T)) (d2 : w.cell? ⟨g, n * 3 + 2, none⟩ = some (.int .i64 aa)) (hk : kk = 4) :
    Calls Try.prog 36 #[.slice (some ⟨g, 0, none⟩) (n + 1) c] w fun e w' => e = .returned (.bool false) ∧ Below w.heap.size w w' := by
  have e1 : ¬ ((n + 1 : Nat) : Int) = 0 := by omega
  have e3 : (n : Int) < (n : Int) + 1 := by omega
  have e4 : 0 ≤ (n : Int) := by omega
  subst hk
  go_enter Try.func36, Try.ntmps36
  go_wp2
  go_ret
  first | exact ⟨rfl, (Below.refl _ _).alloc (Nat.le_refl _) _⟩ | exact ⟨by simp, (Below.refl _ _).alloc (Nat.le_refl _) _⟩
set_option maxHeartbeats 1000000 in
theorem rpat_k5 (g n c : Nat) (kk aa : Int) (T : ByteArray) (w : World) (hn : n ≤ 100000)
    (d0 : w.cell? ⟨g, n * 3, none⟩ = some (.int .i64 kk)) (d1 : w.cell? ⟨g, n * 3 + 1, none⟩ = some (.string T)) (d2 : w.cell? ⟨g, n * 3 + 2, none⟩ = some (.int .i64 aa)) (hk : kk = 5) :
    Calls Try.prog 36 #[.slice (some ⟨g, 0, none⟩) (n + 1) c] w fun e w' => e = .returned (.bool false) ∧ Below w.heap.size w w' := by
  have e1 : ¬ ((n + 1 : Nat) : Int) = 0 := by omega
  have e3 : (n : Int) < (n : Int) + 1 := by omega
  have e4 : 0 ≤ (n : Int) := by omega
  subst hk
  go_enter Try.func36, Try.ntmps36
  go_wp2
  go_ret
  first | exact ⟨rfl, (Below.refl _ _).alloc (Nat.le_refl _) _⟩ | exact ⟨by simp, (Below.refl _ _).alloc (Nat.le_refl _) _⟩
set_option maxHeartbeats 1000000 in
theorem rpat_b1 (g n c : Nat) (kk aa : Int) (T : ByteArray) (w : World) (hn : n ≤ 100000)
    (d0 : w.cell? ⟨g, n * 3, none⟩ = some (.int .i64 kk)) (d1 : w.cell? ⟨g, n * 3 + 1, none⟩ = some (.string T)) (d2 : w.cell? ⟨g, n * 3 + 2, none⟩ = some (.int .i64 aa)) (hk : kk = 9) (_t : (T.toList == [108, 101, 110, 103, 116, 104]) = true) :
    Calls Try.prog 36 #[.slice (some ⟨g, 0, none⟩) (n + 1) c] w fun e w' => e = .returned (.bool false) ∧ Below w.heap.size w w' := by
  have e1 : ¬ ((n + 1 : Nat) : Int) = 0 := by omega
  have e3 : (n : Int) < (n : Int) + 1 := by omega
  have e4 : 0 ≤ (n : Int) := by omega
  subst hk
  go_enter Try.func36, Try.ntmps36
  go_wp2
  go_ret
  first | exact ⟨rfl, (Below.refl _ _).alloc (Nat.le_refl _) _⟩ | exact ⟨by simp, (Below.refl _ _).alloc (Nat.le_refl _) _⟩
set_option maxHeartbeats 1000000 in
theorem rpat_b0 (g n c : Nat) (kk aa : Int) (T : ByteArray) (w : World) (hn : n ≤ 100000)
    (d0 : w.cell? ⟨g, n * 3, none⟩ = some (.int .i64 kk)) (d1 : w.cell? ⟨g, n * 3 + 1, none⟩ = some (.string T)) (d2 : w.cell? ⟨g, n * 3 + 2, none⟩ = some (.int .i64 aa)) (hk : kk = 9) (_t : (T.toList == [108, 101, 110, 103, 116, 104]) = false) :
    Calls Try.prog 36 #[.slice (some ⟨g, 0, none⟩) (n + 1) c] w fun e w' => e = .returned (.bool true) ∧ Below w.heap.size w w' := by
  have e1 : ¬ ((n + 1 : Nat) : Int) = 0 := by omega
  have e3 : (n : Int) < (n : Int) + 1 := by omega
  have e4 : 0 ≤ (n : Int) := by omega
  subst hk
  go_enter Try.func36, Try.ntmps36
  go_wp2
  go_ret
  first | exact ⟨rfl, (Below.refl _ _).alloc (Nat.le_refl _) _⟩ | exact ⟨by simp, (Below.refl _ _).alloc (Nat.le_refl _) _⟩
set_option maxHeartbeats 1000000 in
theorem rpat_strue (g n c : Nat) (kk aa : Int) (T : ByteArray) (w : World) (hn : n ≤ 100000)
    (d0 : w.cell? ⟨g, n * 3, none⟩ = some (.int .i64 kk)) (d1 : w.cell? ⟨g, n * 3 + 1, none⟩ = some (.string T)) (d2 : w.cell? ⟨g, n * 3 + 2, none⟩ = some (.int .i64 aa)) (hk : kk = 8) (C : Hid (∀ W, Calls Try.prog 34 #[.string T, .string ⟨#[41, 32, 93, 32, 43, 43, 32, 45, 45]⟩] W fun e w' => e = .returned (.bool false) ∧ w' = W)) :
    Calls Try.prog 36 #[.slice (some ⟨g, 0, none⟩) (n + 1) c] w fun e w' => e = .returned (.bool true) ∧ Below w.heap.size w w' := by
  have e1 : ¬ ((n + 1 : Nat) : Int) = 0 := by omega
  have e3 : (n : Int) < (n : Int) + 1 := by omega
  have e4 : 0 ≤ (n : Int) := by omega
  subst hk
  go_enter Try.func36, Try.ntmps36
  go_wp2_with fail
  refine (C.out _).mono ?_
  rintro e w1 ⟨rfl, rfl⟩
  go_wp2_with fail
  go_ret
  first | exact ⟨rfl, (Below.refl _ _).alloc (Nat.le_refl _) _⟩ | exact ⟨by simp, (Below.refl _ _).alloc (Nat.le_refl _) _⟩
set_option maxHeartbeats 1000000 in
theorem rpat_sfalse (g n c : Nat) (kk aa : Int) (T : ByteArray) (w : World) (hn : n ≤ 100000)
    (d0 : w.cell? ⟨g, n * 3, none⟩ = some (.int .i64 kk)) (d1 : w.cell? ⟨g, n * 3 + 1, none⟩ = some (.string T)) (d2 : w.cell? ⟨g, n * 3 + 2, none⟩ = some (.int .i64 aa)) (hk : kk = 8) (C : Hid (∀ W, Calls Try.prog 34 #[.string T, .string ⟨#[41, 32, 93, 32, 43, 43, 32, 45, 45]⟩] W fun e w' => e = .returned (.bool true) ∧ w' = W)) :
    Calls Try.prog 36 #[.slice (some ⟨g, 0, none⟩) (n + 1) c] w fun e w' => e = .returned (.bool false) ∧ Below w.heap.size w w' := by
  have e1 : ¬ ((n + 1 : Nat) : Int) = 0 := by omega
  have e3 : (n : Int) < (n : Int) + 1 := by omega
  have e4 : 0 ≤ (n : Int) := by omega
  subst hk
  go_enter Try.func36, Try.ntmps36
  go_wp2_with fail
  refine (C.out _).mono ?_
  rintro e w1 ⟨rfl, rfl⟩
  go_wp2_with fail
  go_ret
  first | exact ⟨rfl, (Below.refl _ _).alloc (Nat.le_refl _) _⟩ | exact ⟨by simp, (Below.refl _ _).alloc (Nat.le_refl _) _⟩
set_option maxHeartbeats 1000000 in
theorem rpat_lo (g n c : Nat) (kk aa : Int) (T : ByteArray) (w : World) (hn : n ≤ 100000)
    (d0 : w.cell? ⟨g, n * 3, none⟩ = some (.int .i64 kk)) (d1 : w.cell? ⟨g, n * 3 + 1, none⟩ = some (.string T)) (d2 : w.cell? ⟨g, n * 3 + 2, none⟩ = some (.int .i64 aa)) (n1 : ¬ (2 : Int) ≤ kk) (_n2 : (kk == 9) = false) (_n3 : (kk != 8) = true) :
    Calls Try.prog 36 #[.slice (some ⟨g, 0, none⟩) (n + 1) c] w fun e w' => e = .returned (.bool true) ∧ Below w.heap.size w w' := by
  have e1 : ¬ ((n + 1 : Nat) : Int) = 0 := by omega
  have e3 : (n : Int) < (n : Int) + 1 := by omega
  have e4 : 0 ≤ (n : Int) := by omega
  go_enter Try.func36, Try.ntmps36
  go_wp2
  go_ret
  first | exact ⟨rfl, (Below.refl _ _).alloc (Nat.le_refl _) _⟩ | exact ⟨by simp, (Below.refl _ _).alloc (Nat.le_refl _) _⟩
set_option maxHeartbeats 1000000 in
theorem rpat_hi (g n c : Nat) (kk aa : Int) (T : ByteArray) (w : World) (hn : n ≤ 100000)
    (d0 : w.cell? ⟨g, n * 3, none⟩ = some (.int .i64 kk)) (d1 : w.cell? ⟨g, n * 3 + 1, none⟩ = some (.string T)) (d2 : w.cell? ⟨g, n * 3 + 2, none⟩ = some (.int .i64 aa)) (n1 : (2 : Int) ≤ kk) (n0 : ¬ kk ≤ 5) (n2 : (kk == 9) = false) (n3 : (kk != 8) = true) :
    Calls Try.prog 36 #[.slice (some ⟨g, 0, none⟩) (n + 1) c] w fun e w' => e = .returned (.bool true) ∧ Below w.heap.size w w' := by
  have e1 : ¬ ((n + 1 : Nat) : Int) = 0 := by omega
  have e3 : (n : Int) < (n : Int) + 1 := by omega
  have e4 : 0 ≤ (n : Int) := by omega
  go_enter Try.func36, Try.ntmps36
  go_wp2
  go_ret
  first | exact ⟨rfl, (Below.refl _ _).alloc (Nat.le_refl _) _⟩ | exact ⟨by simp, (Below.refl _ _).alloc (Nat.le_refl _) _⟩
theorem rtok_cells {w : World} {B g c n : Nat} {m : List Tok} {x : Tok} (hn : m.length = n) (h : w.ownsRow B 44 3 (.slice (some ⟨g, 0, none⟩) (n + 1) c) (n + 1) (tokRow (m ++ [x]))) :
    w.cell? ⟨g, n * 3, none⟩ = some (.int .i64 x.k) ∧ w.cell? ⟨g, n * 3 + 1, none⟩ = some (.string ⟨x.t.toArray⟩) ∧ w.cell? ⟨g, n * 3 + 2, none⟩ = some (.int .i64 x.a) := by
  have hl : n < (m ++ [x]).length := by rw [List.length_append]; simp; omega
  have he : (m ++ [x])[n] = x := by subst hn; simp
  refine ⟨?_, ?_, ?_⟩
  · rw [h.cellAt (n * 3) (by omega), show n * 3 = n * 3 + 0 from rfl, tokRow_get _ n 0 hl (by omega), he]; rfl
  · rw [h.cellAt (n * 3 + 1) (by omega), tokRow_get _ n 1 hl (by omega), he]; rfl
  · rw [h.cellAt (n * 3 + 2) (by omega), tokRow_get _ n 2 hl (by omega), he]; rfl
theorem rpat_any (B : Nat) (v : Value) (l : List Tok) (w : World) (h : w.ownsRow B 44 3 v l.length (tokRow l)) (hl : l.length ≤ 100000) :
    Calls Try.prog 36 #[v] w fun e w' => e = .returned (.bool (rxL l)) ∧ Below w.heap.size w w' := by
  rcases List.eq_nil_or_concat l with rfl | ⟨m, x, rfl⟩
  · obtain ⟨a, c, rfl⟩ := own_form h
    exact rpat_nil a c w
  · rw [List.concat_eq_append] at h hl ⊢
    have he : (m ++ [x]).length = m.length + 1 := by simp
    rw [he] at h hl
    obtain ⟨g, c, rfl⟩ := own_succ h
    obtain ⟨d0, d1, d2⟩ := rtok_cells rfl h
    rw [rxL_snoc]
    unfold rxA
    have hT : (⟨x.t.toArray⟩ : ByteArray).data.toList = x.t := by simp
    have hn : m.length ≤ 100000 := by omega
    have CA := fun b (hb : decide (x.t ∈ [[41], [93], [43, 43], [45, 45]]) = b) W => among_is (⟨x.t.toArray⟩ : ByteArray) ⟨#[41, 32, 93, 32, 43, 43, 32, 45, 45]⟩ [[41], [93], [43, 43], [45, 45]] rfl b (by rw [hT]; exact hb) W (by decide)
    generalize (⟨x.t.toArray⟩ : ByteArray) = T at *
    by_cases k2 : x.k = 2
    · rw [if_pos (.inl k2)]; exact rpat_k2 g _ c _ _ T w hn d0 d1 d2 (by omega)
    by_cases k3 : x.k = 3
    · rw [if_pos (.inr (.inl k3))]; exact rpat_k3 g _ c _ _ T w hn d0 d1 d2 (by omega)
    by_cases k4 : x.k = 4
    · rw [if_pos (.inr (.inr (.inl k4)))]; exact rpat_k4 g _ c _ _ T w hn d0 d1 d2 (by omega)
    by_cases k5 : x.k = 5
    · rw [if_pos (.inr (.inr (.inr k5)))]; exact rpat_k5 g _ c _ _ T w hn d0 d1 d2 (by omega)
    rw [if_neg (by rintro (h | h | h | h) <;> contradiction)]
    by_cases k9 : x.k = 9
    · rw [if_pos k9]
      rcases is_or3 T x.t [108, 101, 110, 103, 116, 104] hT with ⟨h, e⟩ | ⟨h, e⟩
      · rw [decide_eq_false (by simpa using e)]; exact rpat_b1 g _ c _ _ T w hn d0 d1 d2 (by omega) h
      · rw [decide_eq_true e]; exact rpat_b0 g _ c _ _ T w hn d0 d1 d2 (by omega) h
    rw [if_neg k9]
    by_cases k8 : x.k = 8
    · rw [if_pos k8]
      have hdec : (decide (x.t ≠ [41]) && decide (x.t ≠ [93]) && decide (x.t ≠ [43, 43]) && decide (x.t ≠ [45, 45])) = !decide (x.t ∈ [[41], [93], [43, 43], [45, 45]]) := by
        rw [Bool.eq_iff_iff]; simp [and_assoc]
      rw [hdec]
      cases hb : decide (x.t ∈ [[41], [93], [43, 43], [45, 45]]) with
      | true => exact rpat_sfalse g _ c _ _ T w hn d0 d1 d2 (by omega) (Lib.hid (CA true hb))
      | false => exact rpat_strue g _ c _ _ T w hn d0 d1 d2 (by omega) (Lib.hid (CA false hb))
    rw [if_neg k8]
    by_cases k0 : x.k < 2
    · exact rpat_lo g _ c _ _ T w hn d0 d1 d2 (by omega) (by rw [beq_eq_false_iff_ne]; omega) (by rw [bne_iff_ne]; omega)
    · exact rpat_hi g _ c _ _ T w hn d0 d1 d2 (by omega) (by omega) (by rw [beq_eq_false_iff_ne]; omega) (by rw [bne_iff_ne]; omega)
def RqPost (p : Nat) (w : World) (x : Qu) (e : Ending) (w' : World) : Prop :=
  (match x with
   | .done t z => e = .returned (.tuple #[.string ⟨t.toArray⟩, .int .i64 ((p + 1 + z : Nat) : Int)])
   | .opened => e = .returned (.tuple #[.string ⟨#[]⟩, .int .i64 (-1)])
   | .wrong o => e = .returned (.tuple #[.string ⟨#[]⟩, .int .i64 (-2 - ((p + 1 + o : Nat) : Int))])) ∧ Below w.heap.size w w'
structure RqR (s : ByteArray) (p : Nat) (Q0 : Qu) (esc : UInt8 → List UInt8) (q : UInt8) (w : World) (tv : Value) (acc : List UInt8) (k : Nat) (wr : World) : Prop where
  row : wr.ownsRow w.heap.size 5 1 tv acc.length (Lib.byteCells acc)
  below : Below w.heap.size w wr
  eq : Q0 = (quL esc q (s.data.toList.drop k)).push acc (k - (p + 1))
theorem qu_esc2 {esc : UInt8 → List UInt8} {q : UInt8} {s : ByteArray} {k : Nat} {m : List UInt8} (hk : k + 1 < s.size) (h : ¬ s[k] = q) (h2 : s[k] = 92) (he : esc s[k + 1] = m) (hm : m ≠ []) : quL esc q (s.data.toList.drop k) = (quL esc q (s.data.toList.drop (k + 2))).push m 2 := by
  rw [drop_at s k (by omega), drop_at s (k + 1) hk]
  conv => lhs; unfold quL
  rw [if_neg h, if_pos h2]
  simp only []
  rw [he, if_neg hm]
theorem qu_bad2 {esc : UInt8 → List UInt8} {q : UInt8} {s : ByteArray} {k : Nat} (hk : k + 1 < s.size) (h : ¬ s[k] = q) (h2 : s[k] = 92) (he : esc s[k + 1] = []) : quL esc q (s.data.toList.drop k) = .wrong 0 := by
  rw [drop_at s k (by omega), drop_at s (k + 1) hk]; unfold quL; rw [if_neg h, if_pos h2]
  simp only []
  rw [if_pos he]
theorem qu_bad3 {esc : UInt8 → List UInt8} {q : UInt8} {s : ByteArray} {k : Nat} (hk : k < s.size) (hk1 : ¬ k + 1 < s.size) (h : ¬ s[k] = q) (h2 : s[k] = 92) : quL esc q (s.data.toList.drop k) = .wrong 0 := by
  rw [drop_at s k hk, drop_end s (k + 1) (by omega)]; unfold quL; rw [if_neg h, if_pos h2]
theorem strEsc_none {d : UInt8} (h1 : ¬ d = 110) (h2 : ¬ d = 116) (h3 : ¬ d = 34) (h4 : ¬ d = 92) (h5 : ¬ d = 47) : strEsc d = [] := by
  unfold strEsc; rw [if_neg h1, if_neg h2, if_neg (fun h => h.elim h3 (fun h => h.elim h4 h5))]
theorem row_snoc2 {w : World} {B k : Nat} {v : Value} {m : List UInt8} {c : UInt8} (hk : m.length = k) (h : w.ownsRow B 5 1 v (k + 1) (Lib.byteCells m ++ [Value.int IntKind.u8 c.toNat])) : w.ownsRow B 5 1 v (m ++ [c]).length (Lib.byteCells (m ++ [c])) := by
  subst hk; exact row_snoc h
theorem u8_cell (w : World) (c : UInt8) : ∀ (j : Nat) (u : Value), [Value.int .u8 c.toNat][j]? = some u → (w.alloc (.cells #[.int .u8 c.toNat] 5)).cell? (Addr.add ⟨w.heap.size, 0, none⟩ j) = some u := by
  intro j u hj
  cases j with
  | zero => simp at hj; subst hj; simp [Addr.add, go_sem]
  | succ j => simp at hj
theorem rq_grow {w : World} {tv : Value} {n : Nat} {xs : List Value} {wr wx : World} {o : Obj} (hr : wr.ownsRow w.heap.size 5 1 tv n xs) (hb : Below w.heap.size w wr) (hg : (wr.alloc o).grownBy wx tv.ownBlock) : Below w.heap.size w wx :=
  (hb.alloc hb.size o).grown hg (by have := hb.size; simp; omega) (fun g e => (own_base hr g e).1)
set_option maxHeartbeats 8000000 in
set_option maxRecDepth 100000 in
theorem rquoted_str (s : ByteArray) (p : Nat) (w : World) (hs : s.size ≤ 10000) (hp : p < s.size) :
    Calls Try.prog 35 #[.string s, .int .i64 (p : Int), .int .u8 34, .bool false] w (RqPost p w (quL strEsc 34 (s.data.toList.drop (p + 1)))) := by
  have H0 : Hid (RqR s p (quL strEsc 34 (s.data.toList.drop (p + 1))) strEsc 34 w (.slice (some ⟨w.heap.size, 0, none⟩) 0 0) [] (p + 1) (w.alloc (.cells #[] 5))) := Lib.hid ⟨by
    have := World.ownsRow_made w #[] 0 (base := w.heap.size) (e := 5) (size := 1) (Nat.le_refl _) (by decide) rfl
    simpa [Lib.byteCells] using this, (Below.refl _ _).alloc (Nat.le_refl _) _, by rw [Nat.sub_self, Qu.push_nil]⟩
  generalize quL strEsc 34 (s.data.toList.drop (p + 1)) = Q0 at *
  obtain ⟨i0, hi, hz0, hz1, hz2⟩ := info_parts Try.infoU8
  go_enter Try.func35, Try.ntmps35
  go_wp2_with fail
  go_loopw [10, 11] (fun tv iv wr => ∃ (k : Nat) (acc : List UInt8), k ≤ s.size ∧ p < k ∧ acc.length ≤ k ∧ iv = .int .i64 k ∧ Hid (RqR s p Q0 strEsc 34 w tv acc k wr)) (fun _ iv _ => s.size - (intOf iv).toNat)
  case atStart => exact ⟨p + 1, [], by omega, by omega, by simp, by go_num, H0⟩
  case round =>
    obtain ⟨k, acc, hk, hpk, hacc, rfl, HX⟩ := hrel
    obtain ⟨ta, tc, rfl⟩ := own_form HX.out.row
    have rowX := Lib.hid HX.out.row
    have BX := Lib.hid HX.out.below
    by_cases hlt2 : k < s.size
    · by_cases h10 : (s[k].toNat : Int) = 10
      · have c10 : s[k] = 10 := nat_of (by decide) h10
        have HE : Hid (Q0 = .opened) := Lib.hid (by have := HX.out.eq; rw [qu_nl hlt2 (by rw [c10]; decide) c10] at this; simpa [Qu.push] using this)
        clear c10 HX
        go_wp2_with fail
        go_ret2
        rw [HE.out]
        exact ⟨rfl, BX.out⟩
      have n10 : ¬ s[k] = 10 := fun e => h10 (by rw [e]; rfl)
      by_cases hq : (s[k].toNat : Int) = 34
      · have cq : s[k] = 34 := nat_of (by decide) hq
        have HE := Lib.hid (push_done Q0 acc (k - (p + 1)) (by have := HX.out.eq; rwa [qu_q hlt2 cq] at this))
        have hcv := row_conv HX.out.row
        clear cq n10 HX
        go_wp2_with fail
        go_ret2
        rw [HE.out]
        refine ⟨?_, BX.out⟩
        show _ = Ending.returned (.tuple #[.string ⟨acc.toArray⟩, .int .i64 ((p + 1 + (k - (p + 1) + 1) : Nat) : Int)])
        rw [show ((p + 1 + (k - (p + 1) + 1) : Nat) : Int) = (k : Int) + 1 from by omega]
        rfl
      have nq : ¬ s[k] = 34 := fun e => hq (by rw [e]; rfl)
      have b10 : ((s[k].toNat : Int) == 10) = false := by simpa using h10
      have bq : ((s[k].toNat : Int) == 34) = false := by simpa using hq
      by_cases h92 : (s[k].toNat : Int) = 92
      · have c92 : s[k] = 92 := nat_of (by decide) h92
        by_cases hk1 : k + 1 < s.size
        · have hk1i : ¬ (s.size : Int) ≤ (k : Int) + 1 := by omega
          obtain ⟨d, hd⟩ : ∃ d, s[k + 1] = d := ⟨_, rfl⟩

          have hdd : (s[k + 1].toNat : Int) = (d.toNat : Int) := by rw [hd]
          have hdl : d.toNat < 256 := d.toNat_lt
          obtain ⟨di, hdi⟩ : ∃ di : Int, (d.toNat : Int) = di := ⟨_, rfl⟩
          rw [hdi] at hdd
          have HDE := Lib.hid hd
          have HDI := Lib.hid hdi
          clear hd hdi
          by_cases h : di = 110
          · have hc := (show d = 110 from nat_of (by decide) (by rw [HDI.out]; exact h))
            subst h
            have HE : Hid (Q0 = (quL strEsc 34 (s.data.toList.drop (k + 2))).push (acc ++ [10]) (k + 2 - (p + 1))) := Lib.hid (by have := HX.out.eq; rw [qu_esc2 (m := [10]) hk1 nq c92 (by rw [HDE.out, hc]; rfl) (by simp), Qu.push_push] at this; rw [this]; congr 1; omega)
            have HDD := hdd
            clear HX nq n10 c92
            go_wp2_with (at_builtin; refine wpList_append_own _ rfl (.tmp 68) (.tmp 69) 47 rfl w.heap.size 5 i0 (.int .u8 0) 1 1 Try.underlying47 hi hz0 hz1 hz2 rfl (by decide) _ acc.length (Lib.byteCells acc) rfl (rowX.out.alloc _) ⟨wr.heap.size, 0, none⟩ 1 1 [.int .u8 10] rfl rfl ?a1 ?b1 ?c1 ?d1 ?e1 ?_)
            try (case a1 => exact u8_cell wr (10 : UInt8))
            case b1 => simp [Value.oneCell']
            case c1 => unfold maxLen; omega
            case d1 => omega
            case e1 => have := BX.out.size; simp; omega
            intro v9 w9 hown9 hgrow9 _
            have row9 := Lib.hid (row_snoc2 (m := acc) (c := (10 : UInt8)) (by simp) hown9)
            have B9 := Lib.hid (rq_grow rowX.out BX.out hgrow9)
            clear hown9 hgrow9
            have HN := Lib.hid (RqR.mk (tv := v9) (acc := acc ++ [10]) row9.out B9.out HE.out)
            go_wp2_with fail
            go_roundw
            case rel => exact ⟨k + 2, _, by omega, by omega, by simp; omega, by go_num, HN⟩
            case measure => simp [intOf]; omega
          have bd110 : (di == 110) = false := by simpa using h
          have n110 := h
          by_cases h : di = 116
          · have hc := (show d = 116 from nat_of (by decide) (by rw [HDI.out]; exact h))
            subst h
            have HE : Hid (Q0 = (quL strEsc 34 (s.data.toList.drop (k + 2))).push (acc ++ [9]) (k + 2 - (p + 1))) := Lib.hid (by have := HX.out.eq; rw [qu_esc2 (m := [9]) hk1 nq c92 (by rw [HDE.out, hc]; rfl) (by simp), Qu.push_push] at this; rw [this]; congr 1; omega)
            have HDD := hdd
            clear HX nq n10 c92
            go_wp2_with (at_builtin; refine wpList_append_own _ rfl (.tmp 73) (.tmp 74) 47 rfl w.heap.size 5 i0 (.int .u8 0) 1 1 Try.underlying47 hi hz0 hz1 hz2 rfl (by decide) _ acc.length (Lib.byteCells acc) rfl (rowX.out.alloc _) ⟨wr.heap.size, 0, none⟩ 1 1 [.int .u8 9] rfl rfl ?a2 ?b2 ?c2 ?d2 ?e2 ?_)
            try (case a2 => exact u8_cell wr (9 : UInt8))
            case b2 => simp [Value.oneCell']
            case c2 => unfold maxLen; omega
            case d2 => omega
            case e2 => have := BX.out.size; simp; omega
            intro v9 w9 hown9 hgrow9 _
            have row9 := Lib.hid (row_snoc2 (m := acc) (c := (9 : UInt8)) (by simp) hown9)
            have B9 := Lib.hid (rq_grow rowX.out BX.out hgrow9)
            clear hown9 hgrow9
            have HN := Lib.hid (RqR.mk (tv := v9) (acc := acc ++ [9]) row9.out B9.out HE.out)
            go_wp2_with fail
            go_roundw
            case rel => exact ⟨k + 2, _, by omega, by omega, by simp; omega, by go_num, HN⟩
            case measure => simp [intOf]; omega
          have bd116 : (di == 116) = false := by simpa using h
          have n116 := h
          by_cases h : di = 34
          · have hc := (show d = 34 from nat_of (by decide) (by rw [HDI.out]; exact h))
            subst h
            have HE : Hid (Q0 = (quL strEsc 34 (s.data.toList.drop (k + 2))).push (acc ++ [34]) (k + 2 - (p + 1))) := Lib.hid (by have := HX.out.eq; rw [qu_esc2 (m := [34]) hk1 nq c92 (by rw [HDE.out, hc]; rfl) (by simp), Qu.push_push] at this; rw [this]; congr 1; omega)
            have HDD := hdd
            clear HX nq n10 c92
            go_wp2_with (at_builtin; refine wpList_append_own _ rfl (.tmp 86) (.tmp 88) 47 rfl w.heap.size 5 i0 (.int .u8 0) 1 1 Try.underlying47 hi hz0 hz1 hz2 rfl (by decide) _ acc.length (Lib.byteCells acc) rfl (rowX.out.alloc _) ⟨wr.heap.size, 0, none⟩ 1 1 [.int .u8 34] rfl rfl ?a3 ?b3 ?c3 ?d3 ?e3 ?_)
            try (case a3 => exact u8_cell wr (34 : UInt8))
            case b3 => simp [Value.oneCell']
            case c3 => unfold maxLen; omega
            case d3 => omega
            case e3 => have := BX.out.size; simp; omega
            intro v9 w9 hown9 hgrow9 _
            have row9 := Lib.hid (row_snoc2 (m := acc) (c := (34 : UInt8)) (by simp) hown9)
            have B9 := Lib.hid (rq_grow rowX.out BX.out hgrow9)
            clear hown9 hgrow9
            have HN := Lib.hid (RqR.mk (tv := v9) (acc := acc ++ [34]) row9.out B9.out HE.out)
            go_wp2_with fail
            go_roundw
            case rel => exact ⟨k + 2, _, by omega, by omega, by simp; omega, by go_num, HN⟩
            case measure => simp [intOf]; omega
          have bd34 : (di == 34) = false := by simpa using h
          have n34 := h
          by_cases h : di = 92
          · have hc := (show d = 92 from nat_of (by decide) (by rw [HDI.out]; exact h))
            subst h
            have HE : Hid (Q0 = (quL strEsc 34 (s.data.toList.drop (k + 2))).push (acc ++ [92]) (k + 2 - (p + 1))) := Lib.hid (by have := HX.out.eq; rw [qu_esc2 (m := [92]) hk1 nq c92 (by rw [HDE.out, hc]; rfl) (by simp), Qu.push_push] at this; rw [this]; congr 1; omega)
            have HDD := hdd
            clear HX nq n10 c92
            go_wp2_with (at_builtin; refine wpList_append_own _ rfl (.tmp 86) (.tmp 88) 47 rfl w.heap.size 5 i0 (.int .u8 0) 1 1 Try.underlying47 hi hz0 hz1 hz2 rfl (by decide) _ acc.length (Lib.byteCells acc) rfl (rowX.out.alloc _) ⟨wr.heap.size, 0, none⟩ 1 1 [.int .u8 92] rfl rfl ?a4 ?b4 ?c4 ?d4 ?e4 ?_)
            try (case a4 => exact u8_cell wr (92 : UInt8))
            case b4 => simp [Value.oneCell']
            case c4 => unfold maxLen; omega
            case d4 => omega
            case e4 => have := BX.out.size; simp; omega
            intro v9 w9 hown9 hgrow9 _
            have row9 := Lib.hid (row_snoc2 (m := acc) (c := (92 : UInt8)) (by simp) hown9)
            have B9 := Lib.hid (rq_grow rowX.out BX.out hgrow9)
            clear hown9 hgrow9
            have HN := Lib.hid (RqR.mk (tv := v9) (acc := acc ++ [92]) row9.out B9.out HE.out)
            go_wp2_with fail
            go_roundw
            case rel => exact ⟨k + 2, _, by omega, by omega, by simp; omega, by go_num, HN⟩
            case measure => simp [intOf]; omega
          have bd92 : (di == 92) = false := by simpa using h
          have n92 := h
          by_cases h : di = 47
          · have hc := (show d = 47 from nat_of (by decide) (by rw [HDI.out]; exact h))
            subst h
            have HE : Hid (Q0 = (quL strEsc 34 (s.data.toList.drop (k + 2))).push (acc ++ [47]) (k + 2 - (p + 1))) := Lib.hid (by have := HX.out.eq; rw [qu_esc2 (m := [47]) hk1 nq c92 (by rw [HDE.out, hc]; rfl) (by simp), Qu.push_push] at this; rw [this]; congr 1; omega)
            have HDD := hdd
            clear HX nq n10 c92
            go_wp2_with (at_builtin; refine wpList_append_own _ rfl (.tmp 86) (.tmp 88) 47 rfl w.heap.size 5 i0 (.int .u8 0) 1 1 Try.underlying47 hi hz0 hz1 hz2 rfl (by decide) _ acc.length (Lib.byteCells acc) rfl (rowX.out.alloc _) ⟨wr.heap.size, 0, none⟩ 1 1 [.int .u8 47] rfl rfl ?a5 ?b5 ?c5 ?d5 ?e5 ?_)
            try (case a5 => exact u8_cell wr (47 : UInt8))
            case b5 => simp [Value.oneCell']
            case c5 => unfold maxLen; omega
            case d5 => omega
            case e5 => have := BX.out.size; simp; omega
            intro v9 w9 hown9 hgrow9 _
            have row9 := Lib.hid (row_snoc2 (m := acc) (c := (47 : UInt8)) (by simp) hown9)
            have B9 := Lib.hid (rq_grow rowX.out BX.out hgrow9)
            clear hown9 hgrow9
            have HN := Lib.hid (RqR.mk (tv := v9) (acc := acc ++ [47]) row9.out B9.out HE.out)
            go_wp2_with fail
            go_roundw
            case rel => exact ⟨k + 2, _, by omega, by omega, by simp; omega, by go_num, HN⟩
            case measure => simp [intOf]; omega
          have bd47 : (di == 47) = false := by simpa using h
          have n47 := h
          have hnd : strEsc d = [] := strEsc_none (fun e => n110 (by rw [← HDI.out, e]; rfl)) (fun e => n116 (by rw [← HDI.out, e]; rfl)) (fun e => n34 (by rw [← HDI.out, e]; rfl)) (fun e => n92 (by rw [← HDI.out, e]; rfl)) (fun e => n47 (by rw [← HDI.out, e]; rfl))
          have HE : Hid (Q0 = .wrong (k - (p + 1))) := Lib.hid (by have := HX.out.eq; rw [qu_bad2 hk1 nq c92 (by rw [HDE.out]; exact hnd)] at this; simpa [Qu.push] using this)
          have HDD := hdd
          clear HX nq n10 c92
          go_wp2_with fail
          go_ret2
          rw [HE.out]
          refine ⟨?_, BX.out⟩
          show _ = Ending.returned (.tuple #[.string ⟨#[]⟩, .int .i64 (-2 - ((p + 1 + (k - (p + 1)) : Nat) : Int))])
          rw [show ((p + 1 + (k - (p + 1)) : Nat) : Int) = (k : Int) from by omega]
          rfl
        · have hk1i : (s.size : Int) ≤ (k : Int) + 1 := by omega
          have HE : Hid (Q0 = .wrong (k - (p + 1))) := Lib.hid (by have := HX.out.eq; rw [qu_bad3 hlt2 hk1 nq c92] at this; simpa [Qu.push] using this)
          clear HX nq n10 c92
          go_wp2_with fail
          go_ret2
          rw [HE.out]
          refine ⟨?_, BX.out⟩
          show _ = Ending.returned (.tuple #[.string ⟨#[]⟩, .int .i64 (-2 - ((p + 1 + (k - (p + 1)) : Nat) : Int))])
          rw [show ((p + 1 + (k - (p + 1)) : Nat) : Int) = (k : Int) from by omega]
          rfl
      · have n92 : ¬ s[k] = 92 := fun e => h92 (by rw [e]; rfl)
        have b92 : ((s[k].toNat : Int) != 92) = true := by simpa using h92
        have HE : Hid (Q0 = (quL strEsc 34 (s.data.toList.drop (k + 1))).push (acc ++ [s[k]]) (k + 1 - (p + 1))) := Lib.hid (by
          have := HX.out.eq
          rw [qu_one hlt2 nq n92 n10, Qu.push_push] at this
          rw [this]; congr 1; omega)
        generalize hcc : s[k] = cc at *
        clear HX nq n92 n10
        go_wp2_with (at_builtin; refine wpList_append_own _ rfl (.tmp 37) (.tmp 39) 47 rfl w.heap.size 5 i0 (.int .u8 0) 1 1 Try.underlying47 hi hz0 hz1 hz2 rfl (by decide) _ acc.length (Lib.byteCells acc) rfl (rowX.out.alloc _) ⟨wr.heap.size, 0, none⟩ 1 1 [.int .u8 cc.toNat] rfl rfl ?a6 ?b6 ?c6 ?d6 ?e6 ?_)
        try (case a6 => exact u8_cell wr cc)
        case b6 => simp [Value.oneCell']
        case c6 => unfold maxLen; omega
        case d6 => omega
        case e6 => have := BX.out.size; simp; omega
        intro v9 w9 hown9 hgrow9 _
        have row9 := Lib.hid (row_snoc2 (m := acc) (c := cc) (by simp) hown9)
        have B9 := Lib.hid (rq_grow rowX.out BX.out hgrow9)
        clear hown9 hgrow9
        have HN := Lib.hid (RqR.mk (tv := v9) (acc := acc ++ [cc]) row9.out B9.out HE.out)
        go_wp2_with fail
        go_roundw
        case rel => exact ⟨k + 1, _, by omega, by omega, by simp; omega, by go_num, HN⟩
        case measure => simp [intOf]; omega
    · have HE : Hid (Q0 = .opened) := Lib.hid (by have := HX.out.eq; rw [qu_end hlt2] at this; simpa [Qu.push] using this)
      clear HX
      go_wp2_with fail
      go_ret2
      rw [HE.out]
      exact ⟨rfl, BX.out⟩
set_option maxHeartbeats 8000000 in
set_option maxRecDepth 100000 in
theorem rquoted_re (s : ByteArray) (p : Nat) (w : World) (hs : s.size ≤ 10000) (hp : p < s.size) :
    Calls Try.prog 35 #[.string s, .int .i64 (p : Int), .int .u8 47, .bool true] w (RqPost p w (quL reEsc 47 (s.data.toList.drop (p + 1)))) := by
  have H0 : Hid (RqR s p (quL reEsc 47 (s.data.toList.drop (p + 1))) reEsc 47 w (.slice (some ⟨w.heap.size, 0, none⟩) 0 0) [] (p + 1) (w.alloc (.cells #[] 5))) := Lib.hid ⟨by
    have := World.ownsRow_made w #[] 0 (base := w.heap.size) (e := 5) (size := 1) (Nat.le_refl _) (by decide) rfl
    simpa [Lib.byteCells] using this, (Below.refl _ _).alloc (Nat.le_refl _) _, by rw [Nat.sub_self, Qu.push_nil]⟩
  generalize quL reEsc 47 (s.data.toList.drop (p + 1)) = Q0 at *
  obtain ⟨i0, hi, hz0, hz1, hz2⟩ := info_parts Try.infoU8
  go_enter Try.func35, Try.ntmps35
  go_wp2_with fail
  go_loopw [10, 11] (fun tv iv wr => ∃ (k : Nat) (acc : List UInt8), k ≤ s.size ∧ p < k ∧ acc.length ≤ k ∧ iv = .int .i64 k ∧ Hid (RqR s p Q0 reEsc 47 w tv acc k wr)) (fun _ iv _ => s.size - (intOf iv).toNat)
  case atStart => exact ⟨p + 1, [], by omega, by omega, by simp, by go_num, H0⟩
  case round =>
    obtain ⟨k, acc, hk, hpk, hacc, rfl, HX⟩ := hrel
    obtain ⟨ta, tc, rfl⟩ := own_form HX.out.row
    have rowX := Lib.hid HX.out.row
    have BX := Lib.hid HX.out.below
    by_cases hlt2 : k < s.size
    · by_cases h10 : (s[k].toNat : Int) = 10
      · have c10 : s[k] = 10 := nat_of (by decide) h10
        have HE : Hid (Q0 = .opened) := Lib.hid (by have := HX.out.eq; rw [qu_nl hlt2 (by rw [c10]; decide) c10] at this; simpa [Qu.push] using this)
        clear c10 HX
        go_wp2_with fail
        go_ret2
        rw [HE.out]
        exact ⟨rfl, BX.out⟩
      have n10 : ¬ s[k] = 10 := fun e => h10 (by rw [e]; rfl)
      by_cases hq : (s[k].toNat : Int) = 47
      · have cq : s[k] = 47 := nat_of (by decide) hq
        have HE := Lib.hid (push_done Q0 acc (k - (p + 1)) (by have := HX.out.eq; rwa [qu_q hlt2 cq] at this))
        have hcv := row_conv HX.out.row
        clear cq n10 HX
        go_wp2_with fail
        go_ret2
        rw [HE.out]
        refine ⟨?_, BX.out⟩
        show _ = Ending.returned (.tuple #[.string ⟨acc.toArray⟩, .int .i64 ((p + 1 + (k - (p + 1) + 1) : Nat) : Int)])
        rw [show ((p + 1 + (k - (p + 1) + 1) : Nat) : Int) = (k : Int) + 1 from by omega]
        rfl
      have nq : ¬ s[k] = 47 := fun e => hq (by rw [e]; rfl)
      have b10 : ((s[k].toNat : Int) == 10) = false := by simpa using h10
      have bq : ((s[k].toNat : Int) == 47) = false := by simpa using hq
      by_cases h92 : (s[k].toNat : Int) = 92
      · have c92 : s[k] = 92 := nat_of (by decide) h92
        by_cases hk1 : k + 1 < s.size
        · have hk1i : ¬ (s.size : Int) ≤ (k : Int) + 1 := by omega
          obtain ⟨d, hd⟩ : ∃ d, s[k + 1] = d := ⟨_, rfl⟩

          have hdd : (s[k + 1].toNat : Int) = (d.toNat : Int) := by rw [hd]
          have hdl : d.toNat < 256 := d.toNat_lt
          obtain ⟨di, hdi⟩ : ∃ di : Int, (d.toNat : Int) = di := ⟨_, rfl⟩
          rw [hdi] at hdd
          have HDE := Lib.hid hd
          have HDI := Lib.hid hdi
          clear hd hdi
          by_cases h : di = 10
          · have hc := (show d = 10 from nat_of (by decide) (by rw [HDI.out]; exact h))
            subst h
            have HE : Hid (Q0 = .wrong (k - (p + 1))) := Lib.hid (by have := HX.out.eq; rw [qu_bad2 hk1 nq c92 (by rw [HDE.out, hc]; rfl)] at this; simpa [Qu.push] using this)
            have HDD := hdd
            clear HX nq n10 c92
            go_wp2_with fail
            go_ret2
            rw [HE.out]
            refine ⟨?_, BX.out⟩
            show _ = Ending.returned (.tuple #[.string ⟨#[]⟩, .int .i64 (-2 - ((p + 1 + (k - (p + 1)) : Nat) : Int))])
            rw [show ((p + 1 + (k - (p + 1)) : Nat) : Int) = (k : Int) from by omega]
            rfl
          have hn10 := h
          have bd10 : (di == 10) = false := by simpa using h
          by_cases h : di = 47
          · have hc := (show d = 47 from nat_of (by decide) (by rw [HDI.out]; exact h))
            subst h
            have HE : Hid (Q0 = (quL reEsc 47 (s.data.toList.drop (k + 2))).push (acc ++ [47]) (k + 2 - (p + 1))) := Lib.hid (by have := HX.out.eq; rw [qu_esc2 (m := [47]) hk1 nq c92 (by rw [HDE.out, hc]; rfl) (by simp), Qu.push_push] at this; rw [this]; congr 1; omega)
            have HDD := hdd
            clear HX nq n10 c92
            go_wp2_with (at_builtin; refine wpList_append_own _ rfl (.tmp 62) (.tmp 64) 47 rfl w.heap.size 5 i0 (.int .u8 0) 1 1 Try.underlying47 hi hz0 hz1 hz2 rfl (by decide) _ acc.length (Lib.byteCells acc) rfl (rowX.out.alloc _) ⟨wr.heap.size, 0, none⟩ 1 1 [.int .u8 47] rfl rfl ?a7 ?b7 ?c7 ?d7 ?e7 ?_)
            try (case a7 => exact u8_cell wr (47 : UInt8))
            case b7 => simp [Value.oneCell']
            case c7 => unfold maxLen; omega
            case d7 => omega
            case e7 => have := BX.out.size; simp; omega
            intro v9 w9 hown9 hgrow9 _
            have row9 := Lib.hid (row_snoc2 (m := acc) (c := (47 : UInt8)) (by simp) hown9)
            have B9 := Lib.hid (rq_grow rowX.out BX.out hgrow9)
            clear hown9 hgrow9
            have HN := Lib.hid (RqR.mk (tv := v9) (acc := acc ++ [47]) row9.out B9.out HE.out)
            go_wp2_with fail
            go_roundw
            case rel => exact ⟨k + 2, _, by omega, by omega, by simp; omega, by go_num, HN⟩
            case measure => simp [intOf]; omega
          have bd47 : (di == 47) = false := by simpa using h
          have hnd : reEsc d = [92, d] := by unfold reEsc; rw [if_neg (fun e => hn10 (by rw [← HDI.out, e]; rfl)), if_neg (fun e => h (by rw [← HDI.out, e]; rfl))]
          have HE : Hid (Q0 = (quL reEsc 47 (s.data.toList.drop (k + 2))).push (acc ++ [92, d]) (k + 2 - (p + 1))) := Lib.hid (by have := HX.out.eq; rw [qu_esc2 (m := [92, d]) hk1 nq c92 (by rw [HDE.out]; exact hnd) (by simp), Qu.push_push] at this; rw [this]; congr 1; omega)
          have HDD := hdd
          clear HX nq n10 c92
          rw [← HDI.out] at HDD bd10 bd47
          clear hdd
          go_wp2_with (at_builtin; refine wpList_append_own _ rfl (.tmp 59) (.tmp 60) 47 rfl w.heap.size 5 i0 (.int .u8 0) 1 1 Try.underlying47 hi hz0 hz1 hz2 rfl (by decide) _ acc.length (Lib.byteCells acc) rfl (rowX.out.alloc _) ⟨wr.heap.size, 0, none⟩ 1 1 [.int .u8 92] rfl rfl ?a8 ?b8 ?c8 ?d8 ?e8 ?_)
          try (case a8 => exact u8_cell wr (92 : UInt8))
          case b8 => simp [Value.oneCell']
          case c8 => unfold maxLen; omega
          case d8 => omega
          case e8 => have := BX.out.size; simp; omega
          intro v8 w8 hown8 hgrow8 _
          have row8 := Lib.hid (row_snoc2 (m := acc) (c := (92 : UInt8)) (by simp) hown8)
          have B8 := Lib.hid (rq_grow rowX.out BX.out hgrow8)
          clear hown8 hgrow8
          have hl8 : (acc ++ [(92 : UInt8)]).length = acc.length + 1 := by simp
          have hr8 := row8.out
          rw [hl8] at hr8
          clear row8
          have row8 := Lib.hid hr8
          clear hr8
          obtain ⟨t8, c8, rfl⟩ := own_form row8.out
          go_wp2_with (at_builtin; refine wpList_append_own _ rfl (.tmp 62) (.tmp 64) 47 rfl w.heap.size 5 i0 (.int .u8 0) 1 1 Try.underlying47 hi hz0 hz1 hz2 rfl (by decide) _ (acc.length + 1) (Lib.byteCells (acc ++ [(92 : UInt8)])) rfl (row8.out.alloc _) ⟨w8.heap.size, 0, none⟩ 1 1 [.int .u8 d.toNat] rfl rfl ?a9 ?b9 ?c9 ?d9 ?e9 ?_)
          try (case a9 => exact u8_cell w8 d)
          case b9 => simp [Value.oneCell']
          case c9 => unfold maxLen; omega
          case d9 => omega
          case e9 => have := B8.out.size; simp; omega
          intro v9 w9 hown9 hgrow9 _
          have row9 := Lib.hid (row_snoc2 (m := (acc ++ [(92 : UInt8)])) (c := d) (by simp) hown9)
          have B9 := Lib.hid (rq_grow row8.out B8.out hgrow9)
          clear hown9 hgrow9
          have HE := Lib.hid (show Q0 = (quL reEsc 47 (s.data.toList.drop (k + 2))).push (acc ++ [(92 : UInt8)] ++ [d]) (k + 2 - (p + 1)) from by rw [HE.out]; simp)
          have HN := Lib.hid (RqR.mk (tv := v9) (acc := acc ++ [(92 : UInt8)] ++ [d]) row9.out B9.out HE.out)
          go_wp2_with fail
          go_roundw
          case rel => exact ⟨k + 2, _, by omega, by omega, by simp; omega, by go_num, HN⟩
          case measure => simp [intOf]; omega
        · have hk1i : (s.size : Int) ≤ (k : Int) + 1 := by omega
          have HE : Hid (Q0 = .wrong (k - (p + 1))) := Lib.hid (by have := HX.out.eq; rw [qu_bad3 hlt2 hk1 nq c92] at this; simpa [Qu.push] using this)
          clear HX nq n10 c92
          go_wp2_with fail
          go_ret2
          rw [HE.out]
          refine ⟨?_, BX.out⟩
          show _ = Ending.returned (.tuple #[.string ⟨#[]⟩, .int .i64 (-2 - ((p + 1 + (k - (p + 1)) : Nat) : Int))])
          rw [show ((p + 1 + (k - (p + 1)) : Nat) : Int) = (k : Int) from by omega]
          rfl
      · have n92 : ¬ s[k] = 92 := fun e => h92 (by rw [e]; rfl)
        have b92 : ((s[k].toNat : Int) != 92) = true := by simpa using h92
        have HE : Hid (Q0 = (quL reEsc 47 (s.data.toList.drop (k + 1))).push (acc ++ [s[k]]) (k + 1 - (p + 1))) := Lib.hid (by
          have := HX.out.eq
          rw [qu_one hlt2 nq n92 n10, Qu.push_push] at this
          rw [this]; congr 1; omega)
        generalize hcc : s[k] = cc at *
        clear HX nq n92 n10
        go_wp2_with (at_builtin; refine wpList_append_own _ rfl (.tmp 37) (.tmp 39) 47 rfl w.heap.size 5 i0 (.int .u8 0) 1 1 Try.underlying47 hi hz0 hz1 hz2 rfl (by decide) _ acc.length (Lib.byteCells acc) rfl (rowX.out.alloc _) ⟨wr.heap.size, 0, none⟩ 1 1 [.int .u8 cc.toNat] rfl rfl ?a10 ?b10 ?c10 ?d10 ?e10 ?_)
        try (case a10 => exact u8_cell wr cc)
        case b10 => simp [Value.oneCell']
        case c10 => unfold maxLen; omega
        case d10 => omega
        case e10 => have := BX.out.size; simp; omega
        intro v9 w9 hown9 hgrow9 _
        have row9 := Lib.hid (row_snoc2 (m := acc) (c := cc) (by simp) hown9)
        have B9 := Lib.hid (rq_grow rowX.out BX.out hgrow9)
        clear hown9 hgrow9
        have HN := Lib.hid (RqR.mk (tv := v9) (acc := acc ++ [cc]) row9.out B9.out HE.out)
        go_wp2_with fail
        go_roundw
        case rel => exact ⟨k + 1, _, by omega, by omega, by simp; omega, by go_num, HN⟩
        case measure => simp [intOf]; omega
    · have HE : Hid (Q0 = .opened) := Lib.hid (by have := HX.out.eq; rw [qu_end hlt2] at this; simpa [Qu.push] using this)
      clear HX
      go_wp2_with fail
      go_ret2
      rw [HE.out]
      exact ⟨rfl, BX.out⟩
end Go.Proofs.Ytfmjajmdkndknaa
