/-
  CONTRACTS of layer 11's same, of both Prints at no tokens, of both Lexes at too long a text; what Lex's tokens are like.
-/
import Derived.Test.YtfmjajmdkndknaaLxRf7
import Derived.Test.YtfmjajmdkndknaaLxRise
namespace Go.Proofs.Ytfmjajmdkndknaa
open Go.RowKit

theorem kind_le (a b : List UInt8) : kindL a b ≤ 10 := by
  unfold kindL
  split
  · decide
  · split
    · decide
    · split
      · decide
      · split <;> decide
theorem strEsc_le (d : UInt8) : (strEsc d).length ≤ 2 := by unfold strEsc; split <;> (try split) <;> (try split) <;> simp
theorem reEsc_le (d : UInt8) : (reEsc d).length ≤ 2 := by unfold reEsc; split <;> (try split) <;> simp
theorem qu_fit (esc : UInt8 → List UInt8) (he : ∀ d, (esc d).length ≤ 2) (q : UInt8) : ∀ (l t : List UInt8) (z : Nat), quL esc q l = .done t z → t.length ≤ z
  | [], t, z, h => by unfold quL at h; cases h
  | [c], t, z, h => by
    unfold quL at h
    split at h
    · cases h; simp
    split at h
    · cases h
    split at h
    · cases h
    · simp [quL, Qu.push] at h
  | c :: d :: t', t, z, h => by
    unfold quL at h
    split at h
    · cases h; simp
    split at h
    · simp only [] at h
      split at h
      · cases h
      · cases hq : quL esc q t' with
        | opened => rw [hq] at h; cases h
        | wrong o => rw [hq] at h; cases h
        | done m k =>
          rw [hq] at h
          cases h
          have := qu_fit esc he q t' m k hq
          have := he d
          rw [List.length_append]; omega
    split at h
    · cases h
    · cases hq : quL esc q (d :: t') with
      | opened => rw [hq] at h; cases h
      | wrong o => rw [hq] at h; cases h
      | done m k =>
        rw [hq] at h
        cases h
        have := qu_fit esc he q (d :: t') m k hq
        rw [List.length_append]; simp only [List.length_cons, List.length_nil]; omega
theorem step_fit {rx : Bool} {l : List UInt8} {k : Nat} {t : List UInt8} {z : Nat} (h : stepL rx l = .tok k t z) : k ≤ 10 ∧ t.length ≤ z := by
  cases l with
  | nil => cases h
  | cons c r =>
    rw [step_cons] at h
    have hq : ∀ j esc q, j ≤ 10 → (∀ d, (esc d).length ≤ 2) → St.ofQ j (quL esc q r) = .tok k t z → k ≤ 10 ∧ t.length ≤ z := fun j esc q hj he e => by
      cases hx : quL esc q r with
      | opened => rw [hx] at e; cases e
      | wrong o => rw [hx] at e; cases e
      | done m y =>
        rw [hx] at e
        cases e
        have := qu_fit esc he q r _ _ hx
        exact ⟨hj, by omega⟩
    split at h
    · cases h; exact ⟨by decide, by simp⟩
    split at h
    · exact hq 3 _ _ (by decide) strEsc_le h
    split at h
    · exact hq 4 _ _ (by decide) reEsc_le h
    split at h
    · injection h with h1 h2 h3; rw [← h1, ← h2, ← h3]; exact ⟨kind_le _ _, List.length_take_le _ _⟩
    split at h
    · cases h; exact ⟨by decide, List.length_take_le _ _⟩
    split at h
    · cases h; exact ⟨by decide, List.length_take_le _ _⟩
    · cases h
theorem lexF_fit : ∀ (n : Nat) (rx : Bool) (p : Nat) (l : List UInt8) (r : List Tok), lexF n rx p l = .ok r → ∀ x ∈ r, x.k ≤ 10 ∧ x.t.length ≤ l.length
  | 0, _, _, _, r, h => by cases h; simp
  | n + 1, rx, p, l, r, h => by
    unfold lexF at h
    cases hst : stepL rx (l.drop (blankL l)) with
    | eof => rw [hst] at h; cases h; simp
    | bad o => rw [hst] at h; cases h
    | tok k t z =>
      rw [hst] at h
      simp only [] at h
      have h1 := (step_le rx _).1 _ _ _ hst
      have h2 : (l.drop (blankL l)).length = l.length - blankL l := List.length_drop
      have h5 := step_fit hst
      cases hx : lexF n (rxA k t) (p + blankL l + z) (l.drop (blankL l + z)) with
      | error e => rw [hx] at h; cases h
      | ok r' =>
        rw [hx] at h
        cases h
        have ih := lexF_fit n _ _ _ _ hx
        have h4 : (l.drop (blankL l + z)).length = l.length - (blankL l + z) := List.length_drop
        intro x hm
        rcases List.mem_cons.1 hm with rfl | hm
        · exact ⟨h5.1, by show t.length ≤ _; omega⟩
        · have := ih x hm; exact ⟨this.1, by omega⟩
theorem lex_fit {l : List UInt8} {r : List Tok} (h : lexL l = .ok r) (hl : l.length ≤ 4000) (n : Nat) : ∀ x ∈ r ++ [endT n], FitT x := by
  intro x hm
  rcases List.mem_append.1 hm with hm | hm
  · have := lexF_fit _ _ _ _ _ h x hm; exact ⟨this.1, by omega⟩
  · rw [List.mem_singleton] at hm; subst hm; exact ⟨Nat.zero_le _, Nat.zero_le _⟩
theorem TAt.ownR {w : World} {B g c n : Nat} {l : List Tok} (hn : l.length = n + 1) (h : w.ownsRow B 44 3 (.slice (some ⟨g, 0, none⟩) (n + 1) c) (n + 1) (tokRow l)) : TAt w g l := by
  refine ⟨(own_base h g rfl).2, fun i hi => ?_, fun i hi => ?_, fun i hi => ?_⟩
  · rw [h.cellAt (i * 3) (by omega), show i * 3 = i * 3 + 0 from rfl, tokRow_get _ i 0 hi (by omega)]; rfl
  · rw [h.cellAt (i * 3 + 1) (by omega), tokRow_get _ i 1 hi (by omega)]; rfl
  · rw [h.cellAt (i * 3 + 2) (by omega), tokRow_get _ i 2 hi (by omega)]; rfl
theorem rlex_ok (s : ByteArray) (l : List Tok) (w : World) (hs : s.size ≤ 4000) (h : lexL s.data.toList = .ok l) : Calls Try.prog 12 #[.string s] w (OkPost l s.size w) := by
  refine (rlex_any s w hs).mono ?_
  intro e w' hp
  rw [h] at hp
  obtain ⟨⟨g, c, h1, h2⟩, h3⟩ := hp
  exact ⟨g, c, h1, TAt.ownR (by simp) h2, h3⟩
theorem rlex_err (s : ByteArray) (p : Nat) (w : World) (hs : s.size ≤ 4000) (h : lexL s.data.toList = .error p) : Calls Try.prog 12 #[.string s] w fun e w' => e = .returned (.tuple #[.slice none 0 0, .int .i64 (p : Int), .int .i64 9]) ∧ Below w.heap.size w w' := by
  refine (rlex_any s w hs).mono ?_
  intro e w' hp
  rw [h] at hp
  exact hp
theorem lex_big (s : ByteArray) (w : World) (hs : 4000 < s.size) : Calls Try.prog 11 #[.string s] w fun e w' => e = .returned (.tuple #[.slice none 0 0, .int .i64 0, .int .i64 12]) ∧ Below w.heap.size w w' := by
  have hs' : (4000 : Int) < (s.size : Int) := by omega
  go_enter Try.func11, Try.ntmps11
  go_wp2_with fail
  refine bodyPost_ret (v := .tuple #[.slice none 0 0, .int .i64 0, .int .i64 12]) ?_ rfl ⟨rfl, ?_⟩
  · simp [results, Try.results11, go_sem]
  · first | exact Below.refl _ _ | exact (Below.refl _ _).alloc (Nat.le_refl _) _
theorem rlex_big (s : ByteArray) (w : World) (hs : 4000 < s.size) : Calls Try.prog 12 #[.string s] w fun e w' => e = .returned (.tuple #[.slice none 0 0, .int .i64 0, .int .i64 12]) ∧ Below w.heap.size w w' := by
  have hs' : (4000 : Int) < (s.size : Int) := by omega
  go_enter Try.func12, Try.ntmps12
  go_wp2_with fail
  refine bodyPost_ret (v := .tuple #[.slice none 0 0, .int .i64 0, .int .i64 12]) ?_ rfl ⟨rfl, ?_⟩
  · simp [results, Try.results12, go_sem]
  · first | exact Below.refl _ _ | exact (Below.refl _ _).alloc (Nat.le_refl _) _
theorem same_nil (w : World) : Calls Try.prog 14 #[.slice none 0 0, .slice none 0 0] w fun e w' => e = .returned (.int .i64 0) ∧ Below w.heap.size w w' := by
  go_enter Try.func14, Try.ntmps14
  go_wp2_with fail
  go_loopw [13] (fun iv wr => iv = .int .i64 0 ∧ Hid (Below w.heap.size w wr)) (fun _ _ => 0)
  case atStart => exact ⟨rfl, Lib.hid (Below.refl _ _)⟩
  case round =>
    obtain ⟨rfl, HB⟩ := hrel
    go_wp2_with fail
    go_ret
    exact ⟨rfl, HB.out⟩
set_option maxHeartbeats 1000000 in
theorem same_any (g c g2 c2 n : Nat) (l : List Tok) (w : World) (hn : l.length = n) (hl : n ≤ 5000) (h : TAt w g l) (h2 : TAt w g2 l) :
    Calls Try.prog 14 #[.slice (some ⟨g, 0, none⟩) n c, .slice (some ⟨g2, 0, none⟩) n c2] w fun e w' => e = .returned (.int .i64 0) ∧ Below w.heap.size w w' := by
  have H0 : Hid (TAt w g l ∧ TAt w g2 l ∧ Below w.heap.size w w) := Lib.hid ⟨h, h2, Below.refl _ _⟩
  have HN := Lib.hid hn
  clear h h2 hn
  go_enter Try.func14, Try.ntmps14
  go_wp2_with fail
  go_loopw [13] (fun iv wr => ∃ k : Nat, k ≤ n ∧ iv = .int .i64 k ∧ Hid (TAt wr g l ∧ TAt wr g2 l ∧ Below w.heap.size w wr)) (fun iv _ => n - (intOf iv).toNat)
  case atStart => exact ⟨0, Nat.zero_le _, rfl, H0⟩
  case round =>
    obtain ⟨k, hk, rfl, HX⟩ := hrel
    by_cases hlt : k < n
    · have hkl : k < l.length := by have := HN.out; omega
      have d0 := HX.out.1.k k hkl
      have d1 := HX.out.1.t k hkl
      have d2 := HX.out.1.a k hkl
      have e0 := HX.out.2.1.k k hkl
      have e1 := HX.out.2.1.t k hkl
      have e2 := HX.out.2.1.a k hkl
      generalize (l[k].k : Int) = kk at *
      generalize (l[k].a : Int) = aa at *
      generalize (⟨l[k].t.toArray⟩ : ByteArray) = tt at *
      go_wp2_with fail
      go_quiet (fail)
      go_wp2_with fail
      go_roundw
      case rel => exact ⟨k + 1, by omega, by go_num, Lib.hid ⟨HX.out.1.drewN _, HX.out.2.1.drewN _, HX.out.2.2.trans ⟨rfl, rfl, rfl, Nat.le_refl _, fun _ _ => rfl⟩⟩⟩
      case measure => simp [intOf]; omega
    · obtain rfl : k = n := by omega
      have HB := Lib.hid HX.out.2.2
      clear HX
      go_wp2_with fail
      go_ret
      exact ⟨rfl, HB.out⟩
theorem print_nil (w : World) : Calls Try.prog 15 #[.slice none 0 0] w fun e w' => e = .returned (.string ⟨#[]⟩) ∧ Below w.heap.size w w' := by
  go_enter Try.func15, Try.ntmps15
  go_wp2_with fail
  go_loopw [3, 8] (fun tv iv wr => tv = .slice none 0 0 ∧ iv = .int .i64 0 ∧ Hid (Below w.heap.size w wr)) (fun _ _ _ => 0)
  case atStart => exact ⟨rfl, rfl, Lib.hid (Below.refl _ _)⟩
  case round =>
    obtain ⟨rfl, rfl, HB⟩ := hrel
    have hcv : (convert 47 9 (.slice none 0 0)).run Try.prog wr = .ok (.string ⟨#[]⟩) wr := row_conv (l := []) (World.ownsRow_nil wr w.heap.size 5 1)
    go_wp2_with fail
    go_ret
    exact ⟨rfl, HB.out⟩
theorem rprint_nil (w : World) : Calls Try.prog 16 #[.slice none 0 0] w fun e w' => e = .returned (.string ⟨#[]⟩) ∧ Below w.heap.size w w' := by
  go_enter Try.func16, Try.ntmps16
  go_wp2_with fail
  go_loopw [3, 8] (fun tv iv wr => tv = .string ⟨#[]⟩ ∧ iv = .int .i64 0 ∧ Hid (Below w.heap.size w wr)) (fun _ _ _ => 0)
  case atStart => exact ⟨rfl, rfl, Lib.hid (Below.refl _ _)⟩
  case round =>
    obtain ⟨rfl, rfl, HB⟩ := hrel
    go_wp2_with fail
    go_ret
    exact ⟨rfl, HB.out⟩
end Go.Proofs.Ytfmjajmdkndknaa
