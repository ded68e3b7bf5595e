/-
  A THING WRITTEN: its bytes, and the contract of 'put'.
-/
import Derived.Test.YtjcnlkbmigemhaaDoorFew
namespace Go.Proofs.YtjcnlkbmigemhaaDoor
open Go.RowKit

/-- A thing's bytes. -/
def Th.enc (t : Th) : List UInt8 := if t.k = 1 then intL t.n else if t.k = 2 then textL t.s.data.toList else if t.k = 3 then [40] else if t.k = 4 then [41] else []
theorem WFr.ofBelow {b B : Nat} {w w' : World} (h : Below w.heap.size w w') (hB : B ≤ w.heap.size) : WFr b B w w' :=
  ⟨h.os, h.tape, h.output, h.size, fun k hk _ => h.block k (by omega), fun k o h1 _ _ => (h.block k (by
    rcases Nat.lt_or_ge k w.heap.size with h2 | h2
    · exact h2
    · rw [Array.getElem?_eq_none h2] at h1; cases h1)).trans h1⟩
theorem Wr.le {w : World} {b B : Nat} {l : List UInt8} (h : Wr w b B l) : b < B ∧ B ≤ w.heap.size := by
  obtain ⟨v, _, _, _, hb, hB⟩ := h
  exact ⟨hb, hB⟩
theorem Tryd.tab_b {B : Nat} {w w1 : World} {b : Nat} (htab : Lib.TabBelow Tryd.prog b w "internal/strconv.uint64pow10" .u64 Lib.pow10Tab) (hb : Below B w w1) (hB : b ≤ B) : Lib.TabBelow Tryd.prog b w1 "internal/strconv.uint64pow10" .u64 Lib.pow10Tab :=
  fun w' h' => htab w' ((hb.mono hB).trans h')

/-- What lies in a block of another kind stays. -/
theorem WFr.other {b B : Nat} {w w' : World} {cs : Array Value} (h : WFr b B (w.alloc (.cells cs 39)) w') (hb : b < w.heap.size) (j : Nat) : w'.cell? ⟨w.heap.size, j, none⟩ = (w.alloc (.cells cs 39)).cell? ⟨w.heap.size, j, none⟩ := by
  have e0 := (MapKept.heap_alloc w (.cells cs 39)).1
  have e := h.others _ _ e0 (by intro h2; injection h2; omega) (fun c fz h2 => by cases h2)
  exact World.cell?_of_block (e.trans e0.symm)

set_option maxHeartbeats 2000000 in
theorem put_any (b B : Nat) (l : List UInt8) (t : Th) (w : World) (h : Wr w b B l) (hl : l.length + 200 ≤ 100000) (hz : t.s.size ≤ 200) (h0 : -9223372036854775808 ≤ t.n) (h1 : t.n ≤ 9223372036854775807) (htab : Lib.TabBelow Tryd.prog b w "internal/strconv.uint64pow10" .u64 Lib.pow10Tab) :
    Calls Tryd.prog 13 #[.pointer (some ⟨b, 0, none⟩), .agg #[.int .i64 t.k, .int .i64 t.n, .string t.s]] w fun e w' => e = .returned (.string ⟨t.enc.toArray⟩) ∧ Wr w' b B (l ++ t.enc) ∧ WFr b B w w' := by
  obtain ⟨k, n, s⟩ := t
  simp only at hz h0 h1 ⊢
  obtain ⟨hb, hB⟩ := h.le
  have hba : Below w.heap.size w (w.alloc (.cells #[.int .i64 k, .int .i64 n, .string s] 39)) := (Below.refl _ _).alloc (Nat.le_refl _) _
  have hW := h.kept hba
  have hF : WFr b B w (w.alloc (.cells #[.int .i64 k, .int .i64 n, .string s] 39)) := WFr.ofBelow hba hB
  have HTB := Lib.hid (Tryd.tab_b htab hba (by omega))
  have HX := Lib.hid (fun (w1 : World) (h : WFr b B (w.alloc (.cells #[.int .i64 k, .int .i64 n, .string s] 39)) w1) => And.intro (show w1.cell? ⟨w.heap.size, 1, none⟩ = some (.int .i64 n) by rw [h.other (by omega)]; simp [go_sem]) (show w1.cell? ⟨w.heap.size, 2, none⟩ = some (.string s) by rw [h.other (by omega)]; simp [go_sem]))
  have E1 := Lib.hid (show ∀ m, Th.enc ⟨1, m, s⟩ = intL m from fun m => rfl)
  have E2 := Lib.hid (show ∀ m, Th.enc ⟨2, m, s⟩ = textL s.data.toList from fun m => rfl)
  have RI := Lib.hid (fun w => refint_any n w h0 h1)
  have RT := Lib.hid (fun w => reftext_any s w (by omega))
  clear htab h
  by_cases k1 : k = 1
  · subst k1
    rw [E1.out]
    clear RT E2
    go_enter Tryd.func13, Tryd.ntmps13
    go_wp2_with fail
    refine (wint_any _ _ _ n _ hW (by omega) h0 h1 HTB.out).mono ?_
    rintro e w1 ⟨rfl, hw1, hf1⟩
    obtain ⟨x1, x2⟩ := HX.out _ hf1
    go_wp2_with fail
    refine (RI.out _).mono ?_
    rintro e w2 ⟨rfl, hb2⟩
    have hw2 := hw1.kept hb2
    have hF2 := (hF.trans hf1).trans (WFr.ofBelow hb2 hw1.le.2)
    go_wp2_with fail
    go_ret
    exact ⟨rfl, by simpa [intL, List.append_assoc] using hw2, hF2⟩
  · by_cases k2 : k = 2
    · subst k2
      rw [E2.out]
      clear RI E1
      have hy : w.heap.size = w.heap.size := rfl
      have hx2 : (w.alloc (.cells #[.int .i64 2, .int .i64 n, .string s] 39)).cell? ⟨w.heap.size, 2, none⟩ = some (.string s) := by simp [go_sem]
      go_enter Tryd.func13, Tryd.ntmps13
      go_wp2_with fail
      refine (wtext_any _ _ _ s _ hW (by omega) HTB.out).mono ?_
      rintro e w1 ⟨rfl, hw1, hf1⟩
      obtain ⟨x1, x2⟩ := HX.out _ hf1
      go_wp2_with fail
      refine (RT.out _).mono ?_
      rintro e w2 ⟨rfl, hb2⟩
      have hw2 := hw1.kept hb2
      have hF2 := (hF.trans hf1).trans (WFr.ofBelow hb2 hw1.le.2)
      go_wp2_with fail
      go_ret
      exact ⟨rfl, by simpa [textL, List.append_assoc] using hw2, hF2⟩
    · by_cases k3 : k = 3
      · subst k3
        have e3 : Th.enc ⟨3, n, s⟩ = [40] := rfl
        rw [e3]
        clear e3
        go_enter Tryd.func13, Tryd.ntmps13
        go_wp2_with fail
        refine (wopen_any _ _ _ _ hW (by omega)).mono ?_
        rintro e w1 ⟨rfl, hw1, hf1⟩
        go_wp2_with fail
        go_ret
        exact ⟨rfl, hw1, hF.trans hf1⟩
      · by_cases k4 : k = 4
        · subst k4
          have e4 : Th.enc ⟨4, n, s⟩ = [41] := rfl
          rw [e4]
          clear e4
          go_enter Tryd.func13, Tryd.ntmps13
          go_wp2_with fail
          refine (wclose_any _ _ _ _ hW (by omega)).mono ?_
          rintro e w1 ⟨rfl, hw1, hf1⟩
          go_wp2_with fail
          go_ret
          exact ⟨rfl, hw1, hF.trans hf1⟩
        · have e5 : Th.enc ⟨k, n, s⟩ = [] := by unfold Th.enc; simp [k1, k2, k3, k4]
          rw [e5, List.append_nil]
          clear e5
          go_enter Tryd.func13, Tryd.ntmps13
          go_wp2_with fail
          go_ret
          exact ⟨rfl, hW, hF⟩
end Go.Proofs.YtjcnlkbmigemhaaDoor
