/-
  CONTRACT of layer 8's Put.
-/
import Derived.Test.YtjnhaglcigpknaaDoorArW7
import Derived.Test.YtjnhaglcigpknaaDoorPkWr
namespace Go.Proofs.YtjnhaglcigpknaaDoor
open Go.RowKit Go.Maps

theorem Wr.kept {w w' : World} {b B : Nat} {l : List UInt8} (h : Wr w b B l) (hb : Below w.heap.size w w') : Wr w' b B l := by
  obtain ⟨v, hc, hf, hown, hbB, hB⟩ := h
  refine ⟨v, (hb.cell (p := ⟨b, 0, none⟩) (by exact Nat.lt_of_lt_of_le hbB hB)).trans hc, (hb.frozen (p := ⟨b, 0, none⟩) (by exact Nat.lt_of_lt_of_le hbB hB)).trans hf, ⟨hown.1, ?_⟩, hbB, Nat.le_trans hB hb.size⟩
  rcases hown.2 with h2 | ⟨g, cap, cur, hv, hg, hh, r⟩
  · exact Or.inl h2
  · exact Or.inr ⟨g, cap, cur, hv, hg, by rw [hb.block g (Array.getElem?_eq_some_iff.1 hh).1]; exact hh, r⟩
theorem Wr.new (w : World) : Wr (w.alloc (.cells #[.slice none 0 0] 27)) w.heap.size (w.heap.size + 1) [] :=
  ⟨.slice none 0 0, by simp [go_sem], by simp [go_sem], ⟨by simp [Lib.byteCells], Or.inl ⟨rfl, rfl⟩⟩, by omega, by simp⟩
theorem WFr.ofBelow {b B : Nat} {w w' : World} (h : Below w.heap.size w w') (hB : B ≤ w.heap.size) : WFr b B w w' :=
  ⟨h.os, h.tape, h.output, h.size, fun k hk _ => h.block k (by omega), fun k o h1 _ _ => (h.block k (by
    rcases Nat.lt_or_ge k w.heap.size with h2 | h2
    · exact h2
    · rw [Array.getElem?_eq_none h2] at h1; cases h1)).trans h1⟩
theorem Wr.le {w : World} {b B : Nat} {l : List UInt8} (h : Wr w b B l) : b < B ∧ B ≤ w.heap.size := by
  obtain ⟨v, _, _, _, hb, hB⟩ := h
  exact ⟨hb, hB⟩
theorem Tryd.tab_b {B : Nat} {w w1 : World} {b : Nat} (htab : Lib.TabBelow Tryd.prog b w "internal/strconv.uint64pow10" .u64 Lib.pow10Tab) (hb : Below B w w1) (hB : b ≤ B) : Lib.TabBelow Tryd.prog b w1 "internal/strconv.uint64pow10" .u64 Lib.pow10Tab :=
  fun w' h' => htab w' ((hb.mono hB).trans h')
/-- What lies in a block of another kind stays. -/
theorem WFr.other {b B : Nat} {w w' : World} {cs : Array Value} (h : WFr b B (w.alloc (.cells cs 46)) w') (hb : b < w.heap.size) (j : Nat) : w'.cell? ⟨w.heap.size, j, none⟩ = (w.alloc (.cells cs 46)).cell? ⟨w.heap.size, j, none⟩ := by
  have e0 := (MapKept.heap_alloc w (.cells cs 46)).1
  have e := h.others _ _ e0 (by intro h2; injection h2; omega) (fun c fz h2 => by cases h2)
  exact World.cell?_of_block (e.trans e0.symm)
def pI (n : Int) : List UInt8 := [105] ++ Lib.itoa n ++ [59]
def pT (s : ByteArray) : List UInt8 := Lib.itoa (s.size : Int) ++ [58] ++ s.data.toList
/-- A value's bytes. -/
def encC (t : Ce) : List UInt8 := pI t.k ++ (if t.k = 1 then pI t.n else if t.k = 2 ∨ t.k = 3 then pT t.s else [])
theorem pI_len (n : Int) (h0 : -9223372036854775808 ≤ n) (h1 : n ≤ 9223372036854775807) : (pI n).length ≤ 23 := by
  have := itoa_len n h0 h1
  simp [pI]; omega

set_option maxHeartbeats 2000000 in
theorem aput_any (b B : Nat) (l : List UInt8) (t : Ce) (w : World) (h : Wr w b B l) (hl : l.length ≤ 1000000000) (hz : t.s.size ≤ 1000000) (hk0 : -9223372036854775808 ≤ t.k) (hk1 : t.k ≤ 9223372036854775807) (h0 : -9223372036854775808 ≤ t.n) (h1 : t.n ≤ 9223372036854775807) (htab : Lib.TabBelow Tryd.prog b w "internal/strconv.uint64pow10" .u64 Lib.pow10Tab) :
    Calls Tryd.prog 20 #[.pointer (some ⟨b, 0, none⟩), .agg #[.int .i64 t.k, .int .i64 t.n, .string t.s]] w fun e w' => e = .returned (.tuple #[]) ∧ Wr w' b B (l ++ encC t) ∧ WFr b B w w' := by
  obtain ⟨k, n, s⟩ := t
  simp only at hz hk0 hk1 h0 h1 ⊢
  obtain ⟨hb, hB⟩ := h.le
  have hba : Below w.heap.size w (w.alloc (.cells #[.int .i64 k, .int .i64 n, .string s] 46)) := (Below.refl _ _).alloc (Nat.le_refl _) _
  have hW := h.kept hba
  have hF : WFr b B w (w.alloc (.cells #[.int .i64 k, .int .i64 n, .string s] 46)) := WFr.ofBelow hba hB
  have HTB := Lib.hid (Tryd.tab_b htab hba (by omega))
  have HX := Lib.hid (fun (w1 : World) (h : WFr b B (w.alloc (.cells #[.int .i64 k, .int .i64 n, .string s] 46)) w1) => And.intro (show w1.cell? ⟨w.heap.size, 0, none⟩ = some (.int .i64 k) by rw [h.other (by omega)]; simp [go_sem]) (And.intro (show w1.cell? ⟨w.heap.size, 1, none⟩ = some (.int .i64 n) by rw [h.other (by omega)]; simp [go_sem]) (show w1.cell? ⟨w.heap.size, 2, none⟩ = some (.string s) by rw [h.other (by omega)]; simp [go_sem])))
  have HTF := Lib.hid (fun (w1 : World) (h : WFr b B (w.alloc (.cells #[.int .i64 k, .int .i64 n, .string s] 46)) w1) => Tryd.tab_b HTB.out (h.below hb) (Nat.le_refl _))
  have hlk := pI_len k hk0 hk1
  have hx0 : (w.alloc (.cells #[.int .i64 k, .int .i64 n, .string s] 46)).cell? ⟨w.heap.size, 0, none⟩ = some (.int .i64 k) := by simp [go_sem]
  clear htab h hba
  go_enter Tryd.func20, Tryd.ntmps20
  go_wp2_with fail
  generalize hWW : w.alloc (.cells #[.int .i64 k, .int .i64 n, .string s] 46) = W1 at *
  refine (wint_any _ _ _ k _ hW (by omega) hk0 hk1 HTB.out).mono ?_
  rintro e w1 ⟨rfl, hw1, hf1⟩
  obtain ⟨x0, x1, x2⟩ := HX.out _ hf1
  have hw1' : Wr w1 b B (l ++ pI k) := by simpa [pI, List.append_assoc] using hw1
  have HT1 := Lib.hid (HTF.out _ hf1)
  have hF1 := hF.trans hf1
  clear hw1 hf1 hW hF HX HTB HTF hx0 hWW
  by_cases k1 : k = 1
  · subst k1
    have E1 := Lib.hid (show encC ⟨1, n, s⟩ = pI 1 ++ pI n from rfl)
    go_wp2_with fail
    refine (wint_any _ _ _ n _ hw1' (by simp; omega) h0 h1 HT1.out).mono ?_
    rintro e w2 ⟨rfl, hw2, hf2⟩
    have hw2' : Wr w2 b B (l ++ (pI 1 ++ pI n)) := by simpa [pI, List.append_assoc] using hw2
    have hF2 := hF1.trans hf2
    clear hw2 hf2 hF1 hw1'
    go_wp2_with fail
    go_end0
    exact ⟨rfl, by rw [E1.out]; exact hw2', hF2⟩
  · by_cases k2 : k = 2
    · subst k2
      have E1 := Lib.hid (show encC ⟨2, n, s⟩ = pI 2 ++ pT s from rfl)
      go_wp2_with fail
      refine (wtext_any _ _ _ s _ hw1' (by simp; omega) HT1.out).mono ?_
      rintro e w2 ⟨rfl, hw2, hf2⟩
      have hw2' : Wr w2 b B (l ++ (pI 2 ++ pT s)) := by simpa [pT, List.append_assoc] using hw2
      have hF2 := hF1.trans hf2
      clear hw2 hf2 hF1 hw1'
      go_wp2_with fail
      go_end0
      exact ⟨rfl, by rw [E1.out]; exact hw2', hF2⟩
    · by_cases k3 : k = 3
      · subst k3
        have E1 := Lib.hid (show encC ⟨3, n, s⟩ = pI 3 ++ pT s from rfl)
        go_wp2_with fail
        refine (wtext_any _ _ _ s _ hw1' (by simp; omega) HT1.out).mono ?_
        rintro e w2 ⟨rfl, hw2, hf2⟩
        have hw2' : Wr w2 b B (l ++ (pI 3 ++ pT s)) := by simpa [pT, List.append_assoc] using hw2
        have hF2 := hF1.trans hf2
        clear hw2 hf2 hF1 hw1'
        go_wp2_with fail
        go_end0
        exact ⟨rfl, by rw [E1.out]; exact hw2', hF2⟩
      · have E1 := Lib.hid (show encC ⟨k, n, s⟩ = pI k by simp [encC, k1, k2, k3])
        go_wp2_with fail
        go_end0
        exact ⟨rfl, by rw [E1.out]; exact hw1', hF1⟩
end Go.Proofs.YtjnhaglcigpknaaDoor
