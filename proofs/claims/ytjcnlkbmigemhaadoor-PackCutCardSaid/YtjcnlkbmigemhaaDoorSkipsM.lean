/-
  PLAIN MATHEMATICS: what is skipped is what would be taken.
-/
import Derived.Test.YtjcnlkbmigemhaaDoorBackR
namespace Go.Proofs.YtjcnlkbmigemhaaDoor
open Go.RowKit

theorem sk_int {s : ByteArray} {i j f : Nat} {n : Int} {R : List UInt8} (h : At s i (intL n ++ R)) (h0 : -9223372036854775808 ≤ n) (h1 : n ≤ 9223372036854775807) : skP s (f + 1) false (i, j, 0) = (i + (intL n).length, j, 0) := by
  have ha : At s i (105 :: (Lib.itoa n ++ 59 :: R)) := by simpa [intL] using h
  have hs : stB s i 105 = true := by rw [At.stB ha]; rfl
  have e := int_read h h0 h1
  rw [skP]
  simp only
  rw [if_pos hs, e]
theorem sk_text {s t : ByteArray} {i j f : Nat} {R : List UInt8} (h : At s i (textL t.data.toList ++ R)) (hz : t.size ≤ 100000) : skP s (f + 1) false (i, j, 0) = (i + (textL t.data.toList).length, j, 0) := by
  have hL : textL t.data.toList = Lib.decDigits t.size ++ 58 :: t.data.toList := by
    have e : t.data.toList.length = t.size := by simp
    unfold textL; rw [e, Lib.itoa_nonneg]; simp
  obtain ⟨d, l, e, hd, _⟩ := decDigits_head t.size
  have h3 : At s i (UInt8.ofNat (48 + d) :: (l ++ 58 :: t.data.toList ++ R)) := by rw [hL, e] at h; simpa using h
  have hs1 : ¬ stB s i 105 = true := by rw [At.stB h3, digit_nat hd]; simp; omega
  have hs2 : ¬ stB s i 40 = true := by rw [At.stB h3, digit_nat hd]; simp; omega
  have hle : t.size ≤ s.size := by
    have h4 := h.len (by rw [hL]; simp)
    rw [hL] at h4
    simp at h4; omega
  have er := text_read h hle hz
  rw [skP]
  simp only
  rw [if_neg hs1, if_neg hs2, er]
theorem encs_snoc1 (l : List Th) (t : Th) : encs (l ++ [t]) = encs l ++ t.enc := by simp [encs]
/-- Numbers and texts. -/
def Plain (l : List Th) : Prop := ∀ t ∈ l, (t.k = 1 ∨ t.k = 2) ∧ t.small
theorem Plain.dep {l : List Th} (h : Plain l) : dep l = 0 := by
  induction l with
  | nil => rfl
  | cons t l ih =>
    have h1 := (h t (by simp)).1
    have h2 := ih (fun u hu => h u (by simp [hu]))
    have h3 : t.dlt = 0 := by unfold Th.dlt; rw [if_neg (by omega), if_neg (by omega)]
    unfold Proofs.YtjcnlkbmigemhaaDoor.dep at h2 ⊢
    simp [h3, h2]
theorem Plain.good {l : List Th} (h : Plain l) : Good l :=
  ⟨fun t ht => ⟨by have := (h t ht).1; omega, by have := (h t ht).1; omega, (h t ht).2⟩, fun m _ => by
    rw [Plain.dep (fun t ht => h t (List.mem_of_mem_take ht))]; omega⟩
theorem Plain.snoc {l : List Th} {t : Th} (h : Plain l) (h1 : t.k = 1 ∨ t.k = 2) (h2 : t.small) : Plain (l ++ [t]) := fun u hu => by
  rcases List.mem_append.1 hu with hu | hu
  · exact h u hu
  · obtain rfl : u = t := by simpa using hu
    exact ⟨h1, h2⟩
theorem rd_skip {w : World} {b m : Nat} {s : ByteArray} {ins : List Th} {R : List UInt8} (h : Rd w b s (posM ins m) (depM ins m) 0) (hs : s.data.toList = encs ins ++ R) (hp : Plain ins) (hm : m < ins.length) (hz : s.size ≤ 100000) :
    Calls Tryd.prog 20 #[.pointer (some ⟨b, 0, none⟩)] w fun e w' => e = .returned (.tuple #[]) ∧ RdPost b s (posM ins (m + 1)) (depM ins (m + 1)) 0 w w' := by
  have ha := at_thing hs hm
  have hps := posM_succ hm
  have hd := depM_succ hp.good hm
  obtain ⟨hk, hsm⟩ := hp _ (List.getElem_mem hm)
  have hdl : (ins[m]).dlt = 0 := by unfold Th.dlt; rw [if_neg (by omega), if_neg (by omega)]
  have hd' : depM ins (m + 1) = depM ins m := by omega
  have hd0 : depM ins m = 0 := by unfold depM; rw [Plain.dep (fun t ht => hp t (List.mem_of_mem_take ht))]; rfl
  have e : skP s (2 * s.size + 2) false (posM ins m, depM ins m, 0) = (posM ins (m + 1), depM ins m, 0) := by
    rw [hps]
    rcases hk with hk | hk
    · have e1 : ins[m].enc = intL ins[m].n := by unfold Th.enc; rw [if_pos hk]
      rw [e1] at ha ⊢
      exact sk_int (f := 2 * s.size + 1) ha hsm.1 hsm.2.1
    · have e1 : ins[m].enc = textL ins[m].s.data.toList := by unfold Th.enc; rw [if_neg (by omega), if_pos hk]
      rw [e1] at ha ⊢
      exact sk_text (f := 2 * s.size + 1) ha (by have := hsm.2.2; omega)
  have := skip_all s hz (2 * s.size + 2) (2 * s.size + 2) (Nat.le_refl _) b (posM ins m) (depM ins m) 0 w h (posM_le hs (by omega)) (by omega) (by unfold needS; rw [if_neg (by omega)]; omega)
  rw [e] at this
  rw [hd']
  exact this
end Go.Proofs.YtjcnlkbmigemhaaDoor
