/-
  READING BACK, a thing at a time: from the place behind the first m things to that behind the next.
-/
import Derived.Test.YtjcnlkbmigemhaaDoorBackW1
namespace Go.Proofs.YtjcnlkbmigemhaaDoor
open Go.RowKit

theorem encs_split {ins : List Th} {m : Nat} (h : m < ins.length) : encs ins = encs (ins.take m) ++ (ins[m].enc ++ encs (ins.drop (m + 1))) := by
  have e : ins = ins.take m ++ ins[m] :: ins.drop (m + 1) := by simp
  have e2 : encs ins = encs (ins.take m ++ ins[m] :: ins.drop (m + 1)) := congrArg encs e
  rw [e2]
  unfold encs
  rw [List.flatMap_append, List.flatMap_cons]
theorem at_thing {s : ByteArray} {ins : List Th} {R : List UInt8} {m : Nat} (hs : s.data.toList = encs ins ++ R) (h : m < ins.length) : At s (encs (ins.take m)).length (ins[m].enc ++ (encs (ins.drop (m + 1)) ++ R)) := by
  have h0 : At s 0 (encs (ins.take m) ++ (ins[m].enc ++ (encs (ins.drop (m + 1)) ++ R))) := by
    unfold At
    rw [List.drop_zero, hs, encs_split h]; simp
  have := h0.tail
  rwa [Nat.zero_add] at this
theorem at_rest {s : ByteArray} {ins : List Th} {R : List UInt8} (hs : s.data.toList = encs ins ++ R) : At s (encs ins).length R := by
  have h0 : At s 0 (encs ins ++ R) := by unfold At; rw [List.drop_zero, hs]
  have := h0.tail
  rwa [Nat.zero_add] at this
/-- Where the Reader stands behind m things, and how deep. -/
def posM (ins : List Th) (m : Nat) : Nat := (encs (ins.take m)).length
def depM (ins : List Th) (m : Nat) : Nat := (dep (ins.take m)).toNat
theorem posM_succ {ins : List Th} {m : Nat} (h : m < ins.length) : posM ins (m + 1) = posM ins m + ins[m].enc.length := by
  unfold posM; rw [encs_snoc h, List.length_append]
theorem depM_succ {ins : List Th} {m : Nat} (hg : Good ins) (h : m < ins.length) : (depM ins (m + 1) : Int) = depM ins m + ins[m].dlt := by
  have h1 := hg.deep m (by omega)
  have h2 := hg.deep (m + 1) (by omega)
  unfold depM
  rw [List.take_succ_eq_append_getElem h, dep_snoc] at h2 ⊢
  omega
theorem posM_le {s : ByteArray} {ins : List Th} {R : List UInt8} {m : Nat} (hs : s.data.toList = encs ins ++ R) (_h : m ≤ ins.length) : posM ins m ≤ s.size := by
  have h1 := congrArg List.length hs
  have h2 : encs ins = encs (ins.take m) ++ encs (ins.drop m) := by
    conv => lhs; rw [← List.take_append_drop m ins]
    unfold encs; rw [List.flatMap_append]
  have h3 := congrArg List.length h2
  simp at h1 h3
  unfold posM; omega
theorem depM_le {ins : List Th} {m : Nat} (hg : Good ins) (h : m ≤ ins.length) : depM ins m ≤ m := by
  have := hg.deep m h
  unfold depM; omega

section
variable {w : World} {b m : Nat} {s : ByteArray} {ins : List Th} {R : List UInt8} {n : Int} {st : ByteArray}
theorem rd_int (h : Rd w b s (posM ins m) (depM ins m) 0) (hs : s.data.toList = encs ins ++ R) (hg : Good ins) (hm : m < ins.length) (hz : s.size ≤ 100000) (e : ins[m] = ⟨1, n, st⟩) :
    Calls Tryd.prog 16 #[.pointer (some ⟨b, 0, none⟩)] w fun e w' => e = .returned (.int .i64 n) ∧ RdPost b s (posM ins (m + 1)) (depM ins (m + 1)) 0 w w' := by
  have ha := at_thing hs hm
  have hp := posM_succ hm
  have hd := depM_succ hg hm
  have hk := (hg.kind _ (List.getElem_mem hm)).2.2
  rw [e] at ha hp hd hk
  have hd' : depM ins (m + 1) = depM ins m := by simp [Th.dlt] at hd; omega
  have hr := int_read (i := posM ins m) ha hk.1 hk.2.1
  have := int_any b s (posM ins m) (depM ins m) 0 w h (posM_le hs (by omega)) (by unfold maxLen; omega)
  rw [hr] at this
  rw [hp, hd']
  exact this
theorem rd_text (h : Rd w b s (posM ins m) (depM ins m) 0) (hs : s.data.toList = encs ins ++ R) (hg : Good ins) (hm : m < ins.length) (hz : s.size ≤ 100000) (e : ins[m] = ⟨2, n, st⟩) (most : Nat) (hmo : st.size ≤ most) :
    Calls Tryd.prog 17 #[.pointer (some ⟨b, 0, none⟩), .int .i64 most] w fun e w' => e = .returned (.string st) ∧ RdPost b s (posM ins (m + 1)) (depM ins (m + 1)) 0 w w' := by
  have ha := at_thing hs hm
  have hp := posM_succ hm
  have hd := depM_succ hg hm
  have hk := (hg.kind _ (List.getElem_mem hm)).2.2
  rw [e] at ha hp hd hk
  have hd' : depM ins (m + 1) = depM ins m := by simp [Th.dlt] at hd; omega
  have hr := text_read (i := posM ins m) (t := st) ha hmo (by have := hk.2.2; simp at this; omega)
  have := Text_any b s (posM ins m) (depM ins m) 0 most w h (posM_le hs (by omega)) (by omega)
  rw [hr] at this
  rw [hp, hd']
  exact this
theorem rd_open (h : Rd w b s (posM ins m) (depM ins m) 0) (hs : s.data.toList = encs ins ++ R) (hg : Good ins) (hm : m < ins.length) (h40 : ins.length ≤ 40) (hz : s.size ≤ 100000) (e : ins[m] = ⟨3, n, st⟩) :
    Calls Tryd.prog 40 #[.pointer (some ⟨b, 0, none⟩)] w fun e w' => e = .returned (.tuple #[]) ∧ RdPost b s (posM ins (m + 1)) (depM ins (m + 1)) 0 w w' := by
  have ha := at_thing hs hm
  have hp := posM_succ hm
  have hd := depM_succ hg hm
  have hl := depM_le hg (m := m) (by omega)
  rw [e] at ha hp hd
  have hd' : depM ins (m + 1) = depM ins m + 1 := by simp [Th.dlt] at hd; omega
  obtain ⟨r1, r2, r3⟩ := open_read (i := posM ins m) (j := depM ins m) ha (by omega)
  have := ropen_any b s (posM ins m) (depM ins m) 0 w h (posM_le hs (by omega)) (by omega) (by unfold maxLen; omega)
  rw [r1, r2, r3] at this
  rw [hp, hd']
  exact this
theorem rd_close (h : Rd w b s (posM ins m) (depM ins m) 0) (hs : s.data.toList = encs ins ++ R) (hg : Good ins) (hm : m < ins.length) (h40 : ins.length ≤ 40) (hz : s.size ≤ 100000) (e : ins[m] = ⟨4, n, st⟩) :
    Calls Tryd.prog 42 #[.pointer (some ⟨b, 0, none⟩)] w fun e w' => e = .returned (.tuple #[]) ∧ RdPost b s (posM ins (m + 1)) (depM ins (m + 1)) 0 w w' := by
  have ha := at_thing hs hm
  have hp := posM_succ hm
  have hd := depM_succ hg hm
  have hl := depM_le hg (m := m) (by omega)
  rw [e] at ha hp hd
  have hd' : depM ins (m + 1) = depM ins m - 1 ∧ 0 < depM ins m := by simp [Th.dlt] at hd; omega
  obtain ⟨r1, r2, r3⟩ := close_read (i := posM ins m) (j := depM ins m) ha hd'.2
  have := rclose_any b s (posM ins m) (depM ins m) 0 w h (posM_le hs (by omega)) (by omega) (by unfold maxLen; omega)
  rw [r1, r2, r3] at this
  rw [hp, hd'.1]
  exact this
theorem rd_end {i j : Nat} (h : Rd w b s ((encs ins).length + i) (j - i) 0) (hs : s.data.toList = encs ins ++ List.replicate j 41) (hi : i < j) (hj : j ≤ 60) (hz : s.size ≤ 100000) :
    Calls Tryd.prog 42 #[.pointer (some ⟨b, 0, none⟩)] w fun e w' => e = .returned (.tuple #[]) ∧ RdPost b s ((encs ins).length + (i + 1)) (j - (i + 1)) 0 w w' := by
  have h0 := at_rest hs
  have e : List.replicate j (41 : UInt8) = List.replicate i 41 ++ 41 :: List.replicate (j - i - 1) 41 := by
    rw [← List.replicate_succ, List.replicate_append_replicate, show i + (j - i - 1 + 1) = j from by omega]
  rw [e] at h0
  have ha := h0.tail
  rw [List.length_replicate] at ha
  obtain ⟨r1, r2, r3⟩ := close_read (j := j - i) ha (by omega)
  obtain ⟨hlt, _⟩ := ha.lt
  have := rclose_any b s ((encs ins).length + i) (j - i) 0 w h (by omega) (by omega) (by unfold maxLen; omega)
  rw [r1, r2, r3] at this
  rw [show (encs ins).length + (i + 1) = (encs ins).length + i + 1 from by omega, show j - (i + 1) = j - i - 1 from by omega]
  exact this
end
end Go.Proofs.YtjcnlkbmigemhaaDoor
