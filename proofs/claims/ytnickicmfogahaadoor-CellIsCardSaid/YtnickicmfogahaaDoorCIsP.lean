/-
  scribelaw06.CellIs over the contracts of the functions it calls: the program's and the document's.
-/
import Derived.Test.YtnickicmfogahaaDoorCIsW
import Derived.Test.YtnickicmfogahaaDoorRef6W
namespace Go.Proofs.YtnickicmfogahaaDoor
open Go.RowKit

theorem text_len (a : Int) (ha : OkN a) : (textL a).length ≤ 40 := by
  unfold OkN at ha
  have hm : a.natAbs % 1000000 < 1000000 := Nat.mod_lt _ (by decide)
  unfold textL fracL
  have h1 := Lib.nDigits_le20 (a.natAbs / 1000000) (by omega)
  have h2 : (Lib.trimRightS (six (a.natAbs % 1000000)) [48]).length ≤ 6 := by
    obtain ⟨z, hz, _⟩ := trimR_split (six (a.natAbs % 1000000)) [48]
    have := congrArg List.length hz
    rw [six_len _ hm, List.length_append] at this; omega
  rw [List.length_append, List.length_append, Lib.decDigits_length]
  split <;> split <;> simp <;> omega
theorem cis_walk (k1 n1 : Int) (s01 : ByteArray) (k2 n2 : Int) (s02 : ByteArray) (h1 : s01.size ≤ maxLen) (h2 : s02.size ≤ maxLen) (w : World) (G : Gl w) :
    Calls Tryd.prog 3 #[cv k1 n1 s01, cv k2 n2 s02] w fun e w' => e = .returned (.bool true) ∧ Below w.heap.size w w' := by
  have hs1 := cutB_size s01 100
  have hs2 := cutB_size s02 100
  have C1 := Lib.hid fun W => lcut_any k1 n1 s01 W h1
  have C2 := Lib.hid fun W => lcut_any k2 n2 s02 W h2
  generalize cutB s01 100 = s1 at *
  generalize cutB s02 100 = s2 at *
  have L1 : s1.size ≤ 1000000 := by omega
  have L2 : s2.size ≤ 1000000 := by omega
  obtain ⟨g1, hg1, G1⟩ := good_c k1 n1 s1 L1
  obtain ⟨g2, hg2, G2⟩ := good_c k2 n2 s2 L2
  have e1 : goodR k1 n1 s1 = g1 := by rw [Bool.eq_iff_iff, goodR_iff, hg1]
  have e2 : goodR k2 n2 s2 = g2 := by rw [Bool.eq_iff_iff, goodR_iff, hg2]
  have R1 := fun W => rgood_any k1 n1 s1 W L1
  have R2 := fun W => rgood_any k2 n2 s2 W L2
  rw [e1] at R1
  rw [e2] at R2
  have q : (g1 && g2) = true → (k1 = 1 → OkN n1) ∧ (k2 = 1 → OkN n2) := fun h => by
    rw [Bool.and_eq_true] at h
    exact ⟨good_one (hg1.1 h.1), good_one (hg2.1 h.2)⟩
  have z1 : (g1 && g2) = true → (strC k1 n1 s1).size ≤ 100 := fun h => strC_size k1 n1 s1 (by omega) (q h).1 text_len
  have z2 : (g1 && g2) = true → (strC k2 n2 s2).size ≤ 100 := fun h => strC_size k2 n2 s2 (by omega) (q h).2 text_len
  exact cis_in k1 n1 k2 n2 s01 s1 s02 s2 g1 g2 (numC k1 n1 s1) (compC k1 n1 s1 k2 n2 s2) (strC k1 n1 s1) (trueC k1 n1 s1) w (Lib.hid G) (Lib.hid fun W G => cawake_any W G) C1 C2 (Lib.hid G1) (Lib.hid G2) (Lib.hid R1) (Lib.hid R2)
    (fun _ => Lib.hid fun W => cnum_any k1 n1 s1 W L1) (fun _ => Lib.hid fun W => rnum_any k1 n1 s1 W L1)
    (fun h => Lib.hid fun W G => cstr_any k1 n1 s1 W (q h).1 (by have := z1 h; omega) G) (fun h => Lib.hid fun W => rstr_any k1 n1 s1 W (q h).1)
    (fun _ => Lib.hid fun W => ctrue_any k1 n1 s1 W) (fun _ => Lib.hid fun W => rtrue_any k1 n1 s1 W L1)
    (fun h => Lib.hid fun W G => comp_any k1 n1 s1 k2 n2 s2 W (q h).1 (q h).2 G) (fun h => Lib.hid fun W => rcomp_any k1 n1 s1 k2 n2 s2 W (q h).1 (q h).2 (by have := z1 h; omega) (by have := z2 h; omega))
end Go.Proofs.YtnickicmfogahaaDoor
