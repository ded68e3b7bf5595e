/-
  CONTRACT of the laws' own awake of layer 8.
-/
import Derived.Test.YtjnhaglcigpknaaDoorArW8
namespace Go.Proofs.YtjnhaglcigpknaaDoor
open Go.RowKit Go.Maps

abbrev kA : ByteArray := ⟨#[97]⟩
abbrev kB : ByteArray := ⟨#[98]⟩
abbrev kC : ByteArray := ⟨#[99]⟩
theorem put1 (a : Ce) : putP [] kB a = [(kB, a)] := by simp [putP]
theorem put2 (a b : Ce) : putP [(kB, a)] kA b = [(kB, a), (kA, b)] := by simp [putP]
theorem put3' (a b c : Ce) : putP [(kB, a), (kA, b)] kC c = [(kB, a), (kA, b), (kC, c)] := by simp [putP]
theorem del4 (a b c : Ce) : delP [(kB, a), (kA, b), (kC, c)] kB = [(kA, b), (kC, c)] := by simp [delP]
theorem put5 (a b c : Ce) : putP [(kA, b), (kC, c)] kB a = [(kA, b), (kC, c), (kB, a)] := by simp [putP]
theorem enc6 : encC ⟨1, 1500000, ⟨#[]⟩⟩ = [105, 49, 59, 105, 49, 53, 48, 48, 48, 48, 48, 59] := by decide +kernel
set_option maxHeartbeats 4000000 in
set_option maxRecDepth 100000 in
theorem aawake_any (w : World) (htab : Lib.TabBelow Tryd.prog w.heap.size w "internal/strconv.uint64pow10" .u64 Lib.pow10Tab) :
    Calls Tryd.prog 11 #[] w fun e w' => e = .returned (.bool true) ∧ Below w.heap.size w w' := by
  have A0 := Lib.hid (AA.new w)
  have HT := Lib.hid htab
  have CI := Lib.hid fun (n : Int) W (hn : -9223372036854775808 ≤ n ∧ n ≤ 9223372036854775807) => cint_any n W hn
  clear htab
  go_enter Tryd.func11, Tryd.ntmps11
  go_wp2_with fail
  refine (CI.out 1 _ (by omega)).mono ?_
  rintro e w1 ⟨rfl, hb⟩
  have A1 := Lib.hid (A0.out.next hb)
  clear hb A0
  unfold cv
  obtain ⟨n1, hn⟩ : ∃ n1, n1 = clampI (1 * 1000000) := ⟨_, rfl⟩
  rw [← hn]
  clear hn
  go_wp2_with fail
  refine (A1.out.set kB (by decide) 1 n1 ⟨#[]⟩ (by decide) (by simp)).mono ?_
  rintro e w2 ⟨rfl, ha⟩
  rw [put1] at ha
  have A2 := Lib.hid ha
  clear ha A1
  go_wp2_with fail
  refine (CI.out 2 _ (by omega)).mono ?_
  rintro e w3 ⟨rfl, hb⟩
  have A3 := Lib.hid (A2.out.next hb)
  clear hb A2
  unfold cv
  obtain ⟨n3, hn⟩ : ∃ n3, n3 = clampI (2 * 1000000) := ⟨_, rfl⟩
  rw [← hn]
  clear hn
  go_wp2_with fail
  refine (A3.out.set kA (by decide) 1 n3 ⟨#[]⟩ (by decide) (by simp)).mono ?_
  rintro e w4 ⟨rfl, ha⟩
  rw [put2] at ha
  have A4 := Lib.hid ha
  clear ha A3
  go_wp2_with fail
  refine (A4.out.at kC (by decide) (by simp) (by simp; decide)).mono ?_
  rintro e w5 ⟨c, rfl, ha, _⟩
  rw [put3'] at ha
  have A5 := Lib.hid ha
  clear ha A4
  go_wp2_with fail
  refine (A5.out.delete kB (by decide)).mono ?_
  rintro e w6 ⟨rfl, ha⟩
  rw [del4] at ha
  have A6 := Lib.hid ha
  clear ha A5
  go_wp2_with fail
  refine (CI.out 3 _ (by omega)).mono ?_
  rintro e w7 ⟨rfl, hb⟩
  have A7 := Lib.hid (A6.out.next hb)
  clear hb A6
  unfold cv
  obtain ⟨n7, hn⟩ : ∃ n7, n7 = clampI (3 * 1000000) := ⟨_, rfl⟩
  rw [← hn]
  clear hn
  go_wp2_with fail
  refine (A7.out.set kB (by decide) 1 n7 ⟨#[]⟩ (by decide) (by simp)).mono ?_
  rintro e w8 ⟨rfl, ha⟩
  rw [put5] at ha
  have A8 := Lib.hid ha
  clear ha A7
  go_wp2_with fail
  refine (A8.out.keys (by simp; decide)).mono ?_
  rintro e w9 ⟨v, rfl, hro, hb⟩
  have A9 := Lib.hid (A8.out.next hb)
  obtain ⟨g, cap, rfl⟩ := row_pos hro (by simp)
  clear hb A8
  have hro' : w9.ownsRow w8.heap.size 9 1 (.slice (some ⟨g, 0, none⟩) 3 cap) 3 [.string kA, .string kC, .string kB] := hro
  have c0 := hro'.cellAt 0 (by omega)
  have c1 := hro'.cellAt 1 (by omega)
  have c2 := hro'.cellAt 2 (by omega)
  have hg := World.block_lt_of_cell? _ _ c0
  simp only [List.map_cons, List.map_nil, List.length_cons, List.length_nil, List.getElem?_cons_zero, List.getElem?_cons_succ, Nat.zero_add, Nat.reduceAdd] at c0 c1 c2 hg ⊢
  clear hro hro'
  have CR := Lib.hid (And.intro c0 (And.intro c1 c2))
  have HG := Lib.hid hg
  have W0 := Lib.hid (Wr.new w9)
  have B0 : Hid (Below w9.heap.size w9 (w9.alloc (.cells #[.slice none 0 0] 27))) := Lib.hid ((Below.refl _ _).alloc (Nat.le_refl _) _)
  clear c0 c1 c2 hg
  go_wp2_with fail
  refine (of_any 1500000 _).mono ?_
  rintro e x1 ⟨rfl, hb⟩
  have W1 := Lib.hid (W0.out.kept hb)
  have B1 := Lib.hid (B0.out.trans (hb.mono B0.out.size))
  clear hb W0 B0
  unfold cv
  go_wp2_with fail
  refine (aput_any _ _ _ ⟨1, 1500000, ⟨#[]⟩⟩ _ W1.out (by simp) (by decide) (by decide) (by decide) (by decide) (by decide) (fun w' h' => HT.out w' ((A9.out.bel.trans (B1.out.mono A9.out.bel.size)).trans (h'.mono A9.out.bel.size)))).mono ?_
  rintro e x2 ⟨rfl, hw2, hf2⟩
  rw [enc6] at hw2
  have W2 := Lib.hid hw2
  have B2 := Lib.hid (B1.out.trans (hf2.below (by omega)))
  clear hw2 hf2 W1 B1
  have c0 := (B2.out.cell (p := ⟨g, 0, none⟩) HG.out).trans CR.out.1
  have c1 := (B2.out.cell (p := ⟨g, 1, none⟩) HG.out).trans CR.out.2.1
  have c2 := (B2.out.cell (p := ⟨g, 2, none⟩) HG.out).trans CR.out.2.2
  go_wp2_with fail
  refine (wbytes_any _ _ _ _ W2.out).mono ?_
  rintro e x3 ⟨rfl, rfl⟩
  have hb := A9.out.bel.trans (B2.out.mono A9.out.bel.size)
  go_wp2_with fail
  go_ret
  exact ⟨rfl, hb⟩
end Go.Proofs.YtjnhaglcigpknaaDoor
