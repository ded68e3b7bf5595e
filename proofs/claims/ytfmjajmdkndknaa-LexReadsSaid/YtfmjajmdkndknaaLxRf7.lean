/-
  CONTRACTS of layer 11's Print, of the document's own, and of same.
-/
import Derived.Test.YtfmjajmdkndknaaLxRf6
import Derived.Test.YtfmjajmdkndknaaLxLinesW
namespace Go.Proofs.Ytfmjajmdkndknaa
open Go.RowKit

def preT : List (List UInt8) := [[69, 78, 68], [78, 76], [110, 117, 109, 58], [115, 116, 114, 58], [114, 101, 58], [110, 97, 109, 101, 58], [102, 117, 110, 99, 58], [119, 111, 114, 100, 58], [115, 105, 103, 110, 58], [98, 117, 105, 108, 116, 105, 110, 58], [98, 97, 110, 110, 101, 100, 58]]
def preL (k : Nat) : List UInt8 := preT.getD k []
def printL (l : List Tok) : List UInt8 := l.flatMap (fun t => preL t.k ++ (t.t ++ [32]))
theorem printL_snoc (l : List Tok) (t : Tok) : printL (l ++ [t]) = printL l ++ (preL t.k ++ (t.t ++ [32])) := by unfold printL; simp
theorem preL_le (k : Nat) : (preL k).length ≤ 8 := by
  unfold preL
  by_cases h : k < preT.length
  · rw [List.getD_eq_getElem?_getD, List.getElem?_eq_getElem h]
    exact (show ∀ x ∈ preT, x.length ≤ 8 by decide) _ (List.getElem_mem h)
  · rw [List.getD_eq_getElem?_getD, List.getElem?_eq_none (by omega)]; simp
/-- What all tokens of Lex are like. -/
def FitT (t : Tok) : Prop := t.k ≤ 10 ∧ t.t.length ≤ 4000
theorem prefix_0 (w : World) : Calls Try.prog 20 #[.int .i64 0] w fun e w' => e = .returned (.string ⟨#[69, 78, 68]⟩) ∧ Below w.heap.size w w' := by
  have h1 : max (0 : Int) 0 = 0 := by decide
  have h2 : min (0 : Int) 10 = 0 := by decide
  go_enter Try.func20, Try.ntmps20
  go_wp2
  go_ret
  first | exact ⟨rfl, (Below.refl _ _).alloc (Nat.le_refl _) _⟩ | exact ⟨by simp, (Below.refl _ _).alloc (Nat.le_refl _) _⟩
theorem prefix_1 (w : World) : Calls Try.prog 20 #[.int .i64 1] w fun e w' => e = .returned (.string ⟨#[78, 76]⟩) ∧ Below w.heap.size w w' := by
  have h1 : max (1 : Int) 0 = 1 := by decide
  have h2 : min (1 : Int) 10 = 1 := by decide
  go_enter Try.func20, Try.ntmps20
  go_wp2
  go_ret
  first | exact ⟨rfl, (Below.refl _ _).alloc (Nat.le_refl _) _⟩ | exact ⟨by simp, (Below.refl _ _).alloc (Nat.le_refl _) _⟩
theorem prefix_2 (w : World) : Calls Try.prog 20 #[.int .i64 2] w fun e w' => e = .returned (.string ⟨#[110, 117, 109, 58]⟩) ∧ Below w.heap.size w w' := by
  have h1 : max (2 : Int) 0 = 2 := by decide
  have h2 : min (2 : Int) 10 = 2 := by decide
  go_enter Try.func20, Try.ntmps20
  go_wp2
  go_ret
  first | exact ⟨rfl, (Below.refl _ _).alloc (Nat.le_refl _) _⟩ | exact ⟨by simp, (Below.refl _ _).alloc (Nat.le_refl _) _⟩
theorem prefix_3 (w : World) : Calls Try.prog 20 #[.int .i64 3] w fun e w' => e = .returned (.string ⟨#[115, 116, 114, 58]⟩) ∧ Below w.heap.size w w' := by
  have h1 : max (3 : Int) 0 = 3 := by decide
  have h2 : min (3 : Int) 10 = 3 := by decide
  go_enter Try.func20, Try.ntmps20
  go_wp2
  go_ret
  first | exact ⟨rfl, (Below.refl _ _).alloc (Nat.le_refl _) _⟩ | exact ⟨by simp, (Below.refl _ _).alloc (Nat.le_refl _) _⟩
theorem prefix_4 (w : World) : Calls Try.prog 20 #[.int .i64 4] w fun e w' => e = .returned (.string ⟨#[114, 101, 58]⟩) ∧ Below w.heap.size w w' := by
  have h1 : max (4 : Int) 0 = 4 := by decide
  have h2 : min (4 : Int) 10 = 4 := by decide
  go_enter Try.func20, Try.ntmps20
  go_wp2
  go_ret
  first | exact ⟨rfl, (Below.refl _ _).alloc (Nat.le_refl _) _⟩ | exact ⟨by simp, (Below.refl _ _).alloc (Nat.le_refl _) _⟩
theorem prefix_5 (w : World) : Calls Try.prog 20 #[.int .i64 5] w fun e w' => e = .returned (.string ⟨#[110, 97, 109, 101, 58]⟩) ∧ Below w.heap.size w w' := by
  have h1 : max (5 : Int) 0 = 5 := by decide
  have h2 : min (5 : Int) 10 = 5 := by decide
  go_enter Try.func20, Try.ntmps20
  go_wp2
  go_ret
  first | exact ⟨rfl, (Below.refl _ _).alloc (Nat.le_refl _) _⟩ | exact ⟨by simp, (Below.refl _ _).alloc (Nat.le_refl _) _⟩
theorem prefix_6 (w : World) : Calls Try.prog 20 #[.int .i64 6] w fun e w' => e = .returned (.string ⟨#[102, 117, 110, 99, 58]⟩) ∧ Below w.heap.size w w' := by
  have h1 : max (6 : Int) 0 = 6 := by decide
  have h2 : min (6 : Int) 10 = 6 := by decide
  go_enter Try.func20, Try.ntmps20
  go_wp2
  go_ret
  first | exact ⟨rfl, (Below.refl _ _).alloc (Nat.le_refl _) _⟩ | exact ⟨by simp, (Below.refl _ _).alloc (Nat.le_refl _) _⟩
theorem prefix_7 (w : World) : Calls Try.prog 20 #[.int .i64 7] w fun e w' => e = .returned (.string ⟨#[119, 111, 114, 100, 58]⟩) ∧ Below w.heap.size w w' := by
  have h1 : max (7 : Int) 0 = 7 := by decide
  have h2 : min (7 : Int) 10 = 7 := by decide
  go_enter Try.func20, Try.ntmps20
  go_wp2
  go_ret
  first | exact ⟨rfl, (Below.refl _ _).alloc (Nat.le_refl _) _⟩ | exact ⟨by simp, (Below.refl _ _).alloc (Nat.le_refl _) _⟩
theorem prefix_8 (w : World) : Calls Try.prog 20 #[.int .i64 8] w fun e w' => e = .returned (.string ⟨#[115, 105, 103, 110, 58]⟩) ∧ Below w.heap.size w w' := by
  have h1 : max (8 : Int) 0 = 8 := by decide
  have h2 : min (8 : Int) 10 = 8 := by decide
  go_enter Try.func20, Try.ntmps20
  go_wp2
  go_ret
  first | exact ⟨rfl, (Below.refl _ _).alloc (Nat.le_refl _) _⟩ | exact ⟨by simp, (Below.refl _ _).alloc (Nat.le_refl _) _⟩
theorem prefix_9 (w : World) : Calls Try.prog 20 #[.int .i64 9] w fun e w' => e = .returned (.string ⟨#[98, 117, 105, 108, 116, 105, 110, 58]⟩) ∧ Below w.heap.size w w' := by
  have h1 : max (9 : Int) 0 = 9 := by decide
  have h2 : min (9 : Int) 10 = 9 := by decide
  go_enter Try.func20, Try.ntmps20
  go_wp2
  go_ret
  first | exact ⟨rfl, (Below.refl _ _).alloc (Nat.le_refl _) _⟩ | exact ⟨by simp, (Below.refl _ _).alloc (Nat.le_refl _) _⟩
theorem prefix_10 (w : World) : Calls Try.prog 20 #[.int .i64 10] w fun e w' => e = .returned (.string ⟨#[98, 97, 110, 110, 101, 100, 58]⟩) ∧ Below w.heap.size w w' := by
  have h1 : max (10 : Int) 0 = 10 := by decide
  have h2 : min (10 : Int) 10 = 10 := by decide
  go_enter Try.func20, Try.ntmps20
  go_wp2
  go_ret
  first | exact ⟨rfl, (Below.refl _ _).alloc (Nat.le_refl _) _⟩ | exact ⟨by simp, (Below.refl _ _).alloc (Nat.le_refl _) _⟩
theorem prefix_any (k : Nat) (hk : k ≤ 10) (w : World) : Calls Try.prog 20 #[.int .i64 (k : Int)] w fun e w' => e = .returned (.string ⟨(preL k).toArray⟩) ∧ Below w.heap.size w w' := by
  rcases (show k = 0 ∨ k = 1 ∨ k = 2 ∨ k = 3 ∨ k = 4 ∨ k = 5 ∨ k = 6 ∨ k = 7 ∨ k = 8 ∨ k = 9 ∨ k = 10 from by omega) with rfl | rfl | rfl | rfl | rfl | rfl | rfl | rfl | rfl | rfl | rfl
  · exact prefix_0 w
  · exact prefix_1 w
  · exact prefix_2 w
  · exact prefix_3 w
  · exact prefix_4 w
  · exact prefix_5 w
  · exact prefix_6 w
  · exact prefix_7 w
  · exact prefix_8 w
  · exact prefix_9 w
  · exact prefix_10 w
theorem take_fit {l : List Tok} {k : Nat} (h : k < l.length) : l.take (k + 1) = l.take k ++ [l[k]] := List.take_succ_eq_append_getElem h
structure PrR (w : World) (l : List Tok) (k : Nat) (acc : List UInt8) (tv : Value) (wr : World) : Prop where
  row : wr.ownsRow w.heap.size 5 1 tv acc.length (Lib.byteCells acc)
  below : Below w.heap.size w wr
  eq : acc = printL (l.take k)
theorem TAt.low {w w' : World} {g B : Nat} {l : List Tok} (h : TAt w g l) (hb : Below B w w') (hg : g < B) : TAt w' g l := by
  have hc : ∀ o, w'.cell? ⟨g, o, none⟩ = w.cell? ⟨g, o, none⟩ := fun o => hb.cell (p := ⟨g, o, none⟩) hg
  exact ⟨Nat.lt_of_lt_of_le h.lt hb.size, fun i hi => (hc _).trans (h.k i hi), fun i hi => (hc _).trans (h.t i hi), fun i hi => (hc _).trans (h.a i hi)⟩
theorem fit_eqs (t : List UInt8) : (⟨t.toArray⟩ : ByteArray).size = t.length ∧ (⟨t.toArray⟩ : ByteArray).data.toList = t := ⟨by rw [← ba_sz], by simp⟩
set_option maxHeartbeats 8000000 in
set_option maxRecDepth 100000 in
theorem print_any (g c n : Nat) (l : List Tok) (w : World) (hn : l.length = n) (hl : n ≤ 5000) (h : TAt w g l) (hf : ∀ t ∈ l, FitT t) :
    Calls Try.prog 15 #[.slice (some ⟨g, 0, none⟩) n c] w fun e w' => e = .returned (.string ⟨(printL l).toArray⟩) ∧ Below w.heap.size w w' := by
  have H0 : Hid (PrR w l 0 [] (.slice none 0 0) w) := Lib.hid ⟨World.ownsRow_nil w _ _ _, Below.refl _ _, by simp [printL]⟩
  have HF := Lib.hid hf
  have HN := Lib.hid hn
  have HT := Lib.hid h
  clear h hf hn
  obtain ⟨i0, hi, hz0, hz1, hz2⟩ := info_parts Try.infoU8
  go_enter Try.func15, Try.ntmps15
  go_wp2_with fail
  go_loopw [3, 8] (fun tv iv wr => ∃ (k : Nat) (acc : List UInt8), k ≤ n ∧ acc.length ≤ 5000 * k ∧ iv = .int .i64 k ∧ Hid (PrR w l k acc tv wr)) (fun _ iv _ => n - (intOf iv).toNat)
  case atStart => exact ⟨0, [], Nat.zero_le _, by simp, rfl, H0⟩
  case round =>
    obtain ⟨k, acc, hk, hacc, rfl, HX⟩ := hrel
    obtain ⟨ta, tc, rfl⟩ := own_form HX.out.row
    by_cases hlt : k < n
    · have hkl : k < l.length := by have := HN.out; omega
      have hfit := HF.out l[k] (List.getElem_mem hkl)
      have TX := HT.out.low HX.out.below HT.out.lt
      have d0 := TX.k k hkl
      have d1 := TX.t k hkl
      have d2 := TX.a k hkl
      have PX := Lib.hid fun W => prefix_any l[k].k hfit.1 W
      have hple := preL_le l[k].k
      have HS : ∀ acc', acc' = acc ++ (preL l[k].k ++ (l[k].t ++ [32])) → acc' = printL (l.take (k + 1)) := fun acc' e => by rw [e, take_fit hkl, printL_snoc, ← HX.out.eq]
      obtain ⟨hts, htl⟩ := fit_eqs l[k].t
      obtain ⟨hps, hpl⟩ := fit_eqs (preL l[k].k)
      have ht4 := hfit.2
      rw [← hts] at ht4
      rw [← hps] at hple
      have HS2 : Hid (∀ acc', acc' = acc ++ ((⟨(preL l[k].k).toArray⟩ : ByteArray).data.toList ++ ((⟨l[k].t.toArray⟩ : ByteArray).data.toList ++ [32])) → acc' = printL (l.take (k + 1))) := Lib.hid (by rw [htl, hpl]; exact HS)
      have rowX := Lib.hid HX.out.row
      have BX := Lib.hid HX.out.below
      clear HX hts htl hps hpl hfit HS TX
      generalize (⟨l[k].t.toArray⟩ : ByteArray) = tt at *
      generalize (⟨(preL l[k].k).toArray⟩ : ByteArray) = pp at *
      generalize (l[k].k : Int) = kk at *
      generalize (l[k].a : Int) = aa at *
      go_wp2_with fail
      refine (PX.out _).mono ?_
      rintro e w2 ⟨rfl, hb2⟩
      have row2 := Lib.hid (own_below (rowX.out.alloc (.cells #[.int .i64 kk, .string tt, .int .i64 aa] 36)) hb2 (Nat.le_refl _))
      have B2 := Lib.hid ((BX.out.alloc BX.out.size (.cells #[.int .i64 kk, .string tt, .int .i64 aa] 36)).trans (hb2.mono (by have := BX.out.size; simp; omega)))
      have f1 : w2.cell? ⟨wr.heap.size, 1, none⟩ = some (.string tt) := (hb2.cell (p := ⟨wr.heap.size, 1, none⟩) (by simp)).trans (by simp [go_sem])
      have L2 : wr.heap.size < w2.heap.size := by have := hb2.size; simp at this; omega
      have NR : Hid (∀ q, (Value.slice ta acc.length tc).ownBlock = some q → q < wr.heap.size) := Lib.hid fun q e => (own_base rowX.out q e).2
      clear hb2 rowX BX d0 d1 d2
      go_wp2_with (at_builtin; refine Lib.wpList_append_own_string _ rfl (.tmp 12) (.tmp 15) 47 9 rfl w.heap.size 5 i0 Try.underlying47 Try.underlying9 hi hz0 hz1 hz2 (.slice ta acc.length tc) acc.length (Lib.byteCells acc) rfl row2.out pp rfl ?d1 ?d2 ?d3 ?_)
      case d1 => unfold maxLen; omega
      case d2 => omega
      case d3 => exact B2.out.size
      intro v3 w3 hown3 hgrow3 _
      have row3 := Lib.hid (row_str hown3)
      have f3 : w3.cell? ⟨wr.heap.size, 1, none⟩ = some (.string tt) := (World.cell?_of_block (hgrow3.block wr.heap.size L2 (fun e => by have := NR.out _ e.symm; omega))).trans f1
      have B3 := Lib.hid (B2.out.grown hgrow3 B2.out.size (fun q e => (own_base row2.out q e).1))
      have hl3 : (acc ++ pp.data.toList).length = acc.length + pp.size := by rw [List.length_append, ba_sz]
      clear hown3 hgrow3 row2 B2 f1 L2 NR
      go_wp2_with (at_builtin; refine Lib.wpList_append_own_string _ rfl (.tmp 17) (.tmp 19) 47 9 rfl w.heap.size 5 i0 Try.underlying47 Try.underlying9 hi hz0 hz1 hz2 v3 _ _ rfl row3.out tt rfl ?g1 ?g2 ?g3 ?_)
      case g1 => unfold maxLen; omega
      case g2 => omega
      case g3 => exact B3.out.size
      intro v4 w4 hown4 hgrow4 _
      have row4 := Lib.hid (row_str (l := acc ++ pp.data.toList) (t := tt) (by rw [hl3]; exact hown4))
      have B4 := Lib.hid (B3.out.grown hgrow4 B3.out.size (fun q e => (own_base row3.out q e).1))
      have hl4 : (acc ++ pp.data.toList ++ tt.data.toList).length = acc.length + pp.size + tt.size := by rw [List.length_append, hl3, ba_sz]
      have hl5 : (acc ++ (pp.data.toList ++ tt.data.toList)).length = acc.length + (pp.size + tt.size) := by rw [List.length_append, List.length_append, ba_sz, ba_sz]
      clear hown4 hgrow4 row3 B3 f3
      go_wp2_with (at_builtin; refine wpList_append_own _ rfl (.tmp 21) (.tmp 22) 47 rfl w.heap.size 5 i0 (.int .u8 0) 1 1 Try.underlying47 hi hz0 hz1 hz2 rfl (by decide) v4 _ _ rfl (row4.out.alloc _) ⟨w4.heap.size, 0, none⟩ 1 1 [.int .u8 32] rfl rfl ?a1 ?b1 ?c1 ?h1 ?e1 ?_)
      try (case a1 => exact u8_cell w4 32)
      case b1 => simp [Value.oneCell']
      case c1 => unfold maxLen; omega
      case h1 => omega
      case e1 => have := B4.out.size; simp; omega
      intro v5 w5 hown5 hgrow5 _
      have row5 := row_snoc2 (m := acc ++ (pp.data.toList ++ tt.data.toList)) (c := 32) hl5 hown5
      have B5 := (B4.out.alloc B4.out.size (.cells #[.int .u8 32] 5)).grown hgrow5 (by have := B4.out.size; simp; omega) (fun q e => (own_base row4.out q e).1)
      have HN5 : Hid (PrR w l (k + 1) (acc ++ (pp.data.toList ++ tt.data.toList) ++ [32]) v5 w5) := Lib.hid ⟨row5, B5, HS2.out _ (by simp)⟩
      clear hown5 hgrow5 row4 B4 row5 B5 HS2
      go_wp2_with fail
      go_roundw
      case rel => exact ⟨k + 1, _, by omega, by rw [List.length_append, hl5]; simp; omega, by go_num, HN5⟩
      case measure => simp [intOf]; omega
    · obtain rfl : k = n := by omega
      have hcv := row_conv HX.out.row
      have HB := Lib.hid HX.out.below
      have HE : Hid (acc = printL l) := Lib.hid (by have h := HX.out.eq; rwa [List.take_of_length_le (by have := HN.out; omega)] at h)
      clear HX
      go_wp2_with fail
      go_ret
      rw [← HE.out]
      exact ⟨rfl, HB.out⟩
set_option maxHeartbeats 8000000 in
set_option maxRecDepth 100000 in
theorem rprint_any (g c n : Nat) (l : List Tok) (w : World) (hn : l.length = n) (hl : n ≤ 5000) (h : TAt w g l) (hf : ∀ t ∈ l, FitT t) :
    Calls Try.prog 16 #[.slice (some ⟨g, 0, none⟩) n c] w fun e w' => e = .returned (.string ⟨(printL l).toArray⟩) ∧ Below w.heap.size w w' := by
  have H0 : Hid ((⟨#[]⟩ : ByteArray).data.toList = printL (l.take 0) ∧ Below w.heap.size w w) := Lib.hid ⟨by simp [printL], Below.refl _ _⟩
  have HF := Lib.hid hf
  have HN := Lib.hid hn
  have HT := Lib.hid h
  clear h hf hn
  go_enter Try.func16, Try.ntmps16
  go_wp2_with fail
  go_loopw [3, 8] (fun tv iv wr => ∃ (k : Nat) (S : ByteArray), k ≤ n ∧ S.size ≤ 5000 * k ∧ tv = .string S ∧ iv = .int .i64 k ∧ Hid (S.data.toList = printL (l.take k) ∧ Below w.heap.size w wr)) (fun _ iv _ => n - (intOf iv).toNat)
  case atStart => exact ⟨0, ⟨#[]⟩, Nat.zero_le _, by decide, rfl, rfl, H0⟩
  case round =>
    obtain ⟨k, S, hk, hS, rfl, rfl, HX⟩ := hrel
    by_cases hlt : k < n
    · have hkl : k < l.length := by have := HN.out; omega
      have hfit := HF.out l[k] (List.getElem_mem hkl)
      have TX := HT.out.low HX.out.2 HT.out.lt
      have d0 := TX.k k hkl
      have d1 := TX.t k hkl
      have d2 := TX.a k hkl
      have hsn := take_fit hkl
      obtain ⟨hts, htl⟩ := fit_eqs l[k].t
      have ht4 := hfit.2
      rw [← hts] at ht4
      have HS : ∀ p : ByteArray, p.data.toList = preL l[k].k → (S ++ p ++ ((⟨l[k].t.toArray⟩ : ByteArray) ++ ⟨#[32]⟩)).data.toList = printL (l.take (k + 1)) := fun p hp => by
        rw [hsn, printL_snoc, ← HX.out.1, ← hp]; simp
      have HBX := Lib.hid HX.out.2
      have hk10 := hfit.1
      have HS3 := Lib.hid HS
      clear HX hts htl hfit TX hsn HS
      have hsi : (S.size : Int) ≤ 25000000 := by omega
      generalize l[k].k = kn at *
      generalize (⟨l[k].t.toArray⟩ : ByteArray) = tt at *
      generalize (l[k].a : Int) = aa at *
      rcases (show kn = 0 ∨ kn = 1 ∨ kn = 2 ∨ kn = 3 ∨ kn = 4 ∨ kn = 5 ∨ kn = 6 ∨ kn = 7 ∨ kn = 8 ∨ kn = 9 ∨ kn = 10 from by omega) with rfl | rfl | rfl | rfl | rfl | rfl | rfl | rfl | rfl | rfl | rfl
      · have HN5 : Hid ((S ++ ⟨#[69, 78, 68]⟩ ++ (tt ++ ⟨#[32]⟩)).data.toList = printL (l.take (k + 1))) := Lib.hid (HS3.out ⟨#[69, 78, 68]⟩ rfl)
        have hz5 : (S ++ ⟨#[69, 78, 68]⟩ ++ (tt ++ ⟨#[32]⟩)).size ≤ 5000 * (k + 1) := by rw [ByteArray.size_append, ByteArray.size_append, ByteArray.size_append, show (⟨#[69, 78, 68]⟩ : ByteArray).size = 3 from rfl, show (⟨#[32]⟩ : ByteArray).size = 1 from rfl]; omega
        go_wp2_with fail
        go_roundw
        case rel => exact ⟨k + 1, _, by omega, hz5, rfl, by go_num, Lib.hid ⟨HN5.out, HBX.out.alloc HBX.out.size _⟩⟩
        case measure => simp [intOf]; omega
      · have HN5 : Hid ((S ++ ⟨#[78, 76]⟩ ++ (tt ++ ⟨#[32]⟩)).data.toList = printL (l.take (k + 1))) := Lib.hid (HS3.out ⟨#[78, 76]⟩ rfl)
        have hz5 : (S ++ ⟨#[78, 76]⟩ ++ (tt ++ ⟨#[32]⟩)).size ≤ 5000 * (k + 1) := by rw [ByteArray.size_append, ByteArray.size_append, ByteArray.size_append, show (⟨#[78, 76]⟩ : ByteArray).size = 2 from rfl, show (⟨#[32]⟩ : ByteArray).size = 1 from rfl]; omega
        go_wp2_with fail
        go_roundw
        case rel => exact ⟨k + 1, _, by omega, hz5, rfl, by go_num, Lib.hid ⟨HN5.out, HBX.out.alloc HBX.out.size _⟩⟩
        case measure => simp [intOf]; omega
      · have HN5 : Hid ((S ++ ⟨#[110, 117, 109, 58]⟩ ++ (tt ++ ⟨#[32]⟩)).data.toList = printL (l.take (k + 1))) := Lib.hid (HS3.out ⟨#[110, 117, 109, 58]⟩ rfl)
        have hz5 : (S ++ ⟨#[110, 117, 109, 58]⟩ ++ (tt ++ ⟨#[32]⟩)).size ≤ 5000 * (k + 1) := by rw [ByteArray.size_append, ByteArray.size_append, ByteArray.size_append, show (⟨#[110, 117, 109, 58]⟩ : ByteArray).size = 4 from rfl, show (⟨#[32]⟩ : ByteArray).size = 1 from rfl]; omega
        go_wp2_with fail
        go_roundw
        case rel => exact ⟨k + 1, _, by omega, hz5, rfl, by go_num, Lib.hid ⟨HN5.out, HBX.out.alloc HBX.out.size _⟩⟩
        case measure => simp [intOf]; omega
      · have HN5 : Hid ((S ++ ⟨#[115, 116, 114, 58]⟩ ++ (tt ++ ⟨#[32]⟩)).data.toList = printL (l.take (k + 1))) := Lib.hid (HS3.out ⟨#[115, 116, 114, 58]⟩ rfl)
        have hz5 : (S ++ ⟨#[115, 116, 114, 58]⟩ ++ (tt ++ ⟨#[32]⟩)).size ≤ 5000 * (k + 1) := by rw [ByteArray.size_append, ByteArray.size_append, ByteArray.size_append, show (⟨#[115, 116, 114, 58]⟩ : ByteArray).size = 4 from rfl, show (⟨#[32]⟩ : ByteArray).size = 1 from rfl]; omega
        go_wp2_with fail
        go_roundw
        case rel => exact ⟨k + 1, _, by omega, hz5, rfl, by go_num, Lib.hid ⟨HN5.out, HBX.out.alloc HBX.out.size _⟩⟩
        case measure => simp [intOf]; omega
      · have HN5 : Hid ((S ++ ⟨#[114, 101, 58]⟩ ++ (tt ++ ⟨#[32]⟩)).data.toList = printL (l.take (k + 1))) := Lib.hid (HS3.out ⟨#[114, 101, 58]⟩ rfl)
        have hz5 : (S ++ ⟨#[114, 101, 58]⟩ ++ (tt ++ ⟨#[32]⟩)).size ≤ 5000 * (k + 1) := by rw [ByteArray.size_append, ByteArray.size_append, ByteArray.size_append, show (⟨#[114, 101, 58]⟩ : ByteArray).size = 3 from rfl, show (⟨#[32]⟩ : ByteArray).size = 1 from rfl]; omega
        go_wp2_with fail
        go_roundw
        case rel => exact ⟨k + 1, _, by omega, hz5, rfl, by go_num, Lib.hid ⟨HN5.out, HBX.out.alloc HBX.out.size _⟩⟩
        case measure => simp [intOf]; omega
      · have HN5 : Hid ((S ++ ⟨#[110, 97, 109, 101, 58]⟩ ++ (tt ++ ⟨#[32]⟩)).data.toList = printL (l.take (k + 1))) := Lib.hid (HS3.out ⟨#[110, 97, 109, 101, 58]⟩ rfl)
        have hz5 : (S ++ ⟨#[110, 97, 109, 101, 58]⟩ ++ (tt ++ ⟨#[32]⟩)).size ≤ 5000 * (k + 1) := by rw [ByteArray.size_append, ByteArray.size_append, ByteArray.size_append, show (⟨#[110, 97, 109, 101, 58]⟩ : ByteArray).size = 5 from rfl, show (⟨#[32]⟩ : ByteArray).size = 1 from rfl]; omega
        go_wp2_with fail
        go_roundw
        case rel => exact ⟨k + 1, _, by omega, hz5, rfl, by go_num, Lib.hid ⟨HN5.out, HBX.out.alloc HBX.out.size _⟩⟩
        case measure => simp [intOf]; omega
      · have HN5 : Hid ((S ++ ⟨#[102, 117, 110, 99, 58]⟩ ++ (tt ++ ⟨#[32]⟩)).data.toList = printL (l.take (k + 1))) := Lib.hid (HS3.out ⟨#[102, 117, 110, 99, 58]⟩ rfl)
        have hz5 : (S ++ ⟨#[102, 117, 110, 99, 58]⟩ ++ (tt ++ ⟨#[32]⟩)).size ≤ 5000 * (k + 1) := by rw [ByteArray.size_append, ByteArray.size_append, ByteArray.size_append, show (⟨#[102, 117, 110, 99, 58]⟩ : ByteArray).size = 5 from rfl, show (⟨#[32]⟩ : ByteArray).size = 1 from rfl]; omega
        go_wp2_with fail
        go_roundw
        case rel => exact ⟨k + 1, _, by omega, hz5, rfl, by go_num, Lib.hid ⟨HN5.out, HBX.out.alloc HBX.out.size _⟩⟩
        case measure => simp [intOf]; omega
      · have HN5 : Hid ((S ++ ⟨#[119, 111, 114, 100, 58]⟩ ++ (tt ++ ⟨#[32]⟩)).data.toList = printL (l.take (k + 1))) := Lib.hid (HS3.out ⟨#[119, 111, 114, 100, 58]⟩ rfl)
        have hz5 : (S ++ ⟨#[119, 111, 114, 100, 58]⟩ ++ (tt ++ ⟨#[32]⟩)).size ≤ 5000 * (k + 1) := by rw [ByteArray.size_append, ByteArray.size_append, ByteArray.size_append, show (⟨#[119, 111, 114, 100, 58]⟩ : ByteArray).size = 5 from rfl, show (⟨#[32]⟩ : ByteArray).size = 1 from rfl]; omega
        go_wp2_with fail
        go_roundw
        case rel => exact ⟨k + 1, _, by omega, hz5, rfl, by go_num, Lib.hid ⟨HN5.out, HBX.out.alloc HBX.out.size _⟩⟩
        case measure => simp [intOf]; omega
      · have HN5 : Hid ((S ++ ⟨#[115, 105, 103, 110, 58]⟩ ++ (tt ++ ⟨#[32]⟩)).data.toList = printL (l.take (k + 1))) := Lib.hid (HS3.out ⟨#[115, 105, 103, 110, 58]⟩ rfl)
        have hz5 : (S ++ ⟨#[115, 105, 103, 110, 58]⟩ ++ (tt ++ ⟨#[32]⟩)).size ≤ 5000 * (k + 1) := by rw [ByteArray.size_append, ByteArray.size_append, ByteArray.size_append, show (⟨#[115, 105, 103, 110, 58]⟩ : ByteArray).size = 5 from rfl, show (⟨#[32]⟩ : ByteArray).size = 1 from rfl]; omega
        go_wp2_with fail
        go_roundw
        case rel => exact ⟨k + 1, _, by omega, hz5, rfl, by go_num, Lib.hid ⟨HN5.out, HBX.out.alloc HBX.out.size _⟩⟩
        case measure => simp [intOf]; omega
      · have HN5 : Hid ((S ++ ⟨#[98, 117, 105, 108, 116, 105, 110, 58]⟩ ++ (tt ++ ⟨#[32]⟩)).data.toList = printL (l.take (k + 1))) := Lib.hid (HS3.out ⟨#[98, 117, 105, 108, 116, 105, 110, 58]⟩ rfl)
        have hz5 : (S ++ ⟨#[98, 117, 105, 108, 116, 105, 110, 58]⟩ ++ (tt ++ ⟨#[32]⟩)).size ≤ 5000 * (k + 1) := by rw [ByteArray.size_append, ByteArray.size_append, ByteArray.size_append, show (⟨#[98, 117, 105, 108, 116, 105, 110, 58]⟩ : ByteArray).size = 8 from rfl, show (⟨#[32]⟩ : ByteArray).size = 1 from rfl]; omega
        go_wp2_with fail
        go_roundw
        case rel => exact ⟨k + 1, _, by omega, hz5, rfl, by go_num, Lib.hid ⟨HN5.out, HBX.out.alloc HBX.out.size _⟩⟩
        case measure => simp [intOf]; omega
      · have HN5 : Hid ((S ++ ⟨#[98, 97, 110, 110, 101, 100, 58]⟩ ++ (tt ++ ⟨#[32]⟩)).data.toList = printL (l.take (k + 1))) := Lib.hid (HS3.out ⟨#[98, 97, 110, 110, 101, 100, 58]⟩ rfl)
        have hz5 : (S ++ ⟨#[98, 97, 110, 110, 101, 100, 58]⟩ ++ (tt ++ ⟨#[32]⟩)).size ≤ 5000 * (k + 1) := by rw [ByteArray.size_append, ByteArray.size_append, ByteArray.size_append, show (⟨#[98, 97, 110, 110, 101, 100, 58]⟩ : ByteArray).size = 7 from rfl, show (⟨#[32]⟩ : ByteArray).size = 1 from rfl]; omega
        go_wp2_with fail
        go_roundw
        case rel => exact ⟨k + 1, _, by omega, hz5, rfl, by go_num, Lib.hid ⟨HN5.out, HBX.out.alloc HBX.out.size _⟩⟩
        case measure => simp [intOf]; omega
    · obtain rfl : k = n := by omega
      have HE : Hid (S = ⟨(printL l).toArray⟩) := Lib.hid (ba_of _ _ (by have h := HX.out.1; rwa [List.take_of_length_le (by have := HN.out; omega)] at h))
      have HB := Lib.hid HX.out.2
      clear HX
      go_wp2_with fail
      go_ret
      exact ⟨by rw [← HE.out]; rfl, HB.out⟩
end Go.Proofs.Ytfmjajmdkndknaa
