/-
  CONTRACTS of layer 6's calls on a value (cell.Good, Num, Str, True, text) and of the statements' own Cut: what each hands back; nothing that was there is written. Condition where a number is made a text: the library's table of powers of ten is as it was laid.
-/
import Derived.Test.YtllbnbnpcogckaaGreatDoorCellW1
namespace Go.Proofs.YtllbnbnpcogckaaGreatDoor
open Go.RowKit

def GoodC (k n : Int) (s : ByteArray) : Prop := (k = 0 ∧ n = 0 ∧ s.data.toList = []) ∨ (k = 1 ∧ OkN n ∧ s.data.toList = []) ∨ (k = 2 ∧ n = 0) ∨ (k = 3 ∧ looksL s.data.toList = (n, true))
theorem nil_iff (s : ByteArray) : s.toList = [] ↔ s.data.toList = [] := by rw [toList_data']
theorem nil_ba (s : ByteArray) (h : s.data.toList = []) : s = ⟨#[]⟩ := WideShapes.bytes_inj (by rw [h])
def numC (k n : Int) (s : ByteArray) : Int := if k = 2 then (prefixL s.data.toList).1 else n
/-- A value's text. -/
def strC (k n : Int) (s : ByteArray) : ByteArray := if k = 1 then ⟨(textL n).toArray⟩ else s
theorem ctext_any (k n : Int) (s : ByteArray) (w : World) (hn : k = 1 → OkN n) (G : Gl w) :
    Calls Tryz.prog 34 #[cv k n s] w fun e w' => e = .returned (.string (strC k n s)) ∧ Below w.heap.size w w' := by
  unfold strC cv
  by_cases h2 : k = 1
  · subst h2
    have C1 := Lib.hid fun W G => text_any n W (hn rfl) G
    have HG := Lib.hid G
    clear hn G
    go_enter Tryz.func34, Tryz.ntmps34
    go_wp2_with fail
    refine (C1.out _ (HG.out.next ((Below.refl _ _).alloc (Nat.le_refl _) _))).mono ?_
    rintro e w1 ⟨rfl, hb1⟩
    have HB1 := Lib.hid (below_new hb1)
    clear hb1
    go_wp2_with fail
    go_ret
    exact ⟨rfl, HB1.out⟩
  · clear hn
    go_enter Tryz.func34, Tryz.ntmps34
    go_wp2_with fail
    go_ret
    exact ⟨ret_s (by simp), (Below.refl _ _).alloc (Nat.le_refl _) _⟩
theorem strC_size (k n : Int) (s : ByteArray) (hs : s.size ≤ 100) (hn : k = 1 → OkN n) (ht : ∀ a, OkN a → (textL a).length ≤ 40) : (strC k n s).size ≤ 100 := by
  unfold strC
  split
  · rename_i h
    show (textL n).toArray.size ≤ 100
    have := ht n (hn h)
    simp; omega
  · exact hs
set_option maxHeartbeats 1000000 in
theorem cstr_any (k n : Int) (s : ByteArray) (w : World) (hn : k = 1 → OkN n) (hs : (strC k n s).size ≤ 1000000) (G : Gl w) :
    Calls Tryz.prog 20 #[cv k n s] w fun e w' => e = .returned (.string (strC k n s)) ∧ Below w.heap.size w w' := by
  have C1 := Lib.hid fun W G => ctext_any k n s W hn G
  have C2 := Lib.hid fun W => clone_any (strC k n s) W (by omega)
  have HG := Lib.hid G
  generalize strC k n s = t at *
  clear hn G
  unfold cv at C1 ⊢
  go_enter Tryz.func20, Tryz.ntmps20
  go_wp2_with fail
  refine (C1.out _ (HG.out.next ((Below.refl _ _).alloc (Nat.le_refl _) _))).mono ?_
  rintro e w1 ⟨rfl, hb1⟩
  have HB1 := Lib.hid (below_new hb1)
  clear hb1
  go_wp2_with fail
  refine (C2.out _).mono ?_
  rintro e w2 ⟨rfl, hb2⟩
  have HB2 := Lib.hid (HB1.out.trans (hb2.mono HB1.out.size))
  clear hb2 HB1
  go_wp2_with fail
  go_ret
  exact ⟨rfl, HB2.out⟩
def trueC (k n : Int) (s : ByteArray) : Bool := if k = 2 then !decide (s.toList = []) else !decide (n = 0)
end Go.Proofs.YtllbnbnpcogckaaGreatDoor
