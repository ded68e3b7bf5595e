/-
 CONTRACTS of layer 11's signs, backslashes and numbers. Each reads alone (but for the copy that a backslash makes). Condition: texts of at most 100000 bytes.
-/
import Derived.Test.YtmbfdkiejneheaaGreatDoorLxW3
import Derived.Laws.Concat
namespace Go.Proofs.YtmbfdkiejneheaaGreatDoor
open Go.RowKit

def SgPost (n : Nat) (w : World) (e : Ending) (w' : World) : Prop := e = .returned (.int .i64 (n : Int)) ∧ w' = w
theorem index_mem (l : List UInt8) (c : UInt8) : (0 : Int) ≤ Lib.indexByte l c ↔ c ∈ l := by
 induction l with
 | nil => simp [Lib.indexByte]
 | cons b l ih =>
  unfold Lib.indexByte
  by_cases h : b = c
  ·
   simp [h]
  ·
   have hb : (b == c) = false := by simpa using h
   have hcb : ¬ c = b := fun e => h e.symm
   rw [hb]
   by_cases hl : c ∈ l
   ·
    have := ih.2 hl
    have h1 : ¬ Lib.indexByte l c = -1 := by omega
    simp [hl, h1]; omega
   ·
    have h1 : Lib.indexByte l c = -1 := by
     have := Lib.indexByte_ge l c
     have h2 : ¬ 0 ≤ Lib.indexByte l c := fun h => hl (ih.1 h)
     omega
    simp [h1, hl, hcb]
theorem sgx_any (c : UInt8) (W : World) : Calls Tryz.prog 62 #[.string ⟨#[123, 125, 40, 41, 91, 93, 59, 44, 43, 45, 42, 47, 37, 33, 62, 60, 124, 63, 58, 126, 36, 61]⟩, .int .u8 (c.toNat : Int)] W fun e w' => e = .returned (.int .i64 (Lib.indexByte signsC c)) ∧ w' = W := by
 refine (Tryz.strings_IndexByte ⟨#[123, 125, 40, 41, 91, 93, 59, 44, 43, 45, 42, 47, 37, 33, 62, 60, 124, 63, 58, 126, 36, 61]⟩ (c.toNat : Int) W).mono ?_
 rintro e w' ⟨rfl, rfl⟩
 refine ⟨?_, rfl⟩
 rw [show ((c.toNat : Int).toNat.toUInt8) = c from by simp]; rfl
theorem sign_0 (s : ByteArray) (m : Nat) (w : World) (_e1 : min (s.size : Int) 2 = (m : Int)) (_e2 : m ≤ s.size) (_e3 : s.size ≤ 100000) (_h0 : ((s.extract 0 m).toList == [43, 61]) = true) : Calls Tryz.prog 49 #[.string s] w (SgPost 2 w) := by
 go_enter Tryz.func49, Tryz.ntmps49
 go_wp2
 go_ret
 exact ⟨rfl, rfl⟩
theorem sign_1 (s : ByteArray) (m : Nat) (w : World) (_e1 : min (s.size : Int) 2 = (m : Int)) (_e2 : m ≤ s.size) (_e3 : s.size ≤ 100000) (_h0 : ((s.extract 0 m).toList == [43, 61]) = false) (_h1 : ((s.extract 0 m).toList == [45, 61]) = true) : Calls Tryz.prog 49 #[.string s] w (SgPost 2 w) := by
 go_enter Tryz.func49, Tryz.ntmps49
 go_wp2
 go_ret
 exact ⟨rfl, rfl⟩
theorem sign_2 (s : ByteArray) (m : Nat) (w : World) (_e1 : min (s.size : Int) 2 = (m : Int)) (_e2 : m ≤ s.size) (_e3 : s.size ≤ 100000) (_h0 : ((s.extract 0 m).toList == [43, 61]) = false) (_h1 : ((s.extract 0 m).toList == [45, 61]) = false) (_h2 : ((s.extract 0 m).toList == [42, 61]) = true) : Calls Tryz.prog 49 #[.string s] w (SgPost 2 w) := by
 go_enter Tryz.func49, Tryz.ntmps49
 go_wp2
 go_ret
 exact ⟨rfl, rfl⟩
theorem sign_3 (s : ByteArray) (m : Nat) (w : World) (_e1 : min (s.size : Int) 2 = (m : Int)) (_e2 : m ≤ s.size) (_e3 : s.size ≤ 100000) (_h0 : ((s.extract 0 m).toList == [43, 61]) = false) (_h1 : ((s.extract 0 m).toList == [45, 61]) = false) (_h2 : ((s.extract 0 m).toList == [42, 61]) = false) (_h3 : ((s.extract 0 m).toList == [47, 61]) = true) : Calls Tryz.prog 49 #[.string s] w (SgPost 2 w) := by
 go_enter Tryz.func49, Tryz.ntmps49
 go_wp2
 go_ret
 exact ⟨rfl, rfl⟩
theorem sign_4 (s : ByteArray) (m : Nat) (w : World) (_e1 : min (s.size : Int) 2 = (m : Int)) (_e2 : m ≤ s.size) (_e3 : s.size ≤ 100000) (_h0 : ((s.extract 0 m).toList == [43, 61]) = false) (_h1 : ((s.extract 0 m).toList == [45, 61]) = false) (_h2 : ((s.extract 0 m).toList == [42, 61]) = false) (_h3 : ((s.extract 0 m).toList == [47, 61]) = false) (_h4 : ((s.extract 0 m).toList == [37, 61]) = true) : Calls Tryz.prog 49 #[.string s] w (SgPost 2 w) := by
 go_enter Tryz.func49, Tryz.ntmps49
 go_wp2
 go_ret
 exact ⟨rfl, rfl⟩
theorem sign_5 (s : ByteArray) (m : Nat) (w : World) (_e1 : min (s.size : Int) 2 = (m : Int)) (_e2 : m ≤ s.size) (_e3 : s.size ≤ 100000) (_h0 : ((s.extract 0 m).toList == [43, 61]) = false) (_h1 : ((s.extract 0 m).toList == [45, 61]) = false) (_h2 : ((s.extract 0 m).toList == [42, 61]) = false) (_h3 : ((s.extract 0 m).toList == [47, 61]) = false) (_h4 : ((s.extract 0 m).toList == [37, 61]) = false) (_h5 : ((s.extract 0 m).toList == [61, 61]) = true) : Calls Tryz.prog 49 #[.string s] w (SgPost 2 w) := by
 go_enter Tryz.func49, Tryz.ntmps49
 go_wp2
 go_ret
 exact ⟨rfl, rfl⟩
theorem sign_6 (s : ByteArray) (m : Nat) (w : World) (_e1 : min (s.size : Int) 2 = (m : Int)) (_e2 : m ≤ s.size) (_e3 : s.size ≤ 100000) (_h0 : ((s.extract 0 m).toList == [43, 61]) = false) (_h1 : ((s.extract 0 m).toList == [45, 61]) = false) (_h2 : ((s.extract 0 m).toList == [42, 61]) = false) (_h3 : ((s.extract 0 m).toList == [47, 61]) = false) (_h4 : ((s.extract 0 m).toList == [37, 61]) = false) (_h5 : ((s.extract 0 m).toList == [61, 61]) = false) (_h6 : ((s.extract 0 m).toList == [60, 61]) = true) : Calls Tryz.prog 49 #[.string s] w (SgPost 2 w) := by
 go_enter Tryz.func49, Tryz.ntmps49
 go_wp2
 go_ret
 exact ⟨rfl, rfl⟩
theorem sign_7 (s : ByteArray) (m : Nat) (w : World) (_e1 : min (s.size : Int) 2 = (m : Int)) (_e2 : m ≤ s.size) (_e3 : s.size ≤ 100000) (_h0 : ((s.extract 0 m).toList == [43, 61]) = false) (_h1 : ((s.extract 0 m).toList == [45, 61]) = false) (_h2 : ((s.extract 0 m).toList == [42, 61]) = false) (_h3 : ((s.extract 0 m).toList == [47, 61]) = false) (_h4 : ((s.extract 0 m).toList == [37, 61]) = false) (_h5 : ((s.extract 0 m).toList == [61, 61]) = false) (_h6 : ((s.extract 0 m).toList == [60, 61]) = false) (_h7 : ((s.extract 0 m).toList == [62, 61]) = true) : Calls Tryz.prog 49 #[.string s] w (SgPost 2 w) := by
 go_enter Tryz.func49, Tryz.ntmps49
 go_wp2
 go_ret
 exact ⟨rfl, rfl⟩
theorem sign_8 (s : ByteArray) (m : Nat) (w : World) (_e1 : min (s.size : Int) 2 = (m : Int)) (_e2 : m ≤ s.size) (_e3 : s.size ≤ 100000) (_h0 : ((s.extract 0 m).toList == [43, 61]) = false) (_h1 : ((s.extract 0 m).toList == [45, 61]) = false) (_h2 : ((s.extract 0 m).toList == [42, 61]) = false) (_h3 : ((s.extract 0 m).toList == [47, 61]) = false) (_h4 : ((s.extract 0 m).toList == [37, 61]) = false) (_h5 : ((s.extract 0 m).toList == [61, 61]) = false) (_h6 : ((s.extract 0 m).toList == [60, 61]) = false) (_h7 : ((s.extract 0 m).toList == [62, 61]) = false) (_h8 : ((s.extract 0 m).toList == [33, 61]) = true) : Calls Tryz.prog 49 #[.string s] w (SgPost 2 w) := by
 go_enter Tryz.func49, Tryz.ntmps49
 go_wp2
 go_ret
 exact ⟨rfl, rfl⟩
theorem sign_9 (s : ByteArray) (m : Nat) (w : World) (_e1 : min (s.size : Int) 2 = (m : Int)) (_e2 : m ≤ s.size) (_e3 : s.size ≤ 100000) (_h0 : ((s.extract 0 m).toList == [43, 61]) = false) (_h1 : ((s.extract 0 m).toList == [45, 61]) = false) (_h2 : ((s.extract 0 m).toList == [42, 61]) = false) (_h3 : ((s.extract 0 m).toList == [47, 61]) = false) (_h4 : ((s.extract 0 m).toList == [37, 61]) = false) (_h5 : ((s.extract 0 m).toList == [61, 61]) = false) (_h6 : ((s.extract 0 m).toList == [60, 61]) = false) (_h7 : ((s.extract 0 m).toList == [62, 61]) = false) (_h8 : ((s.extract 0 m).toList == [33, 61]) = false) (_h9 : ((s.extract 0 m).toList == [43, 43]) = true) : Calls Tryz.prog 49 #[.string s] w (SgPost 2 w) := by
 go_enter Tryz.func49, Tryz.ntmps49
 go_wp2
 go_ret
 exact ⟨rfl, rfl⟩
theorem sign_10 (s : ByteArray) (m : Nat) (w : World) (_e1 : min (s.size : Int) 2 = (m : Int)) (_e2 : m ≤ s.size) (_e3 : s.size ≤ 100000) (_h0 : ((s.extract 0 m).toList == [43, 61]) = false) (_h1 : ((s.extract 0 m).toList == [45, 61]) = false) (_h2 : ((s.extract 0 m).toList == [42, 61]) = false) (_h3 : ((s.extract 0 m).toList == [47, 61]) = false) (_h4 : ((s.extract 0 m).toList == [37, 61]) = false) (_h5 : ((s.extract 0 m).toList == [61, 61]) = false) (_h6 : ((s.extract 0 m).toList == [60, 61]) = false) (_h7 : ((s.extract 0 m).toList == [62, 61]) = false) (_h8 : ((s.extract 0 m).toList == [33, 61]) = false) (_h9 : ((s.extract 0 m).toList == [43, 43]) = false) (_h10 : ((s.extract 0 m).toList == [45, 45]) = true) : Calls Tryz.prog 49 #[.string s] w (SgPost 2 w) := by
 go_enter Tryz.func49, Tryz.ntmps49
 go_wp2
 go_ret
 exact ⟨rfl, rfl⟩
theorem sign_11 (s : ByteArray) (m : Nat) (w : World) (_e1 : min (s.size : Int) 2 = (m : Int)) (_e2 : m ≤ s.size) (_e3 : s.size ≤ 100000) (_h0 : ((s.extract 0 m).toList == [43, 61]) = false) (_h1 : ((s.extract 0 m).toList == [45, 61]) = false) (_h2 : ((s.extract 0 m).toList == [42, 61]) = false) (_h3 : ((s.extract 0 m).toList == [47, 61]) = false) (_h4 : ((s.extract 0 m).toList == [37, 61]) = false) (_h5 : ((s.extract 0 m).toList == [61, 61]) = false) (_h6 : ((s.extract 0 m).toList == [60, 61]) = false) (_h7 : ((s.extract 0 m).toList == [62, 61]) = false) (_h8 : ((s.extract 0 m).toList == [33, 61]) = false) (_h9 : ((s.extract 0 m).toList == [43, 43]) = false) (_h10 : ((s.extract 0 m).toList == [45, 45]) = false) (_h11 : ((s.extract 0 m).toList == [38, 38]) = true) : Calls Tryz.prog 49 #[.string s] w (SgPost 2 w) := by
 go_enter Tryz.func49, Tryz.ntmps49
 go_wp2
 go_ret
 exact ⟨rfl, rfl⟩
theorem sign_12 (s : ByteArray) (m : Nat) (w : World) (_e1 : min (s.size : Int) 2 = (m : Int)) (_e2 : m ≤ s.size) (_e3 : s.size ≤ 100000) (_h0 : ((s.extract 0 m).toList == [43, 61]) = false) (_h1 : ((s.extract 0 m).toList == [45, 61]) = false) (_h2 : ((s.extract 0 m).toList == [42, 61]) = false) (_h3 : ((s.extract 0 m).toList == [47, 61]) = false) (_h4 : ((s.extract 0 m).toList == [37, 61]) = false) (_h5 : ((s.extract 0 m).toList == [61, 61]) = false) (_h6 : ((s.extract 0 m).toList == [60, 61]) = false) (_h7 : ((s.extract 0 m).toList == [62, 61]) = false) (_h8 : ((s.extract 0 m).toList == [33, 61]) = false) (_h9 : ((s.extract 0 m).toList == [43, 43]) = false) (_h10 : ((s.extract 0 m).toList == [45, 45]) = false) (_h11 : ((s.extract 0 m).toList == [38, 38]) = false) (_h12 : ((s.extract 0 m).toList == [124, 124]) = true) : Calls Tryz.prog 49 #[.string s] w (SgPost 2 w) := by
 go_enter Tryz.func49, Tryz.ntmps49
 go_wp2
 go_ret
 exact ⟨rfl, rfl⟩
theorem sign_13 (s : ByteArray) (m : Nat) (w : World) (_e1 : min (s.size : Int) 2 = (m : Int)) (_e2 : m ≤ s.size) (_e3 : s.size ≤ 100000) (_h0 : ((s.extract 0 m).toList == [43, 61]) = false) (_h1 : ((s.extract 0 m).toList == [45, 61]) = false) (_h2 : ((s.extract 0 m).toList == [42, 61]) = false) (_h3 : ((s.extract 0 m).toList == [47, 61]) = false) (_h4 : ((s.extract 0 m).toList == [37, 61]) = false) (_h5 : ((s.extract 0 m).toList == [61, 61]) = false) (_h6 : ((s.extract 0 m).toList == [60, 61]) = false) (_h7 : ((s.extract 0 m).toList == [62, 61]) = false) (_h8 : ((s.extract 0 m).toList == [33, 61]) = false) (_h9 : ((s.extract 0 m).toList == [43, 43]) = false) (_h10 : ((s.extract 0 m).toList == [45, 45]) = false) (_h11 : ((s.extract 0 m).toList == [38, 38]) = false) (_h12 : ((s.extract 0 m).toList == [124, 124]) = false) (_h13 : ((s.extract 0 m).toList == [62, 62]) = true) : Calls Tryz.prog 49 #[.string s] w (SgPost 2 w) := by
 go_enter Tryz.func49, Tryz.ntmps49
 go_wp2
 go_ret
 exact ⟨rfl, rfl⟩
theorem sign_14 (s : ByteArray) (m : Nat) (w : World) (_e1 : min (s.size : Int) 2 = (m : Int)) (_e2 : m ≤ s.size) (_e3 : s.size ≤ 100000) (_h0 : ((s.extract 0 m).toList == [43, 61]) = false) (_h1 : ((s.extract 0 m).toList == [45, 61]) = false) (_h2 : ((s.extract 0 m).toList == [42, 61]) = false) (_h3 : ((s.extract 0 m).toList == [47, 61]) = false) (_h4 : ((s.extract 0 m).toList == [37, 61]) = false) (_h5 : ((s.extract 0 m).toList == [61, 61]) = false) (_h6 : ((s.extract 0 m).toList == [60, 61]) = false) (_h7 : ((s.extract 0 m).toList == [62, 61]) = false) (_h8 : ((s.extract 0 m).toList == [33, 61]) = false) (_h9 : ((s.extract 0 m).toList == [43, 43]) = false) (_h10 : ((s.extract 0 m).toList == [45, 45]) = false) (_h11 : ((s.extract 0 m).toList == [38, 38]) = false) (_h12 : ((s.extract 0 m).toList == [124, 124]) = false) (_h13 : ((s.extract 0 m).toList == [62, 62]) = false) (_h14 : ((s.extract 0 m).toList == [33, 126]) = true) : Calls Tryz.prog 49 #[.string s] w (SgPost 2 w) := by
 go_enter Tryz.func49, Tryz.ntmps49
 go_wp2
 go_ret
 exact ⟨rfl, rfl⟩
theorem sign_e (s : ByteArray) (m : Nat) (w : World) (_e1 : min (s.size : Int) 2 = (m : Int)) (_e2 : m ≤ s.size) (_e3 : s.size ≤ 100000) (_h0 : ((s.extract 0 m).toList == [43, 61]) = false) (_h1 : ((s.extract 0 m).toList == [45, 61]) = false) (_h2 : ((s.extract 0 m).toList == [42, 61]) = false) (_h3 : ((s.extract 0 m).toList == [47, 61]) = false) (_h4 : ((s.extract 0 m).toList == [37, 61]) = false) (_h5 : ((s.extract 0 m).toList == [61, 61]) = false) (_h6 : ((s.extract 0 m).toList == [60, 61]) = false) (_h7 : ((s.extract 0 m).toList == [62, 61]) = false) (_h8 : ((s.extract 0 m).toList == [33, 61]) = false) (_h9 : ((s.extract 0 m).toList == [43, 43]) = false) (_h10 : ((s.extract 0 m).toList == [45, 45]) = false) (_h11 : ((s.extract 0 m).toList == [38, 38]) = false) (_h12 : ((s.extract 0 m).toList == [124, 124]) = false) (_h13 : ((s.extract 0 m).toList == [62, 62]) = false) (_h14 : ((s.extract 0 m).toList == [33, 126]) = false) (_he : s.toList.isEmpty = true) : Calls Tryz.prog 49 #[.string s] w (SgPost 0 w) := by
 go_enter Tryz.func49, Tryz.ntmps49
 go_wp2
 go_ret
 exact ⟨rfl, rfl⟩
theorem sign_y (s : ByteArray) (m : Nat) (w : World) (_e1 : min (s.size : Int) 2 = (m : Int)) (_e2 : m ≤ s.size) (_e3 : s.size ≤ 100000) (_h0 : ((s.extract 0 m).toList == [43, 61]) = false) (_h1 : ((s.extract 0 m).toList == [45, 61]) = false) (_h2 : ((s.extract 0 m).toList == [42, 61]) = false) (_h3 : ((s.extract 0 m).toList == [47, 61]) = false) (_h4 : ((s.extract 0 m).toList == [37, 61]) = false) (_h5 : ((s.extract 0 m).toList == [61, 61]) = false) (_h6 : ((s.extract 0 m).toList == [60, 61]) = false) (_h7 : ((s.extract 0 m).toList == [62, 61]) = false) (_h8 : ((s.extract 0 m).toList == [33, 61]) = false) (_h9 : ((s.extract 0 m).toList == [43, 43]) = false) (_h10 : ((s.extract 0 m).toList == [45, 45]) = false) (_h11 : ((s.extract 0 m).toList == [38, 38]) = false) (_h12 : ((s.extract 0 m).toList == [124, 124]) = false) (_h13 : ((s.extract 0 m).toList == [62, 62]) = false) (_h14 : ((s.extract 0 m).toList == [33, 126]) = false) (_he : s.toList.isEmpty = false) (h0 : 0 < s.size) (i : Int) (hi : 0 ≤ i)
  (C : Hid (∀ W, Calls Tryz.prog 62 #[.string ⟨#[123, 125, 40, 41, 91, 93, 59, 44, 43, 45, 42, 47, 37, 33, 62, 60, 124, 63, 58, 126, 36, 61]⟩, .int .u8 (s[0].toNat : Int)] W fun e w' => e = .returned (.int .i64 i) ∧ w' = W)) : Calls Tryz.prog 49 #[.string s] w (SgPost 1 w) := by
 go_enter Tryz.func49, Tryz.ntmps49
 go_wp2_with ((with_reducible refine (C.out _).mono ?_); rintro e w1 ⟨rfl, rfl⟩)
 go_ret
 exact ⟨rfl, rfl⟩
theorem sign_n (s : ByteArray) (m : Nat) (w : World) (_e1 : min (s.size : Int) 2 = (m : Int)) (_e2 : m ≤ s.size) (_e3 : s.size ≤ 100000) (_h0 : ((s.extract 0 m).toList == [43, 61]) = false) (_h1 : ((s.extract 0 m).toList == [45, 61]) = false) (_h2 : ((s.extract 0 m).toList == [42, 61]) = false) (_h3 : ((s.extract 0 m).toList == [47, 61]) = false) (_h4 : ((s.extract 0 m).toList == [37, 61]) = false) (_h5 : ((s.extract 0 m).toList == [61, 61]) = false) (_h6 : ((s.extract 0 m).toList == [60, 61]) = false) (_h7 : ((s.extract 0 m).toList == [62, 61]) = false) (_h8 : ((s.extract 0 m).toList == [33, 61]) = false) (_h9 : ((s.extract 0 m).toList == [43, 43]) = false) (_h10 : ((s.extract 0 m).toList == [45, 45]) = false) (_h11 : ((s.extract 0 m).toList == [38, 38]) = false) (_h12 : ((s.extract 0 m).toList == [124, 124]) = false) (_h13 : ((s.extract 0 m).toList == [62, 62]) = false) (_h14 : ((s.extract 0 m).toList == [33, 126]) = false) (_he : s.toList.isEmpty = false) (h0 : 0 < s.size) (i : Int) (hi : i < 0)
  (C : Hid (∀ W, Calls Tryz.prog 62 #[.string ⟨#[123, 125, 40, 41, 91, 93, 59, 44, 43, 45, 42, 47, 37, 33, 62, 60, 124, 63, 58, 126, 36, 61]⟩, .int .u8 (s[0].toNat : Int)] W fun e w' => e = .returned (.int .i64 i) ∧ w' = W)) : Calls Tryz.prog 49 #[.string s] w (SgPost 0 w) := by
 go_enter Tryz.func49, Tryz.ntmps49
 go_wp2_with ((with_reducible refine (C.out _).mono ?_); rintro e w1 ⟨rfl, rfl⟩)
 go_ret
 exact ⟨rfl, rfl⟩
theorem is_or2 (t : ByteArray) (l : List UInt8) : ((t.toList == l) = true ∧ t.data.toList = l) ∨ ((t.toList == l) = false ∧ ¬ t.data.toList = l) := by
 by_cases h : t.data.toList = l
 ·
  exact .inl ⟨by rw [ByteArray.toList_eq]; exact beq_iff_eq.2 h, h⟩
 ·
  exact .inr ⟨by rw [ByteArray.toList_eq]; exact beq_eq_false_iff_ne.2 h, h⟩
theorem signs_any (s : ByteArray) (w : World) (hs : s.size ≤ 100000) : Calls Tryz.prog 49 #[.string s] w fun e w' => e = .returned (.int .i64 (signL s.data.toList : Nat)) ∧ w' = w := by
 show Calls Tryz.prog 49 #[.string s] w (SgPost (signL s.data.toList) w)
 obtain ⟨m, hm⟩ : ∃ m, min s.size 2 = m := ⟨_, rfl⟩
 have e1 : min (s.size : Int) 2 = (m : Int) := by omega
 have e2 : m ≤ s.size := by omega
 have ht : (s.extract 0 m).data.toList = s.data.toList.take 2 := by
  rw [ext0, ← hm]
  rcases Nat.le_total 2 s.size with h | h
  ·
   rw [Nat.min_eq_right h]
  ·
   have := ba_sz s
   rw [Nat.min_eq_left h, List.take_of_length_le (by omega), List.take_of_length_le (by omega)]
 rcases is_or2 (s.extract 0 m) [43, 61] with ⟨h0, k⟩ | ⟨h0, m0⟩
 ·
  rw [ht] at k
  rw [show signL s.data.toList = 2 from by unfold signL; rw [k, if_pos (by decide)]]
  exact sign_0 s m w e1 e2 hs h0
 rw [ht] at m0
 rcases is_or2 (s.extract 0 m) [45, 61] with ⟨h1, k⟩ | ⟨h1, m1⟩
 ·
  rw [ht] at k
  rw [show signL s.data.toList = 2 from by unfold signL; rw [k, if_pos (by decide)]]
  exact sign_1 s m w e1 e2 hs h0 h1
 rw [ht] at m1
 rcases is_or2 (s.extract 0 m) [42, 61] with ⟨h2, k⟩ | ⟨h2, m2⟩
 ·
  rw [ht] at k
  rw [show signL s.data.toList = 2 from by unfold signL; rw [k, if_pos (by decide)]]
  exact sign_2 s m w e1 e2 hs h0 h1 h2
 rw [ht] at m2
 rcases is_or2 (s.extract 0 m) [47, 61] with ⟨h3, k⟩ | ⟨h3, m3⟩
 ·
  rw [ht] at k
  rw [show signL s.data.toList = 2 from by unfold signL; rw [k, if_pos (by decide)]]
  exact sign_3 s m w e1 e2 hs h0 h1 h2 h3
 rw [ht] at m3
 rcases is_or2 (s.extract 0 m) [37, 61] with ⟨h4, k⟩ | ⟨h4, m4⟩
 ·
  rw [ht] at k
  rw [show signL s.data.toList = 2 from by unfold signL; rw [k, if_pos (by decide)]]
  exact sign_4 s m w e1 e2 hs h0 h1 h2 h3 h4
 rw [ht] at m4
 rcases is_or2 (s.extract 0 m) [61, 61] with ⟨h5, k⟩ | ⟨h5, m5⟩
 ·
  rw [ht] at k
  rw [show signL s.data.toList = 2 from by unfold signL; rw [k, if_pos (by decide)]]
  exact sign_5 s m w e1 e2 hs h0 h1 h2 h3 h4 h5
 rw [ht] at m5
 rcases is_or2 (s.extract 0 m) [60, 61] with ⟨h6, k⟩ | ⟨h6, m6⟩
 ·
  rw [ht] at k
  rw [show signL s.data.toList = 2 from by unfold signL; rw [k, if_pos (by decide)]]
  exact sign_6 s m w e1 e2 hs h0 h1 h2 h3 h4 h5 h6
 rw [ht] at m6
 rcases is_or2 (s.extract 0 m) [62, 61] with ⟨h7, k⟩ | ⟨h7, m7⟩
 ·
  rw [ht] at k
  rw [show signL s.data.toList = 2 from by unfold signL; rw [k, if_pos (by decide)]]
  exact sign_7 s m w e1 e2 hs h0 h1 h2 h3 h4 h5 h6 h7
 rw [ht] at m7
 rcases is_or2 (s.extract 0 m) [33, 61] with ⟨h8, k⟩ | ⟨h8, m8⟩
 ·
  rw [ht] at k
  rw [show signL s.data.toList = 2 from by unfold signL; rw [k, if_pos (by decide)]]
  exact sign_8 s m w e1 e2 hs h0 h1 h2 h3 h4 h5 h6 h7 h8
 rw [ht] at m8
 rcases is_or2 (s.extract 0 m) [43, 43] with ⟨h9, k⟩ | ⟨h9, m9⟩
 ·
  rw [ht] at k
  rw [show signL s.data.toList = 2 from by unfold signL; rw [k, if_pos (by decide)]]
  exact sign_9 s m w e1 e2 hs h0 h1 h2 h3 h4 h5 h6 h7 h8 h9
 rw [ht] at m9
 rcases is_or2 (s.extract 0 m) [45, 45] with ⟨h10, k⟩ | ⟨h10, m10⟩
 ·
  rw [ht] at k
  rw [show signL s.data.toList = 2 from by unfold signL; rw [k, if_pos (by decide)]]
  exact sign_10 s m w e1 e2 hs h0 h1 h2 h3 h4 h5 h6 h7 h8 h9 h10
 rw [ht] at m10
 rcases is_or2 (s.extract 0 m) [38, 38] with ⟨h11, k⟩ | ⟨h11, m11⟩
 ·
  rw [ht] at k
  rw [show signL s.data.toList = 2 from by unfold signL; rw [k, if_pos (by decide)]]
  exact sign_11 s m w e1 e2 hs h0 h1 h2 h3 h4 h5 h6 h7 h8 h9 h10 h11
 rw [ht] at m11
 rcases is_or2 (s.extract 0 m) [124, 124] with ⟨h12, k⟩ | ⟨h12, m12⟩
 ·
  rw [ht] at k
  rw [show signL s.data.toList = 2 from by unfold signL; rw [k, if_pos (by decide)]]
  exact sign_12 s m w e1 e2 hs h0 h1 h2 h3 h4 h5 h6 h7 h8 h9 h10 h11 h12
 rw [ht] at m12
 rcases is_or2 (s.extract 0 m) [62, 62] with ⟨h13, k⟩ | ⟨h13, m13⟩
 ·
  rw [ht] at k
  rw [show signL s.data.toList = 2 from by unfold signL; rw [k, if_pos (by decide)]]
  exact sign_13 s m w e1 e2 hs h0 h1 h2 h3 h4 h5 h6 h7 h8 h9 h10 h11 h12 h13
 rw [ht] at m13
 rcases is_or2 (s.extract 0 m) [33, 126] with ⟨h14, k⟩ | ⟨h14, m14⟩
 ·
  rw [ht] at k
  rw [show signL s.data.toList = 2 from by unfold signL; rw [k, if_pos (by decide)]]
  exact sign_14 s m w e1 e2 hs h0 h1 h2 h3 h4 h5 h6 h7 h8 h9 h10 h11 h12 h13 h14
 rw [ht] at m14
 have e3 : s.data.toList.take 2 ∉ signsL := by
  simp only [signsL, List.mem_cons, List.not_mem_nil, not_or]
  exact ⟨m0, m1, m2, m3, m4, m5, m6, m7, m8, m9, m10, m11, m12, m13, m14, fun h => h⟩
 by_cases hz : 0 < s.size
 ·
  have hl : s.data.toList = s[0] :: s.data.toList.drop 1 := by have := drop_at s 0 hz; rwa [List.drop_zero] at this
  have he : s.toList.isEmpty = false := by rw [ByteArray.toList_eq, hl]; rfl
  have hg : signL s.data.toList = if s[0] ∈ signsC then 1 else 0 := by
   unfold signL; rw [if_neg e3]
   conv => lhs; rw [hl]
  have hx := index_mem signsC s[0]
  have C := kH fun W => sgx_any s[0] W
  rw [hg]
  by_cases hc : s[0] ∈ signsC
  ·
   rw [if_pos hc]
   exact sign_y s m w e1 e2 hs h0 h1 h2 h3 h4 h5 h6 h7 h8 h9 h10 h11 h12 h13 h14 he hz _ (hx.2 hc) C
  ·
   rw [if_neg hc]
   exact sign_n s m w e1 e2 hs h0 h1 h2 h3 h4 h5 h6 h7 h8 h9 h10 h11 h12 h13 h14 he hz _ (by have : ¬ (0 : Int) ≤ Lib.indexByte signsC s[0] := fun h => hc (hx.1 h); omega) C
 ·
  have : s = ⟨#[]⟩ := ba_of s [] (by have := ba_sz s; exact List.length_eq_zero_iff.1 (by omega))
  rw [show signL s.data.toList = 0 from by rw [this]; rfl]
  exact sign_e s m w e1 e2 hs h0 h1 h2 h3 h4 h5 h6 h7 h8 h9 h10 h11 h12 h13 h14 (by rw [this, ByteArray.toList_eq]; rfl)
/-! Backslashes. -/
def escV (esc : UInt8 → List UInt8) (l : List UInt8) : ByteArray := ⟨(match l with | [] => [] | d :: _ => esc d).toArray⟩
theorem ext1 (s : ByteArray) (h : 0 < s.size) : s.extract 0 1 = ⟨#[s[0]]⟩ := WideShapes.bytes_inj (by
 rw [ext0]
 have hl : s.data.toList = s[0] :: s.data.toList.drop 1 := by have := drop_at s 0 h; rwa [List.drop_zero] at this
 rw [hl]; rfl)
theorem sesc_any (s : ByteArray) (w : World) (_hs : s.size ≤ 100000) : Calls Tryz.prog 28 #[.string s] w fun e w' => e = .returned (.string (escV strEsc s.data.toList)) ∧ Below w.heap.size w w' := by
 by_cases hz : 0 < s.size
 ·
  have hl : s.data.toList = s[0] :: s.data.toList.drop 1 := by have := drop_at s 0 hz; rwa [List.drop_zero] at this
  have he : s.toList.isEmpty = false := by rw [ByteArray.toList_eq, hl]; rfl
  have hv : escV strEsc s.data.toList = ⟨(strEsc s[0]).toArray⟩ := by rw [hl]; rfl
  have hx := ext1 s hz
  rw [hv]
  clear hl hv
  by_cases h1 : (s[0].toNat : Int) = 110
  ·
   have c1 : s[0] = 110 := nat_of (by decide) h1
   rw [show (⟨(strEsc s[0]).toArray⟩ : ByteArray) = ⟨#[10]⟩ from by rw [c1]; rfl]
   clear hx c1
   go_enter Tryz.func28, Tryz.ntmps28
   go_wp2
   go_ret
   exact ⟨rfl, Below.refl _ _⟩
  by_cases h2 : (s[0].toNat : Int) = 116
  ·
   have c1 : s[0] = 116 := nat_of (by decide) h2
   rw [show (⟨(strEsc s[0]).toArray⟩ : ByteArray) = ⟨#[9]⟩ from by rw [c1]; rfl]
   clear hx c1
   go_enter Tryz.func28, Tryz.ntmps28
   go_wp2
   go_ret
   exact ⟨rfl, Below.refl _ _⟩
  have n1 : ¬ s[0] = 110 := fun e => h1 (by rw [e]; rfl)
  have n2 : ¬ s[0] = 116 := fun e => h2 (by rw [e]; rfl)
  by_cases h3 : (s[0].toNat : Int) = 34 ∨ (s[0].toNat : Int) = 92 ∨ (s[0].toNat : Int) = 47
  ·
   have c1 : s[0] = 34 ∨ s[0] = 92 ∨ s[0] = 47 := h3.imp (nat_of (by decide)) (Or.imp (nat_of (by decide)) (nat_of (by decide)))
   rw [show (⟨(strEsc s[0]).toArray⟩ : ByteArray) = s.extract 0 1 from by rw [hx]; unfold strEsc; rw [if_neg n1, if_neg n2, if_pos c1]]
   clear hx c1 n1 n2
   rcases h3 with h3 | h3 | h3
   all_goals
    go_enter Tryz.func28, Tryz.ntmps28
    go_wp2
    go_ret
    exact ⟨rfl, Below.refl _ _⟩
  ·
   have n3 : ¬ (s[0] = 34 ∨ s[0] = 92 ∨ s[0] = 47) := fun h => h3 (h.imp (fun e => by rw [e]; rfl) (Or.imp (fun e => by rw [e]; rfl) (fun e => by rw [e]; rfl)))
   rw [show (⟨(strEsc s[0]).toArray⟩ : ByteArray) = ⟨#[]⟩ from by unfold strEsc; rw [if_neg n1, if_neg n2, if_neg n3]]
   have n4 : ¬ (s[0].toNat : Int) = 34 := fun h => h3 (.inl h)
   have n5 : ¬ (s[0].toNat : Int) = 92 := fun h => h3 (.inr (.inl h))
   have n6 : ¬ (s[0].toNat : Int) = 47 := fun h => h3 (.inr (.inr h))
   clear hx n3 h3 n1 n2
   go_enter Tryz.func28, Tryz.ntmps28
   go_wp2
   go_ret
   exact ⟨rfl, Below.refl _ _⟩
 ·
  have : s = ⟨#[]⟩ := ba_of s [] (by have := ba_sz s; exact List.length_eq_zero_iff.1 (by omega))
  subst this
  go_enter Tryz.func28, Tryz.ntmps28
  go_wp2
  go_ret
  exact ⟨rfl, Below.refl _ _⟩
theorem resc_any (s : ByteArray) (w : World) (_hs : s.size ≤ 100000) : Calls Tryz.prog 30 #[.string s] w fun e w' => e = .returned (.string (escV reEsc s.data.toList)) ∧ Below w.heap.size w w' := by
 by_cases hz : 0 < s.size
 ·
  have hl : s.data.toList = s[0] :: s.data.toList.drop 1 := by have := drop_at s 0 hz; rwa [List.drop_zero] at this
  have he : s.toList.isEmpty = false := by rw [ByteArray.toList_eq, hl]; rfl
  have hv : escV reEsc s.data.toList = ⟨(reEsc s[0]).toArray⟩ := by rw [hl]; rfl
  have hx := ext1 s hz
  rw [hv]
  clear hl hv
  by_cases h1 : (s[0].toNat : Int) = 10
  ·
   have c1 : s[0] = 10 := nat_of (by decide) h1
   rw [show (⟨(reEsc s[0]).toArray⟩ : ByteArray) = ⟨#[]⟩ from by rw [c1]; rfl]
   clear hx c1
   go_enter Tryz.func30, Tryz.ntmps30
   go_wp2
   go_ret
   exact ⟨rfl, Below.refl _ _⟩
  by_cases h2 : (s[0].toNat : Int) = 47
  ·
   have c1 : s[0] = 47 := nat_of (by decide) h2
   rw [show (⟨(reEsc s[0]).toArray⟩ : ByteArray) = ⟨#[47]⟩ from by rw [c1]; rfl]
   clear hx c1
   go_enter Tryz.func30, Tryz.ntmps30
   go_wp2
   go_ret
   exact ⟨rfl, Below.refl _ _⟩
  have n1 : ¬ s[0] = 10 := fun e => h1 (by rw [e]; rfl)
  have n2 : ¬ s[0] = 47 := fun e => h2 (by rw [e]; rfl)
  have HV : Hid ((⟨(reEsc s[0]).toArray⟩ : ByteArray) = ⟨#[92]⟩ ++ s.extract 0 1) := kH (by
   unfold reEsc; rw [if_neg n1, if_neg n2, hx]; rfl)
  generalize (⟨(reEsc s[0]).toArray⟩ : ByteArray) = V at *
  clear hx n1 n2
  go_enter Tryz.func30, Tryz.ntmps30
  go_wp2
  go_ret
  exact ⟨by rw [HV.out]; rfl, Below.refl _ _⟩
 ·
  have : s = ⟨#[]⟩ := ba_of s [] (by have := ba_sz s; exact List.length_eq_zero_iff.1 (by omega))
  subst this
  go_enter Tryz.func30, Tryz.ntmps30
  go_wp2
  go_ret
  exact ⟨rfl, Below.refl _ _⟩
/-! Numbers. -/
theorem numb_any (s : ByteArray) (w : World) (hs : s.size ≤ 100000) : Calls Tryz.prog 48 #[.string s] w fun e w' => e = .returned (.int .i64 (numL s.data.toList : Nat)) ∧ w' = w := by
 have C1 := kH fun W => digs_any s W hs
 have hd := dig_le s.data.toList
 rw [ba_sz] at hd
 have hN : numL s.data.toList = numT (digL s.data.toList) (s.data.toList.drop (digL s.data.toList)) := rfl
 generalize numL s.data.toList = N at *
 generalize digL s.data.toList = D at *
 by_cases h1 : (s.data.toList.drop D).head? = some 46
 ·
  have hlt : D < s.size := by
   rw [head_drop] at h1; split at h1
   ·
    assumption
   ·
    cases h1
  have hc : s[D] = 46 := by rw [head_drop, dif_pos hlt] at h1; exact Option.some.inj h1
  have HP := kH fun W => hp_is (s.extract D s.size) 46 true (by rw [extk]; exact decide_eq_true h1) W
  have hz := extk s (D + 1)
  have C2 := kH fun W => digs_any (s.extract (D + 1) s.size) W (by simp; omega)
  rw [hz] at C2
  have hd2 := dig_le (s.data.toList.drop (D + 1))
  rw [List.length_drop, ba_sz] at hd2
  rw [drop_at s D hlt, hc, numT_cons, if_pos rfl] at hN
  generalize digL (s.data.toList.drop (D + 1)) = P at *
  clear hz h1 hc
  by_cases h2 : D + P = 0
  ·
   rw [if_pos h2] at hN
   have h3 : (D : Int) + (P : Int) = 0 := by omega
   subst hN
   go_enter Tryz.func48, Tryz.ntmps48
   go_wp2_with (first | ((with_reducible refine (C1.out _).mono ?_); rintro e w1 ⟨rfl, rfl⟩) | (refine (HP.out _).mono ?_; rintro e w1 ⟨rfl, rfl⟩) | (refine (C2.out _).mono ?_; rintro e w1 ⟨rfl, rfl⟩))
   go_ret
   exact ⟨rfl, rfl⟩
  ·
   rw [if_neg h2] at hN
   have h3 : ¬ (D : Int) + (P : Int) = 0 := by omega
   subst hN
   go_enter Tryz.func48, Tryz.ntmps48
   go_wp2_with (first | ((with_reducible refine (C1.out _).mono ?_); rintro e w1 ⟨rfl, rfl⟩) | (refine (HP.out _).mono ?_; rintro e w1 ⟨rfl, rfl⟩) | (refine (C2.out _).mono ?_; rintro e w1 ⟨rfl, rfl⟩))
   go_ret
   exact ⟨rfl, rfl⟩
 ·
  have HP := kH fun W => hp_is (s.extract D s.size) 46 false (by rw [extk]; exact decide_eq_false h1) W
  have hN' : N = D := by
   rw [hN]
   cases hx : s.data.toList.drop D with
   | nil => rfl
   | cons c t => rw [numT_cons, if_neg (fun e => h1 (by rw [hx, e]; rfl))]
  subst hN'
  clear hN h1
  go_enter Tryz.func48, Tryz.ntmps48
  go_wp2_with (first | ((with_reducible refine (C1.out _).mono ?_); rintro e w1 ⟨rfl, rfl⟩) | (refine (HP.out _).mono ?_; rintro e w1 ⟨rfl, rfl⟩))
  go_ret
  exact ⟨rfl, rfl⟩
end Go.Proofs.YtmbfdkiejneheaaGreatDoor
