/-
  CONTRACTS of layer 7's parts of a value's printing (takesNoughts, sign, fill, text, char, places, digits): what each hands back; nothing that was there is written. Conditions: the library's tables of powers of ten and of trailing zeros are as they were laid; its MaxLen holds some int.
-/
import Derived.Test.YtipcanbeegladaaGreatDoorFmtL2
import Derived.Test.YtipcanbeegladaaGreatDoorFmtW1
import Derived.Test.YtipcanbeegladaaGreatDoorHex16
import Derived.Test.YtipcanbeegladaaGreatDoorCellW2
import Derived.Lib.IndexMore
namespace Go.Proofs.YtipcanbeegladaaGreatDoor
open Go.RowKit

/-- What the library's variables hold. -/
structure Gf (w : World) : Prop where
  gl : Gl w
  dz : Dz w
  ml : ∃ m, w.cell? ⟨0, 0, none⟩ = some (.int .i64 m)
theorem Gf.next {w w1 : World} (h : Gf w) (hb : Below w.heap.size w w1) : Gf w1 :=
  ⟨h.gl.next hb, h.dz.next hb, by obtain ⟨m, hm⟩ := h.ml; exact ⟨m, (hb.cell (p := ⟨0, 0, none⟩) (World.block_lt_of_cell? _ _ hm)).trans hm⟩⟩
theorem ba_sz (s : ByteArray) : s.data.toList.length = s.size := by simp
theorem ba_mk (l : List UInt8) : (⟨l.toArray⟩ : ByteArray).size = l.length := by show l.toArray.size = _; simp
theorem ba_ls (l : List UInt8) : (⟨l.toArray⟩ : ByteArray).data.toList = l := by simp

theorem index1_no (l : List UInt8) (c : UInt8) (h : c ∉ l) : Lib.index l [c] = -1 := by
  induction l with
  | nil => rfl
  | cons b l ih =>
    have hb : ¬ c = b := fun e => h (by rw [e]; simp)
    have hl : c ∉ l := fun e => h (by simp [e])
    unfold Lib.index
    rw [ih hl]
    simp [List.isPrefixOf, hb]
theorem index1_at (a b : List UInt8) (c : UInt8) (h : c ∉ a) : Lib.index (a ++ c :: b) [c] = a.length := by
  induction a with
  | nil => simp [Lib.index, List.isPrefixOf]
  | cons x a ih =>
    have hx : ¬ c = x := fun e => h (by rw [e]; simp)
    have ha : c ∉ a := fun e => h (by simp [e])
    show Lib.index (x :: (a ++ c :: b)) [c] = _
    unfold Lib.index
    rw [ih ha]
    have : ¬ ((a.length : Int) = -1) := by omega
    simp [List.isPrefixOf, hx, this]
theorem cut1_no (l : List UInt8) (c : UInt8) (h : c ∉ l) : Lib.cut l [c] = (l, [], false) := by
  unfold Lib.cut; rw [index1_no l c h]; rfl
theorem cut1_at (a b : List UInt8) (c : UInt8) (h : c ∉ a) : Lib.cut (a ++ c :: b) [c] = (a, b, true) := by
  unfold Lib.cut
  rw [index1_at a b c h, if_pos (by omega)]
  simp

/-- So many of one sign. -/
theorem rep_any (c : UInt8) (S : ByteArray) (hS : S = ⟨#[c]⟩) (n : Nat) (R : ByteArray) (hR : R.data.toList = List.replicate n c) (w : World) (hn : n ≤ 1000000) :
    Calls Tryz.prog 48 #[.string S, .int .i64 (n : Int)] w fun e w' => e = .returned (.string R) ∧ Below w.heap.size w w' := by
  subst hS
  have h1 : (⟨#[c]⟩ : ByteArray).size = 1 := rfl
  refine (Tryz.strings_Repeat ⟨#[c]⟩ n w (by omega) (by rw [h1]; omega)).mono ?_
  rintro e w' ⟨rfl, hb⟩
  refine ⟨ret_s ?_, hb⟩
  have := Lib.repeatL_replicate c 1 n
  rw [Nat.mul_one] at this
  rw [show (⟨#[c]⟩ : ByteArray).data.toList = List.replicate 1 c from rfl, this]
  exact (ba_of _ _ hR).symm

def cva (l z p bl : Bool) (wd pr : Int) (pc : Bool) (k : Int) : Value := .agg #[.bool l, .bool z, .bool p, .bool bl, .int .i64 wd, .int .i64 pr, .bool pc, .int .u8 k]
/-- May noughts stand in the place of blanks? -/
def takesI (k : Int) (pc : Bool) : Bool := if k = 115 then false else if k = 99 then false else if k = 102 then true else !pc
theorem takes_any (l z p bl : Bool) (wd pr : Int) (pc : Bool) (k : Int) (w : World) :
    Calls Tryz.prog 49 #[cva l z p bl wd pr pc k] w fun e w' => e = .returned (.bool (takesI k pc)) ∧ Below w.heap.size w w' := by
  unfold takesI cva
  by_cases h1 : k = 115
  · subst h1
    go_enter Tryz.func49, Tryz.ntmps49
    go_wp2
    go_ret
    exact ⟨rfl, (Below.refl _ _).alloc (Nat.le_refl _) _⟩
  by_cases h2 : k = 99
  · subst h2
    go_enter Tryz.func49, Tryz.ntmps49
    go_wp2
    go_ret
    exact ⟨rfl, (Below.refl _ _).alloc (Nat.le_refl _) _⟩
  by_cases h3 : k = 102
  · subst h3
    go_enter Tryz.func49, Tryz.ntmps49
    go_wp2
    go_ret
    exact ⟨rfl, (Below.refl _ _).alloc (Nat.le_refl _) _⟩
  · rw [if_neg h1, if_neg h2, if_neg h3]
    go_enter Tryz.func49, Tryz.ntmps49
    go_wp2
    go_ret
    exact ⟨rfl, (Below.refl _ _).alloc (Nat.le_refl _) _⟩
def signB (b p bl : Bool) : ByteArray := if b then ⟨#[45]⟩ else if p then ⟨#[43]⟩ else if bl then ⟨#[32]⟩ else ⟨#[]⟩
theorem sign_any (l z p bl : Bool) (wd pr : Int) (pc : Bool) (k : Int) (b : Bool) (w : World) :
    Calls Tryz.prog 29 #[cva l z p bl wd pr pc k, .bool b] w fun e w' => e = .returned (.string (signB b p bl)) ∧ Below w.heap.size w w' := by
  unfold signB cva
  cases b
  · cases p
    · cases bl
      all_goals
        go_enter Tryz.func29, Tryz.ntmps29
        go_wp2
        go_ret
        exact ⟨rfl, (Below.refl _ _).alloc (Nat.le_refl _) _⟩
    · go_enter Tryz.func29, Tryz.ntmps29
      go_wp2
      go_ret
      exact ⟨rfl, (Below.refl _ _).alloc (Nat.le_refl _) _⟩
  · go_enter Tryz.func29, Tryz.ntmps29
    go_wp2
    go_ret
    exact ⟨rfl, (Below.refl _ _).alloc (Nat.le_refl _) _⟩
/-- To the width. -/
def fillI (l z t : Bool) (wd : Nat) (sg bd : List UInt8) : List UInt8 :=
  if l then sg ++ bd ++ List.replicate (wd - sg.length - bd.length) 32
  else if z && t then sg ++ List.replicate (wd - sg.length - bd.length) 48 ++ bd
  else List.replicate (wd - sg.length - bd.length) 32 ++ sg ++ bd
set_option maxHeartbeats 2000000 in
theorem fill_any (l z p bl : Bool) (wd : Nat) (pr : Int) (pc : Bool) (k : Int) (sg bd R : ByteArray) (w : World) (hw : wd ≤ 1001) (hs : sg.size ≤ 1000) (hb : bd.size ≤ 1000000) (hR : R.data.toList = fillI l z (takesI k pc) wd sg.data.toList bd.data.toList) :
    Calls Tryz.prog 25 #[cva l z p bl wd pr pc k, .string sg, .string bd] w fun e w' => e = .returned (.string R) ∧ Below w.heap.size w w' := by
  obtain ⟨n, hn⟩ : ∃ n, wd - sg.size - bd.size = n := ⟨_, rfl⟩
  have e1 : max ((wd : Int) - (sg.size : Int) - (bd.size : Int)) 0 = (n : Int) := by omega
  have hnb : n ≤ 1001 := by omega
  unfold fillI at hR
  rw [ba_sz, ba_sz, hn] at hR
  have C1 := Lib.hid fun (c : UInt8) (R : ByteArray) (hR : R.data.toList = List.replicate n c) W => rep_any c ⟨#[c]⟩ rfl n R hR W (by omega)
  have CT := Lib.hid fun W => takes_any l z p bl wd pr pc k W
  generalize takesI k pc = t at *
  obtain ⟨B, hB, hBs⟩ := has_ba (List.replicate n (32 : UInt8))
  obtain ⟨Z, hZ, hZs⟩ := has_ba (List.replicate n (48 : UInt8))
  have CB := Lib.hid fun W => C1.out 32 B hB W
  have CZ := Lib.hid fun W => C1.out 48 Z hZ W
  rw [List.length_replicate] at hBs hZs
  have hBi : (B.size : Int) ≤ 1001 := by omega
  have hZi : (Z.size : Int) ≤ 1001 := by omega
  have hsi : (sg.size : Int) ≤ 1000 := by omega
  have hbi : (bd.size : Int) ≤ 1000000 := by omega
  have HR := Lib.hid (And.intro hR (And.intro hB hZ))
  clear C1 hR hB hZ hn hBs hZs
  unfold cva at CT ⊢
  cases l
  · cases z
    · go_enter Tryz.func25, Tryz.ntmps25
      go_wp2_with fail
      refine (CB.out _).mono ?_
      rintro e w1 ⟨rfl, hb1⟩
      have HB1 := Lib.hid (below_new hb1)
      clear hb1
      go_wp2_with fail
      go_ret
      refine ⟨ret_s (WideShapes.bytes_inj ?_), HB1.out⟩
      rw [HR.out.1, ← HR.out.2.1]; simp
    · cases t
      · go_enter Tryz.func25, Tryz.ntmps25
        go_wp2_with fail
        refine (CT.out _).mono ?_
        rintro e w0 ⟨rfl, hb0⟩
        obtain ⟨hc, hf⟩ := bcell hb0
        have HB0 := Lib.hid (below_new hb0)
        clear hb0
        go_wp2_with fail
        refine (CB.out _).mono ?_
        rintro e w1 ⟨rfl, hb1⟩
        have HB1 := Lib.hid (HB0.out.trans (hb1.mono HB0.out.size))
        clear hb1
        go_wp2_with fail
        go_ret
        refine ⟨ret_s (WideShapes.bytes_inj ?_), HB1.out⟩
        rw [HR.out.1, ← HR.out.2.1]; simp
      · go_enter Tryz.func25, Tryz.ntmps25
        go_wp2_with fail
        refine (CT.out _).mono ?_
        rintro e w0 ⟨rfl, hb0⟩
        obtain ⟨hc, hf⟩ := bcell hb0
        have HB0 := Lib.hid (below_new hb0)
        clear hb0
        go_wp2_with fail
        refine (CZ.out _).mono ?_
        rintro e w1 ⟨rfl, hb1⟩
        have HB1 := Lib.hid (HB0.out.trans (hb1.mono HB0.out.size))
        clear hb1
        go_wp2_with fail
        go_ret
        refine ⟨ret_s (WideShapes.bytes_inj ?_), HB1.out⟩
        rw [HR.out.1, ← HR.out.2.2]; simp
  · go_enter Tryz.func25, Tryz.ntmps25
    go_wp2_with fail
    refine (CB.out _).mono ?_
    rintro e w1 ⟨rfl, hb1⟩
    have HB1 := Lib.hid (below_new hb1)
    clear hb1
    go_wp2_with fail
    go_ret
    refine ⟨ret_s (WideShapes.bytes_inj ?_), HB1.out⟩
    rw [HR.out.1, ← HR.out.2.1]; simp
set_option maxHeartbeats 1000000 in
theorem ftext_any (l z p bl : Bool) (wd : Int) (pr : Nat) (pc : Bool) (k kk nn : Int) (s R : ByteArray) (w : World) (hn : kk = 1 → OkN nn) (hs : (strC kk nn s).size ≤ 1000000) (_hp : pr ≤ 1001) (G : Gf w)
    (hR : R.data.toList = if pc then (strC kk nn s).data.toList.take pr else (strC kk nn s).data.toList) :
    Calls Tryz.prog 26 #[cva l z p bl wd pr pc k, cv kk nn s] w fun e w' => e = .returned (.string R) ∧ Below w.heap.size w w' := by
  have C1 := Lib.hid fun W G => cstr_any kk nn s W hn hs G
  have HG := Lib.hid G
  have h0 := ba_sz (strC kk nn s)
  generalize strC kk nn s = t at *
  have hti : (t.size : Int) ≤ 1000000 := by omega
  obtain ⟨m, hm⟩ : ∃ m, min pr t.size = m := ⟨_, rfl⟩
  have e1 : min (pr : Int) (t.size : Int) = (m : Int) := by omega
  have hmt : m ≤ t.size := by omega
  have HR : Hid (R.data.toList = if pc then t.data.toList.take m else t.data.toList) := Lib.hid (by
    rw [hR]; cases pc
    · rfl
    · simp only [if_true]
      rw [← hm]
      rcases Nat.le_total pr t.size with h | h
      · rw [Nat.min_eq_left h]
      · rw [Nat.min_eq_right h, List.take_of_length_le (by omega), List.take_of_length_le (by omega)])
  clear hR hm h0 G hn
  unfold cv at C1
  unfold cva cv
  cases pc
  · go_enter Tryz.func26, Tryz.ntmps26
    go_wp2_with fail
    refine (C1.out _ (HG.out.gl.next (((Below.refl _ _).alloc (Nat.le_refl _) _).alloc (by simp) _))).mono ?_
    rintro e w1 ⟨rfl, hb1⟩
    obtain ⟨hc, hf⟩ := bcell hb1
    have HB1 := Lib.hid (below_new (below_new hb1))
    clear hb1
    go_wp2_with fail
    go_ret
    refine ⟨ret_s (WideShapes.bytes_inj ?_), HB1.out⟩
    rw [HR.out]; rfl
  · go_enter Tryz.func26, Tryz.ntmps26
    go_wp2_with fail
    refine (C1.out _ (HG.out.gl.next (((Below.refl _ _).alloc (Nat.le_refl _) _).alloc (by simp) _))).mono ?_
    rintro e w1 ⟨rfl, hb1⟩
    obtain ⟨hc, hf⟩ := bcell hb1
    have HB1 := Lib.hid (below_new (below_new hb1))
    clear hb1
    go_wp2_with fail
    go_ret
    refine ⟨ret_s (WideShapes.bytes_inj ?_), HB1.out⟩
    rw [HR.out, ext0]; rfl
end Go.Proofs.YtipcanbeegladaaGreatDoor
