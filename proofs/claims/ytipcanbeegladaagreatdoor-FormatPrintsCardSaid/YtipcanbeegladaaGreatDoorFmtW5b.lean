/-
  CONTRACT of layer 7's readConversion: what it hands back; nothing that was there is written.
-/
import Derived.Test.YtipcanbeegladaaGreatDoorFmtW4
import Derived.RegionTactic
import Derived.ChangeAlike
namespace Go.Proofs.YtipcanbeegladaaGreatDoor
open Go.RowKit

theorem Only.cell {b : Nat} {w w' : World} (h : Only b w w') {p : Addr} (hp : p.block < w.heap.size) (hne : p.block ≠ b) : w'.cell? p = w.cell? p := World.cell?_of_block (w := w) (h.block p.block hp hne)
theorem Only.frozen {b : Nat} {w w' : World} (h : Only b w w') {p : Addr} (hp : p.block < w.heap.size) (hne : p.block ≠ b) : w'.frozen? p = w.frozen? p := World.frozen?_of_block (w := w) (h.block p.block hp hne)
theorem CvAt.only {w w1 : World} {b c : Nat} {l z p bl : Bool} {wd pr : Int} {pc : Bool} {k : Int} (h : CvAt w b l z p bl wd pr pc k) (hc : Only c w w1) (hne : b ≠ c) : CvAt w1 b l z p bl wd pr pc k := by
  have e1 : ∀ o, w1.cell? ⟨b, o, none⟩ = w.cell? ⟨b, o, none⟩ := fun o => hc.cell (p := ⟨b, o, none⟩) h.lt hne
  have e2 : ∀ o, w1.frozen? ⟨b, o, none⟩ = w.frozen? ⟨b, o, none⟩ := fun o => hc.frozen (p := ⟨b, o, none⟩) h.lt hne
  obtain ⟨c0, c1, c2, c3, c4, c5, c6, c7, f0, f1, f2, f3, f4, f5, f6, f7⟩ := h
  constructor <;> (first | rw [e1] | rw [e2]) <;> assumption
theorem CvAt.new (w : World) (T : TypeId) : CvAt (w.alloc (.cells #[.bool false, .bool false, .bool false, .bool false, .int .i64 0, .int .i64 0, .bool false, .int .u8 0] T)) w.heap.size false false false false 0 0 false 0 := by
  constructor <;> simp [go_sem]
theorem CvAt.drew {w : World} {b : Nat} {l z p bl : Bool} {wd pr : Int} {pc : Bool} {k : Int} (h : CvAt w b l z p bl wd pr pc k) : CvAt w.drew b l z p bl wd pr pc k := by
  obtain ⟨c0, c1, c2, c3, c4, c5, c6, c7, f0, f1, f2, f3, f4, f5, f6, f7⟩ := h
  exact ⟨c0, c1, c2, c3, c4, c5, c6, c7, f0, f1, f2, f3, f4, f5, f6, f7⟩
theorem put8 {w : World} {b : Nat} {l z p bl : Bool} {wd pr : Int} {pc : Bool} {k : Int} (h : CvAt w b l z p bl wd pr pc k) (l' z' p' bl' : Bool) (wd' pr' : Int) (pc' : Bool) (k' : Int) :
    CvAt ((((((((w.setCell ⟨b, 0, none⟩ (.bool l')).setCell ⟨b, 1, none⟩ (.bool z')).setCell ⟨b, 2, none⟩ (.bool p')).setCell ⟨b, 3, none⟩ (.bool bl')).setCell ⟨b, 4, none⟩ (.int .i64 wd')).setCell ⟨b, 5, none⟩ (.int .i64 pr')).setCell ⟨b, 6, none⟩ (.bool pc')).setCell ⟨b, 7, none⟩ (.int .u8 k')) b l' z' p' bl' wd' pr' pc' k' :=
  (((((((h.set0 l').set1 z').set2 p').set3 bl').set4 wd').set5 pr').set6 pc').set7 k'
theorem below8 {B b : Nat} {w w3 : World} (h : Below B w w3) (hb : B ≤ b) (v0 v1 v2 v3 v4 v5 v6 v7 : Value) :
    Below B w ((((((((w3.setCell ⟨b, 0, none⟩ v0).setCell ⟨b, 1, none⟩ v1).setCell ⟨b, 2, none⟩ v2).setCell ⟨b, 3, none⟩ v3).setCell ⟨b, 4, none⟩ v4).setCell ⟨b, 5, none⟩ v5).setCell ⟨b, 6, none⟩ v6).setCell ⟨b, 7, none⟩ v7) :=
  (((((((h.setCell (p := ⟨b, 0, none⟩) hb v0).setCell (p := ⟨b, 1, none⟩) hb v1).setCell (p := ⟨b, 2, none⟩) hb v2).setCell (p := ⟨b, 3, none⟩) hb v3).setCell (p := ⟨b, 4, none⟩) hb v4).setCell (p := ⟨b, 5, none⟩) hb v5).setCell (p := ⟨b, 6, none⟩) hb v6).setCell (p := ⟨b, 7, none⟩) hb v7
/-- What readConversion hands back lies in the result's own cell. -/
theorem conv_results (w : World) (b : Nat) (a : Array Value) (S : ByteArray) (e : Int) {l z p bl : Bool} {wd pr : Int} {pc : Bool} {k : Int} (h : CvAt w b l z p bl wd pr pc k) (h2 : a[2]?.getD undef = (.pointer (some ⟨b, 0, none⟩))) (h3 : a[3]?.getD undef = (.string S)) (h4 : a[4]?.getD undef = (.int .i64 e)) :
    (results Tryz.f12 a).run Tryz.prog w = .ok (.tuple #[cva l z p bl wd pr pc k, .string S, .int .i64 e]) w := by
  obtain ⟨c0, c1, c2, c3, c4, c5, c6, c7, -⟩ := h
  simp [results, Tryz.results12, go_sem, cva, c0, c1, c2, c3, c4, c5, c6, c7, h2, h3, h4]
set_option maxRecDepth 100000 in
set_option maxHeartbeats 2000000 in
theorem conv_12d (s R0 R1 R1b R2 _T : ByteArray) (fl fz fp fb : Bool) (wd pr : Nat) (w : World) (_hs : s.size ≤ 4000000000)
    (c1 : Hid (∀ W b, CvAt W b false false false false 0 0 false 0 → Calls Tryz.prog 21 #[.pointer (some ⟨b, 0, none⟩), .string s] W fun e w' => e = .returned (.string R0) ∧ CvAt w' b fl fz fp fb 0 0 false 0 ∧ Only b W w'))
    (c2 : Hid (∀ W, Calls Tryz.prog 22 #[.string R0] W fun e w' => e = .returned (.tuple #[.int .i64 (wd : Int), .string R1]) ∧ Below W.heap.size W w'))
    (c3 : Hid (∀ W, Calls Tryz.prog 23 #[.string R1, .string ⟨#[46]⟩] W fun e w' => e = .returned (.bool true) ∧ w' = W))
    (hR1 : R1.extract 1 R1.size = R1b) (hR1s : 1 ≤ R1.size) (hR1z : R1.size ≤ 4000000000)
    (c4 : Hid (∀ W, Calls Tryz.prog 22 #[.string R1b] W fun e w' => e = .returned (.tuple #[.int .i64 (pr : Int), .string R2]) ∧ Below W.heap.size W w'))
    (h12 : 1000 < wd ∨ 1000 < pr) :
    Calls Tryz.prog 12 #[.string s] w fun e w' => e = .returned (.tuple #[cva false false false false 0 0 false 0, .string ⟨#[]⟩, .int .i64 12]) ∧ Below w.heap.size w w' := by
  have HK : Hid (CvAt ((w.alloc (Obj.cells #[.bool false, .bool false, .bool false, .bool false, .int .i64 0, .int .i64 0, .bool false, .int .u8 0] 41)).alloc (Obj.cells #[.bool false, .bool false, .bool false, .bool false, .int .i64 0, .int .i64 0, .bool false, .int .u8 0] 41)) w.heap.size false false false false 0 0 false 0 ∧ CvAt ((w.alloc (Obj.cells #[.bool false, .bool false, .bool false, .bool false, .int .i64 0, .int .i64 0, .bool false, .int .u8 0] 41)).alloc (Obj.cells #[.bool false, .bool false, .bool false, .bool false, .int .i64 0, .int .i64 0, .bool false, .int .u8 0] 41)) (w.heap.size + 1) false false false false 0 0 false 0
      ∧ Below w.heap.size w ((w.alloc (Obj.cells #[.bool false, .bool false, .bool false, .bool false, .int .i64 0, .int .i64 0, .bool false, .int .u8 0] 41)).alloc (Obj.cells #[.bool false, .bool false, .bool false, .bool false, .int .i64 0, .int .i64 0, .bool false, .int .u8 0] 41))) := Lib.hid
    ⟨(CvAt.new w _).below ((Below.refl _ _).alloc (Nat.le_refl _) _) (by simp), by have := CvAt.new (w.alloc (Obj.cells #[.bool false, .bool false, .bool false, .bool false, .int .i64 0, .int .i64 0, .bool false, .int .u8 0] 41)) 41; simpa using this, ((Below.refl _ _).alloc (Nat.le_refl _) _).alloc (by simp) _⟩
  go_enter Tryz.func12, Tryz.ntmps12
  go_wp2_with fail
  refine (c1.out _ _ HK.out.2.1).mono ?_
  rintro e w1 ⟨rfl, k1, ho⟩
  have HK1 : Hid (CvAt w1 w.heap.size false false false false 0 0 false 0 ∧ CvAt w1 (w.heap.size + 1) fl fz fp fb 0 0 false 0 ∧ Below w.heap.size w w1) := Lib.hid ⟨HK.out.1.only ho (by omega), k1, HK.out.2.2.trans (ho.below (by omega) HK.out.2.2.size)⟩
  clear k1 ho HK
  go_wp2_with fail
  refine (c2.out _).mono ?_
  rintro e w2 ⟨rfl, hb2⟩
  have HK2 : Hid (CvAt w2 w.heap.size false false false false 0 0 false 0 ∧ CvAt w2 (w.heap.size + 1) fl fz fp fb 0 0 false 0 ∧ Below w.heap.size w w2) := Lib.hid ⟨HK1.out.1.below hb2 HK1.out.1.lt, HK1.out.2.1.below hb2 HK1.out.2.1.lt, HK1.out.2.2.trans (hb2.mono HK1.out.2.2.size)⟩
  clear hb2 HK1
  obtain ⟨c0, c1', c2', c3', c4', c5, c6, c7, f0, f1, f2, f3, f4, f5, f6, f7⟩ := HK2.out.2.1
  go_wp2_with fail
  refine (c3.out _).mono ?_
  rintro e w' ⟨rfl, rfl⟩
  go_wp2_with fail
  have HK3 := Lib.hid (And.intro ((HK2.out.1.only ((Only.refl (w.heap.size + 1) w2).setCell 4 (.int .i64 (wd : Int))) (by omega)).only ((Only.refl (w.heap.size + 1) _).setCell 6 (.bool true)) (by omega)) (And.intro ((HK2.out.2.1.set4 (wd : Int)).set6 true) ((HK2.out.2.2.setCell (p := ⟨w.heap.size + 1, 4, none⟩) (by show w.heap.size ≤ w.heap.size + 1; omega) (.int .i64 (wd : Int))).setCell (p := ⟨w.heap.size + 1, 6, none⟩) (by show w.heap.size ≤ w.heap.size + 1; omega) (.bool true))))
  clear c0 c1' c2' c3' c4' c5 c6 c7 f0 f1 f2 f3 f4 f5 f6 f7 HK2
  refine (c4.out _).mono ?_
  rintro e w3 ⟨rfl, hb3⟩
  have HK4 : Hid (CvAt w3 w.heap.size false false false false 0 0 false 0 ∧ CvAt w3 (w.heap.size + 1) fl fz fp fb wd 0 true 0 ∧ Below w.heap.size w w3) := Lib.hid ⟨HK3.out.1.below hb3 HK3.out.1.lt, HK3.out.2.1.below hb3 HK3.out.2.1.lt, HK3.out.2.2.trans (hb3.mono HK3.out.2.2.size)⟩
  clear hb3 HK3
  obtain ⟨c0, c1', c2', c3', c4', c5, c6, c7, f0, f1, f2, f3, f4, f5, f6, f7⟩ := HK4.out.2.1
  obtain ⟨a0, a1, a2, a3, a4, a5, a6, a7, g0, g1, g2, g3, g4, g5, g6, g7⟩ := HK4.out.1
  by_cases h1 : 1000 < (wd : Int)
  · clear h12
    have HF := Lib.hid (And.intro (put8 (HK4.out.1.only ((Only.refl (w.heap.size + 1) w3).setCell 5 (.int .i64 (pr : Int))) (by omega)) false false false false 0 0 false 0) (below8 (HK4.out.2.2.setCell (p := ⟨w.heap.size + 1, 5, none⟩) (Nat.le_succ _) (.int .i64 (pr : Int))) (Nat.le_refl _) (.bool false) (.bool false) (.bool false) (.bool false) (.int .i64 0) (.int .i64 0) (.bool false) (.int .u8 0)))
    go_wp2_with fail
    refine bodyPost_ret (v := .tuple #[cva false false false false 0 0 false 0, .string ⟨#[]⟩, .int .i64 12]) ?_ rfl ⟨rfl, HF.out.2⟩
    exact conv_results _ _ _ _ _ HF.out.1 rfl rfl rfl
  · have h2 : 1000 < (pr : Int) := by omega
    clear h12
    have HF := Lib.hid (And.intro (put8 (HK4.out.1.only ((Only.refl (w.heap.size + 1) w3).setCell 5 (.int .i64 (pr : Int))) (by omega)) false false false false 0 0 false 0) (below8 (HK4.out.2.2.setCell (p := ⟨w.heap.size + 1, 5, none⟩) (Nat.le_succ _) (.int .i64 (pr : Int))) (Nat.le_refl _) (.bool false) (.bool false) (.bool false) (.bool false) (.int .i64 0) (.int .i64 0) (.bool false) (.int .u8 0)))
    go_wp2_with fail
    refine bodyPost_ret (v := .tuple #[cva false false false false 0 0 false 0, .string ⟨#[]⟩, .int .i64 12]) ?_ rfl ⟨rfl, HF.out.2⟩
    exact conv_results _ _ _ _ _ HF.out.1 rfl rfl rfl
set_option maxRecDepth 100000 in
set_option maxHeartbeats 2000000 in
theorem conv_12 (s R0 R1 _T : ByteArray) (fl fz fp fb : Bool) (wd : Nat) (w : World) (_hs : s.size ≤ 4000000000)
    (c1 : Hid (∀ W b, CvAt W b false false false false 0 0 false 0 → Calls Tryz.prog 21 #[.pointer (some ⟨b, 0, none⟩), .string s] W fun e w' => e = .returned (.string R0) ∧ CvAt w' b fl fz fp fb 0 0 false 0 ∧ Only b W w'))
    (c2 : Hid (∀ W, Calls Tryz.prog 22 #[.string R0] W fun e w' => e = .returned (.tuple #[.int .i64 (wd : Int), .string R1]) ∧ Below W.heap.size W w'))
    (c3 : Hid (∀ W, Calls Tryz.prog 23 #[.string R1, .string ⟨#[46]⟩] W fun e w' => e = .returned (.bool false) ∧ w' = W))
    (h12 : 1000 < wd) :
    Calls Tryz.prog 12 #[.string s] w fun e w' => e = .returned (.tuple #[cva false false false false 0 0 false 0, .string ⟨#[]⟩, .int .i64 12]) ∧ Below w.heap.size w w' := by
  have HK : Hid (CvAt ((w.alloc (Obj.cells #[.bool false, .bool false, .bool false, .bool false, .int .i64 0, .int .i64 0, .bool false, .int .u8 0] 41)).alloc (Obj.cells #[.bool false, .bool false, .bool false, .bool false, .int .i64 0, .int .i64 0, .bool false, .int .u8 0] 41)) w.heap.size false false false false 0 0 false 0 ∧ CvAt ((w.alloc (Obj.cells #[.bool false, .bool false, .bool false, .bool false, .int .i64 0, .int .i64 0, .bool false, .int .u8 0] 41)).alloc (Obj.cells #[.bool false, .bool false, .bool false, .bool false, .int .i64 0, .int .i64 0, .bool false, .int .u8 0] 41)) (w.heap.size + 1) false false false false 0 0 false 0
      ∧ Below w.heap.size w ((w.alloc (Obj.cells #[.bool false, .bool false, .bool false, .bool false, .int .i64 0, .int .i64 0, .bool false, .int .u8 0] 41)).alloc (Obj.cells #[.bool false, .bool false, .bool false, .bool false, .int .i64 0, .int .i64 0, .bool false, .int .u8 0] 41))) := Lib.hid
    ⟨(CvAt.new w _).below ((Below.refl _ _).alloc (Nat.le_refl _) _) (by simp), by have := CvAt.new (w.alloc (Obj.cells #[.bool false, .bool false, .bool false, .bool false, .int .i64 0, .int .i64 0, .bool false, .int .u8 0] 41)) 41; simpa using this, ((Below.refl _ _).alloc (Nat.le_refl _) _).alloc (by simp) _⟩
  go_enter Tryz.func12, Tryz.ntmps12
  go_wp2_with fail
  refine (c1.out _ _ HK.out.2.1).mono ?_
  rintro e w1 ⟨rfl, k1, ho⟩
  have HK1 : Hid (CvAt w1 w.heap.size false false false false 0 0 false 0 ∧ CvAt w1 (w.heap.size + 1) fl fz fp fb 0 0 false 0 ∧ Below w.heap.size w w1) := Lib.hid ⟨HK.out.1.only ho (by omega), k1, HK.out.2.2.trans (ho.below (by omega) HK.out.2.2.size)⟩
  clear k1 ho HK
  go_wp2_with fail
  refine (c2.out _).mono ?_
  rintro e w2 ⟨rfl, hb2⟩
  have HK2 : Hid (CvAt w2 w.heap.size false false false false 0 0 false 0 ∧ CvAt w2 (w.heap.size + 1) fl fz fp fb 0 0 false 0 ∧ Below w.heap.size w w2) := Lib.hid ⟨HK1.out.1.below hb2 HK1.out.1.lt, HK1.out.2.1.below hb2 HK1.out.2.1.lt, HK1.out.2.2.trans (hb2.mono HK1.out.2.2.size)⟩
  clear hb2 HK1
  obtain ⟨c0, c1', c2', c3', c4', c5, c6, c7, f0, f1, f2, f3, f4, f5, f6, f7⟩ := HK2.out.2.1
  go_wp2_with fail
  refine (c3.out _).mono ?_
  rintro e w' ⟨rfl, rfl⟩
  have HK4 : Hid (CvAt (w2.setCell ⟨w.heap.size + 1, 4, none⟩ (.int .i64 (wd : Int))) w.heap.size false false false false 0 0 false 0 ∧ CvAt (w2.setCell ⟨w.heap.size + 1, 4, none⟩ (.int .i64 (wd : Int))) (w.heap.size + 1) fl fz fp fb wd 0 false 0 ∧ Below w.heap.size w (w2.setCell ⟨w.heap.size + 1, 4, none⟩ (.int .i64 (wd : Int)))) := Lib.hid ⟨HK2.out.1.only ((Only.refl (w.heap.size + 1) w2).setCell 4 (.int .i64 (wd : Int))) (by omega), HK2.out.2.1.set4 (wd : Int), HK2.out.2.2.setCell (p := ⟨w.heap.size + 1, 4, none⟩) (by show w.heap.size ≤ w.heap.size + 1; omega) (.int .i64 (wd : Int))⟩
  clear c0 c1' c2' c3' c4' c5 c6 c7 f0 f1 f2 f3 f4 f5 f6 f7 HK2
  obtain ⟨w3, hw3⟩ : ∃ x, w2.setCell ⟨w.heap.size + 1, 4, none⟩ (.int .i64 (wd : Int)) = x := ⟨_, rfl⟩
  rw [hw3] at HK4 ⊢
  clear hw3
  obtain ⟨c0, c1', c2', c3', c4', c5, c6, c7, f0, f1, f2, f3, f4, f5, f6, f7⟩ := HK4.out.2.1
  obtain ⟨a0, a1, a2, a3, a4, a5, a6, a7, g0, g1, g2, g3, g4, g5, g6, g7⟩ := HK4.out.1
  have h1 : 1000 < (wd : Int) := by omega
  clear h12
  have HF := Lib.hid (And.intro (put8 HK4.out.1 false false false false 0 0 false 0) (below8 HK4.out.2.2 (Nat.le_refl _) (.bool false) (.bool false) (.bool false) (.bool false) (.int .i64 0) (.int .i64 0) (.bool false) (.int .u8 0)))
  go_wp2_with fail
  refine bodyPost_ret (v := .tuple #[cva false false false false 0 0 false 0, .string ⟨#[]⟩, .int .i64 12]) ?_ rfl ⟨rfl, HF.out.2⟩
  exact conv_results _ _ _ _ _ HF.out.1 rfl rfl rfl
set_option maxRecDepth 100000 in
set_option maxHeartbeats 2000000 in
theorem conv_16ed (s R0 R1 R1b R2 _T : ByteArray) (fl fz fp fb : Bool) (wd pr : Nat) (w : World) (_hs : s.size ≤ 4000000000)
    (c1 : Hid (∀ W b, CvAt W b false false false false 0 0 false 0 → Calls Tryz.prog 21 #[.pointer (some ⟨b, 0, none⟩), .string s] W fun e w' => e = .returned (.string R0) ∧ CvAt w' b fl fz fp fb 0 0 false 0 ∧ Only b W w'))
    (c2 : Hid (∀ W, Calls Tryz.prog 22 #[.string R0] W fun e w' => e = .returned (.tuple #[.int .i64 (wd : Int), .string R1]) ∧ Below W.heap.size W w'))
    (c3 : Hid (∀ W, Calls Tryz.prog 23 #[.string R1, .string ⟨#[46]⟩] W fun e w' => e = .returned (.bool true) ∧ w' = W))
    (hR1 : R1.extract 1 R1.size = R1b) (hR1s : 1 ≤ R1.size) (hR1z : R1.size ≤ 4000000000)
    (c4 : Hid (∀ W, Calls Tryz.prog 22 #[.string R1b] W fun e w' => e = .returned (.tuple #[.int .i64 (pr : Int), .string R2]) ∧ Below W.heap.size W w'))
    (h1 : wd ≤ 1000) (h2 : pr ≤ 1000)
    (he : R2.toList = []) :
    Calls Tryz.prog 12 #[.string s] w fun e w' => e = .returned (.tuple #[cva false false false false 0 0 false 0, .string ⟨#[]⟩, .int .i64 16]) ∧ Below w.heap.size w w' := by
  have HK : Hid (CvAt ((w.alloc (Obj.cells #[.bool false, .bool false, .bool false, .bool false, .int .i64 0, .int .i64 0, .bool false, .int .u8 0] 41)).alloc (Obj.cells #[.bool false, .bool false, .bool false, .bool false, .int .i64 0, .int .i64 0, .bool false, .int .u8 0] 41)) w.heap.size false false false false 0 0 false 0 ∧ CvAt ((w.alloc (Obj.cells #[.bool false, .bool false, .bool false, .bool false, .int .i64 0, .int .i64 0, .bool false, .int .u8 0] 41)).alloc (Obj.cells #[.bool false, .bool false, .bool false, .bool false, .int .i64 0, .int .i64 0, .bool false, .int .u8 0] 41)) (w.heap.size + 1) false false false false 0 0 false 0
      ∧ Below w.heap.size w ((w.alloc (Obj.cells #[.bool false, .bool false, .bool false, .bool false, .int .i64 0, .int .i64 0, .bool false, .int .u8 0] 41)).alloc (Obj.cells #[.bool false, .bool false, .bool false, .bool false, .int .i64 0, .int .i64 0, .bool false, .int .u8 0] 41))) := Lib.hid
    ⟨(CvAt.new w _).below ((Below.refl _ _).alloc (Nat.le_refl _) _) (by simp), by have := CvAt.new (w.alloc (Obj.cells #[.bool false, .bool false, .bool false, .bool false, .int .i64 0, .int .i64 0, .bool false, .int .u8 0] 41)) 41; simpa using this, ((Below.refl _ _).alloc (Nat.le_refl _) _).alloc (by simp) _⟩
  go_enter Tryz.func12, Tryz.ntmps12
  go_wp2_with fail
  refine (c1.out _ _ HK.out.2.1).mono ?_
  rintro e w1 ⟨rfl, k1, ho⟩
  have HK1 : Hid (CvAt w1 w.heap.size false false false false 0 0 false 0 ∧ CvAt w1 (w.heap.size + 1) fl fz fp fb 0 0 false 0 ∧ Below w.heap.size w w1) := Lib.hid ⟨HK.out.1.only ho (by omega), k1, HK.out.2.2.trans (ho.below (by omega) HK.out.2.2.size)⟩
  clear k1 ho HK
  go_wp2_with fail
  refine (c2.out _).mono ?_
  rintro e w2 ⟨rfl, hb2⟩
  have HK2 : Hid (CvAt w2 w.heap.size false false false false 0 0 false 0 ∧ CvAt w2 (w.heap.size + 1) fl fz fp fb 0 0 false 0 ∧ Below w.heap.size w w2) := Lib.hid ⟨HK1.out.1.below hb2 HK1.out.1.lt, HK1.out.2.1.below hb2 HK1.out.2.1.lt, HK1.out.2.2.trans (hb2.mono HK1.out.2.2.size)⟩
  clear hb2 HK1
  obtain ⟨c0, c1', c2', c3', c4', c5, c6, c7, f0, f1, f2, f3, f4, f5, f6, f7⟩ := HK2.out.2.1
  go_wp2_with fail
  refine (c3.out _).mono ?_
  rintro e w' ⟨rfl, rfl⟩
  go_wp2_with fail
  have HK3 := Lib.hid (And.intro ((HK2.out.1.only ((Only.refl (w.heap.size + 1) w2).setCell 4 (.int .i64 (wd : Int))) (by omega)).only ((Only.refl (w.heap.size + 1) _).setCell 6 (.bool true)) (by omega)) (And.intro ((HK2.out.2.1.set4 (wd : Int)).set6 true) ((HK2.out.2.2.setCell (p := ⟨w.heap.size + 1, 4, none⟩) (by show w.heap.size ≤ w.heap.size + 1; omega) (.int .i64 (wd : Int))).setCell (p := ⟨w.heap.size + 1, 6, none⟩) (by show w.heap.size ≤ w.heap.size + 1; omega) (.bool true))))
  clear c0 c1' c2' c3' c4' c5 c6 c7 f0 f1 f2 f3 f4 f5 f6 f7 HK2
  refine (c4.out _).mono ?_
  rintro e w3 ⟨rfl, hb3⟩
  have HK4 : Hid (CvAt w3 w.heap.size false false false false 0 0 false 0 ∧ CvAt w3 (w.heap.size + 1) fl fz fp fb wd 0 true 0 ∧ Below w.heap.size w w3) := Lib.hid ⟨HK3.out.1.below hb3 HK3.out.1.lt, HK3.out.2.1.below hb3 HK3.out.2.1.lt, HK3.out.2.2.trans (hb3.mono HK3.out.2.2.size)⟩
  clear hb3 HK3
  obtain ⟨c0, c1', c2', c3', c4', c5, c6, c7, f0, f1, f2, f3, f4, f5, f6, f7⟩ := HK4.out.2.1
  obtain ⟨a0, a1, a2, a3, a4, a5, a6, a7, g0, g1, g2, g3, g4, g5, g6, g7⟩ := HK4.out.1
  have h1' : (wd : Int) ≤ 1000 := by omega
  have h2' : (pr : Int) ≤ 1000 := by omega
  clear h1 h2
  have he' : R2.toList.isEmpty = true := by rw [he]; rfl
  have HF := Lib.hid (And.intro (put8 (HK4.out.1.only ((Only.refl (w.heap.size + 1) w3).setCell 5 (.int .i64 (pr : Int))) (by omega)) false false false false 0 0 false 0) (below8 (HK4.out.2.2.setCell (p := ⟨w.heap.size + 1, 5, none⟩) (Nat.le_succ _) (.int .i64 (pr : Int))) (Nat.le_refl _) (.bool false) (.bool false) (.bool false) (.bool false) (.int .i64 0) (.int .i64 0) (.bool false) (.int .u8 0)))
  go_wp2_with fail
  refine bodyPost_ret (v := .tuple #[cva false false false false 0 0 false 0, .string ⟨#[]⟩, .int .i64 16]) ?_ rfl ⟨rfl, HF.out.2⟩
  exact conv_results _ _ _ _ _ HF.out.1 rfl rfl rfl
set_option maxRecDepth 100000 in
set_option maxHeartbeats 2000000 in
theorem conv_16kd (s R0 R1 R1b R2 _T : ByteArray) (fl fz fp fb : Bool) (wd pr : Nat) (w : World) (_hs : s.size ≤ 4000000000)
    (c1 : Hid (∀ W b, CvAt W b false false false false 0 0 false 0 → Calls Tryz.prog 21 #[.pointer (some ⟨b, 0, none⟩), .string s] W fun e w' => e = .returned (.string R0) ∧ CvAt w' b fl fz fp fb 0 0 false 0 ∧ Only b W w'))
    (c2 : Hid (∀ W, Calls Tryz.prog 22 #[.string R0] W fun e w' => e = .returned (.tuple #[.int .i64 (wd : Int), .string R1]) ∧ Below W.heap.size W w'))
    (c3 : Hid (∀ W, Calls Tryz.prog 23 #[.string R1, .string ⟨#[46]⟩] W fun e w' => e = .returned (.bool true) ∧ w' = W))
    (hR1 : R1.extract 1 R1.size = R1b) (hR1s : 1 ≤ R1.size) (hR1z : R1.size ≤ 4000000000)
    (c4 : Hid (∀ W, Calls Tryz.prog 22 #[.string R1b] W fun e w' => e = .returned (.tuple #[.int .i64 (pr : Int), .string R2]) ∧ Below W.heap.size W w'))
    (h1 : wd ≤ 1000) (h2 : pr ≤ 1000)
    (he : 0 < R2.size) (i : Int) (hi : i < 0) (cix : Hid (∀ W, Calls Tryz.prog 24 #[.string ⟨#[100, 105, 120, 102, 115, 99, 37]⟩, .int .u8 (R2[0].toNat : Int)] W fun e w' => e = .returned (.int .i64 i) ∧ w' = W)) :
    Calls Tryz.prog 12 #[.string s] w fun e w' => e = .returned (.tuple #[cva false false false false 0 0 false 0, .string ⟨#[]⟩, .int .i64 16]) ∧ Below w.heap.size w w' := by
  have HK : Hid (CvAt ((w.alloc (Obj.cells #[.bool false, .bool false, .bool false, .bool false, .int .i64 0, .int .i64 0, .bool false, .int .u8 0] 41)).alloc (Obj.cells #[.bool false, .bool false, .bool false, .bool false, .int .i64 0, .int .i64 0, .bool false, .int .u8 0] 41)) w.heap.size false false false false 0 0 false 0 ∧ CvAt ((w.alloc (Obj.cells #[.bool false, .bool false, .bool false, .bool false, .int .i64 0, .int .i64 0, .bool false, .int .u8 0] 41)).alloc (Obj.cells #[.bool false, .bool false, .bool false, .bool false, .int .i64 0, .int .i64 0, .bool false, .int .u8 0] 41)) (w.heap.size + 1) false false false false 0 0 false 0
      ∧ Below w.heap.size w ((w.alloc (Obj.cells #[.bool false, .bool false, .bool false, .bool false, .int .i64 0, .int .i64 0, .bool false, .int .u8 0] 41)).alloc (Obj.cells #[.bool false, .bool false, .bool false, .bool false, .int .i64 0, .int .i64 0, .bool false, .int .u8 0] 41))) := Lib.hid
    ⟨(CvAt.new w _).below ((Below.refl _ _).alloc (Nat.le_refl _) _) (by simp), by have := CvAt.new (w.alloc (Obj.cells #[.bool false, .bool false, .bool false, .bool false, .int .i64 0, .int .i64 0, .bool false, .int .u8 0] 41)) 41; simpa using this, ((Below.refl _ _).alloc (Nat.le_refl _) _).alloc (by simp) _⟩
  go_enter Tryz.func12, Tryz.ntmps12
  go_wp2_with fail
  refine (c1.out _ _ HK.out.2.1).mono ?_
  rintro e w1 ⟨rfl, k1, ho⟩
  have HK1 : Hid (CvAt w1 w.heap.size false false false false 0 0 false 0 ∧ CvAt w1 (w.heap.size + 1) fl fz fp fb 0 0 false 0 ∧ Below w.heap.size w w1) := Lib.hid ⟨HK.out.1.only ho (by omega), k1, HK.out.2.2.trans (ho.below (by omega) HK.out.2.2.size)⟩
  clear k1 ho HK
  go_wp2_with fail
  refine (c2.out _).mono ?_
  rintro e w2 ⟨rfl, hb2⟩
  have HK2 : Hid (CvAt w2 w.heap.size false false false false 0 0 false 0 ∧ CvAt w2 (w.heap.size + 1) fl fz fp fb 0 0 false 0 ∧ Below w.heap.size w w2) := Lib.hid ⟨HK1.out.1.below hb2 HK1.out.1.lt, HK1.out.2.1.below hb2 HK1.out.2.1.lt, HK1.out.2.2.trans (hb2.mono HK1.out.2.2.size)⟩
  clear hb2 HK1
  obtain ⟨c0, c1', c2', c3', c4', c5, c6, c7, f0, f1, f2, f3, f4, f5, f6, f7⟩ := HK2.out.2.1
  go_wp2_with fail
  refine (c3.out _).mono ?_
  rintro e w' ⟨rfl, rfl⟩
  go_wp2_with fail
  have HK3 := Lib.hid (And.intro ((HK2.out.1.only ((Only.refl (w.heap.size + 1) w2).setCell 4 (.int .i64 (wd : Int))) (by omega)).only ((Only.refl (w.heap.size + 1) _).setCell 6 (.bool true)) (by omega)) (And.intro ((HK2.out.2.1.set4 (wd : Int)).set6 true) ((HK2.out.2.2.setCell (p := ⟨w.heap.size + 1, 4, none⟩) (by show w.heap.size ≤ w.heap.size + 1; omega) (.int .i64 (wd : Int))).setCell (p := ⟨w.heap.size + 1, 6, none⟩) (by show w.heap.size ≤ w.heap.size + 1; omega) (.bool true))))
  clear c0 c1' c2' c3' c4' c5 c6 c7 f0 f1 f2 f3 f4 f5 f6 f7 HK2
  refine (c4.out _).mono ?_
  rintro e w3 ⟨rfl, hb3⟩
  have HK4 : Hid (CvAt w3 w.heap.size false false false false 0 0 false 0 ∧ CvAt w3 (w.heap.size + 1) fl fz fp fb wd 0 true 0 ∧ Below w.heap.size w w3) := Lib.hid ⟨HK3.out.1.below hb3 HK3.out.1.lt, HK3.out.2.1.below hb3 HK3.out.2.1.lt, HK3.out.2.2.trans (hb3.mono HK3.out.2.2.size)⟩
  clear hb3 HK3
  obtain ⟨c0, c1', c2', c3', c4', c5, c6, c7, f0, f1, f2, f3, f4, f5, f6, f7⟩ := HK4.out.2.1
  obtain ⟨a0, a1, a2, a3, a4, a5, a6, a7, g0, g1, g2, g3, g4, g5, g6, g7⟩ := HK4.out.1
  have h1' : (wd : Int) ≤ 1000 := by omega
  have h2' : (pr : Int) ≤ 1000 := by omega
  clear h1 h2
  have hne : ¬ R2.toList = [] := fun h => by have h2 := ba_sz R2; rw [← toList_data', h] at h2; simp at h2; omega
  have he' : R2.toList.isEmpty = false := by rw [Bool.eq_false_iff, ne_eq, List.isEmpty_iff]; exact hne
  go_wp2_with fail
  (with_reducible refine (cix.out _).mono ?_)
  rintro e w' ⟨rfl, rfl⟩
  have HF := Lib.hid (And.intro (put8 (HK4.out.1.only ((Only.refl (w.heap.size + 1) w3).setCell 5 (.int .i64 (pr : Int))) (by omega)) false false false false 0 0 false 0) (below8 (HK4.out.2.2.setCell (p := ⟨w.heap.size + 1, 5, none⟩) (Nat.le_succ _) (.int .i64 (pr : Int))) (Nat.le_refl _) (.bool false) (.bool false) (.bool false) (.bool false) (.int .i64 0) (.int .i64 0) (.bool false) (.int .u8 0)))
  go_wp2_with fail
  refine bodyPost_ret (v := .tuple #[cva false false false false 0 0 false 0, .string ⟨#[]⟩, .int .i64 16]) ?_ rfl ⟨rfl, HF.out.2⟩
  exact conv_results _ _ _ _ _ HF.out.1 rfl rfl rfl
set_option maxRecDepth 100000 in
set_option maxHeartbeats 2000000 in
theorem conv_okd (s R0 R1 R1b R2 _T : ByteArray) (fl fz fp fb : Bool) (wd pr : Nat) (w : World) (_hs : s.size ≤ 4000000000)
    (c1 : Hid (∀ W b, CvAt W b false false false false 0 0 false 0 → Calls Tryz.prog 21 #[.pointer (some ⟨b, 0, none⟩), .string s] W fun e w' => e = .returned (.string R0) ∧ CvAt w' b fl fz fp fb 0 0 false 0 ∧ Only b W w'))
    (c2 : Hid (∀ W, Calls Tryz.prog 22 #[.string R0] W fun e w' => e = .returned (.tuple #[.int .i64 (wd : Int), .string R1]) ∧ Below W.heap.size W w'))
    (c3 : Hid (∀ W, Calls Tryz.prog 23 #[.string R1, .string ⟨#[46]⟩] W fun e w' => e = .returned (.bool true) ∧ w' = W))
    (hR1 : R1.extract 1 R1.size = R1b) (hR1s : 1 ≤ R1.size) (hR1z : R1.size ≤ 4000000000)
    (c4 : Hid (∀ W, Calls Tryz.prog 22 #[.string R1b] W fun e w' => e = .returned (.tuple #[.int .i64 (pr : Int), .string R2]) ∧ Below W.heap.size W w'))
    (h1 : wd ≤ 1000) (h2 : pr ≤ 1000)
    (he : 0 < R2.size) (hz : R2.size ≤ 4000000000) (i : Int) (hi : 0 ≤ i) (cix : Hid (∀ W, Calls Tryz.prog 24 #[.string ⟨#[100, 105, 120, 102, 115, 99, 37]⟩, .int .u8 (R2[0].toNat : Int)] W fun e w' => e = .returned (.int .i64 i) ∧ w' = W)) (hT : Hid (_T = R2.extract 1 R2.size)) :
    Calls Tryz.prog 12 #[.string s] w fun e w' => e = .returned (.tuple #[cva fl fz fp fb (wd : Int) (pr : Int) true (R2[0].toNat : Int), .string _T, .int .i64 0]) ∧ Below w.heap.size w w' := by
  rw [hT.out]
  have HK : Hid (CvAt ((w.alloc (Obj.cells #[.bool false, .bool false, .bool false, .bool false, .int .i64 0, .int .i64 0, .bool false, .int .u8 0] 41)).alloc (Obj.cells #[.bool false, .bool false, .bool false, .bool false, .int .i64 0, .int .i64 0, .bool false, .int .u8 0] 41)) w.heap.size false false false false 0 0 false 0 ∧ CvAt ((w.alloc (Obj.cells #[.bool false, .bool false, .bool false, .bool false, .int .i64 0, .int .i64 0, .bool false, .int .u8 0] 41)).alloc (Obj.cells #[.bool false, .bool false, .bool false, .bool false, .int .i64 0, .int .i64 0, .bool false, .int .u8 0] 41)) (w.heap.size + 1) false false false false 0 0 false 0
      ∧ Below w.heap.size w ((w.alloc (Obj.cells #[.bool false, .bool false, .bool false, .bool false, .int .i64 0, .int .i64 0, .bool false, .int .u8 0] 41)).alloc (Obj.cells #[.bool false, .bool false, .bool false, .bool false, .int .i64 0, .int .i64 0, .bool false, .int .u8 0] 41))) := Lib.hid
    ⟨(CvAt.new w _).below ((Below.refl _ _).alloc (Nat.le_refl _) _) (by simp), by have := CvAt.new (w.alloc (Obj.cells #[.bool false, .bool false, .bool false, .bool false, .int .i64 0, .int .i64 0, .bool false, .int .u8 0] 41)) 41; simpa using this, ((Below.refl _ _).alloc (Nat.le_refl _) _).alloc (by simp) _⟩
  go_enter Tryz.func12, Tryz.ntmps12
  go_wp2_with fail
  refine (c1.out _ _ HK.out.2.1).mono ?_
  rintro e w1 ⟨rfl, k1, ho⟩
  have HK1 : Hid (CvAt w1 w.heap.size false false false false 0 0 false 0 ∧ CvAt w1 (w.heap.size + 1) fl fz fp fb 0 0 false 0 ∧ Below w.heap.size w w1) := Lib.hid ⟨HK.out.1.only ho (by omega), k1, HK.out.2.2.trans (ho.below (by omega) HK.out.2.2.size)⟩
  clear k1 ho HK
  go_wp2_with fail
  refine (c2.out _).mono ?_
  rintro e w2 ⟨rfl, hb2⟩
  have HK2 : Hid (CvAt w2 w.heap.size false false false false 0 0 false 0 ∧ CvAt w2 (w.heap.size + 1) fl fz fp fb 0 0 false 0 ∧ Below w.heap.size w w2) := Lib.hid ⟨HK1.out.1.below hb2 HK1.out.1.lt, HK1.out.2.1.below hb2 HK1.out.2.1.lt, HK1.out.2.2.trans (hb2.mono HK1.out.2.2.size)⟩
  clear hb2 HK1
  obtain ⟨c0, c1', c2', c3', c4', c5, c6, c7, f0, f1, f2, f3, f4, f5, f6, f7⟩ := HK2.out.2.1
  go_wp2_with fail
  refine (c3.out _).mono ?_
  rintro e w' ⟨rfl, rfl⟩
  go_wp2_with fail
  have HK3 := Lib.hid (And.intro ((HK2.out.1.only ((Only.refl (w.heap.size + 1) w2).setCell 4 (.int .i64 (wd : Int))) (by omega)).only ((Only.refl (w.heap.size + 1) _).setCell 6 (.bool true)) (by omega)) (And.intro ((HK2.out.2.1.set4 (wd : Int)).set6 true) ((HK2.out.2.2.setCell (p := ⟨w.heap.size + 1, 4, none⟩) (by show w.heap.size ≤ w.heap.size + 1; omega) (.int .i64 (wd : Int))).setCell (p := ⟨w.heap.size + 1, 6, none⟩) (by show w.heap.size ≤ w.heap.size + 1; omega) (.bool true))))
  clear c0 c1' c2' c3' c4' c5 c6 c7 f0 f1 f2 f3 f4 f5 f6 f7 HK2
  refine (c4.out _).mono ?_
  rintro e w3 ⟨rfl, hb3⟩
  have HK4 : Hid (CvAt w3 w.heap.size false false false false 0 0 false 0 ∧ CvAt w3 (w.heap.size + 1) fl fz fp fb wd 0 true 0 ∧ Below w.heap.size w w3) := Lib.hid ⟨HK3.out.1.below hb3 HK3.out.1.lt, HK3.out.2.1.below hb3 HK3.out.2.1.lt, HK3.out.2.2.trans (hb3.mono HK3.out.2.2.size)⟩
  clear hb3 HK3
  obtain ⟨c0, c1', c2', c3', c4', c5, c6, c7, f0, f1, f2, f3, f4, f5, f6, f7⟩ := HK4.out.2.1
  obtain ⟨a0, a1, a2, a3, a4, a5, a6, a7, g0, g1, g2, g3, g4, g5, g6, g7⟩ := HK4.out.1
  have h1' : (wd : Int) ≤ 1000 := by omega
  have h2' : (pr : Int) ≤ 1000 := by omega
  clear h1 h2
  have hne : ¬ R2.toList = [] := fun h => by have h2 := ba_sz R2; rw [← toList_data', h] at h2; simp at h2; omega
  have he' : R2.toList.isEmpty = false := by rw [Bool.eq_false_iff, ne_eq, List.isEmpty_iff]; exact hne
  go_wp2_with fail
  (with_reducible refine (cix.out _).mono ?_)
  rintro e w' ⟨rfl, rfl⟩
  go_wp2_with fail
  have HF := Lib.hid (And.intro (put8 (HK4.out.1.only (((Only.refl (w.heap.size + 1) w3).setCell 5 (.int .i64 (pr : Int))).setCell 7 (.int .u8 (R2[0].toNat : Int))) (by omega)) fl fz fp fb (wd : Int) (pr : Int) true (R2[0].toNat : Int)).drew (below8 ((HK4.out.2.2.setCell (p := ⟨w.heap.size + 1, 5, none⟩) (Nat.le_succ _) (.int .i64 (pr : Int))).setCell (p := ⟨w.heap.size + 1, 7, none⟩) (Nat.le_succ _) (.int .u8 (R2[0].toNat : Int))) (Nat.le_refl _) (.bool fl) (.bool fz) (.bool fp) (.bool fb) (.int .i64 (wd : Int)) (.int .i64 (pr : Int)) (.bool true) (.int .u8 (R2[0].toNat : Int))).drew)
  go_region
  go_wp2_with fail
  refine bodyPost_ret (v := .tuple #[cva fl fz fp fb (wd : Int) (pr : Int) true (R2[0].toNat : Int), .string (R2.extract 1 R2.size), .int .i64 0]) ?_ rfl ⟨rfl, HF.out.2⟩
  exact conv_results _ _ _ _ _ HF.out.1 rfl rfl rfl
set_option maxRecDepth 100000 in
set_option maxHeartbeats 2000000 in
theorem conv_16e (s R0 R1 _T : ByteArray) (fl fz fp fb : Bool) (wd : Nat) (w : World) (_hs : s.size ≤ 4000000000)
    (c1 : Hid (∀ W b, CvAt W b false false false false 0 0 false 0 → Calls Tryz.prog 21 #[.pointer (some ⟨b, 0, none⟩), .string s] W fun e w' => e = .returned (.string R0) ∧ CvAt w' b fl fz fp fb 0 0 false 0 ∧ Only b W w'))
    (c2 : Hid (∀ W, Calls Tryz.prog 22 #[.string R0] W fun e w' => e = .returned (.tuple #[.int .i64 (wd : Int), .string R1]) ∧ Below W.heap.size W w'))
    (c3 : Hid (∀ W, Calls Tryz.prog 23 #[.string R1, .string ⟨#[46]⟩] W fun e w' => e = .returned (.bool false) ∧ w' = W))
    (h1 : wd ≤ 1000)
    (he : R1.toList = []) :
    Calls Tryz.prog 12 #[.string s] w fun e w' => e = .returned (.tuple #[cva false false false false 0 0 false 0, .string ⟨#[]⟩, .int .i64 16]) ∧ Below w.heap.size w w' := by
  have HK : Hid (CvAt ((w.alloc (Obj.cells #[.bool false, .bool false, .bool false, .bool false, .int .i64 0, .int .i64 0, .bool false, .int .u8 0] 41)).alloc (Obj.cells #[.bool false, .bool false, .bool false, .bool false, .int .i64 0, .int .i64 0, .bool false, .int .u8 0] 41)) w.heap.size false false false false 0 0 false 0 ∧ CvAt ((w.alloc (Obj.cells #[.bool false, .bool false, .bool false, .bool false, .int .i64 0, .int .i64 0, .bool false, .int .u8 0] 41)).alloc (Obj.cells #[.bool false, .bool false, .bool false, .bool false, .int .i64 0, .int .i64 0, .bool false, .int .u8 0] 41)) (w.heap.size + 1) false false false false 0 0 false 0
      ∧ Below w.heap.size w ((w.alloc (Obj.cells #[.bool false, .bool false, .bool false, .bool false, .int .i64 0, .int .i64 0, .bool false, .int .u8 0] 41)).alloc (Obj.cells #[.bool false, .bool false, .bool false, .bool false, .int .i64 0, .int .i64 0, .bool false, .int .u8 0] 41))) := Lib.hid
    ⟨(CvAt.new w _).below ((Below.refl _ _).alloc (Nat.le_refl _) _) (by simp), by have := CvAt.new (w.alloc (Obj.cells #[.bool false, .bool false, .bool false, .bool false, .int .i64 0, .int .i64 0, .bool false, .int .u8 0] 41)) 41; simpa using this, ((Below.refl _ _).alloc (Nat.le_refl _) _).alloc (by simp) _⟩
  go_enter Tryz.func12, Tryz.ntmps12
  go_wp2_with fail
  refine (c1.out _ _ HK.out.2.1).mono ?_
  rintro e w1 ⟨rfl, k1, ho⟩
  have HK1 : Hid (CvAt w1 w.heap.size false false false false 0 0 false 0 ∧ CvAt w1 (w.heap.size + 1) fl fz fp fb 0 0 false 0 ∧ Below w.heap.size w w1) := Lib.hid ⟨HK.out.1.only ho (by omega), k1, HK.out.2.2.trans (ho.below (by omega) HK.out.2.2.size)⟩
  clear k1 ho HK
  go_wp2_with fail
  refine (c2.out _).mono ?_
  rintro e w2 ⟨rfl, hb2⟩
  have HK2 : Hid (CvAt w2 w.heap.size false false false false 0 0 false 0 ∧ CvAt w2 (w.heap.size + 1) fl fz fp fb 0 0 false 0 ∧ Below w.heap.size w w2) := Lib.hid ⟨HK1.out.1.below hb2 HK1.out.1.lt, HK1.out.2.1.below hb2 HK1.out.2.1.lt, HK1.out.2.2.trans (hb2.mono HK1.out.2.2.size)⟩
  clear hb2 HK1
  obtain ⟨c0, c1', c2', c3', c4', c5, c6, c7, f0, f1, f2, f3, f4, f5, f6, f7⟩ := HK2.out.2.1
  go_wp2_with fail
  refine (c3.out _).mono ?_
  rintro e w' ⟨rfl, rfl⟩
  have HK4 : Hid (CvAt (w2.setCell ⟨w.heap.size + 1, 4, none⟩ (.int .i64 (wd : Int))) w.heap.size false false false false 0 0 false 0 ∧ CvAt (w2.setCell ⟨w.heap.size + 1, 4, none⟩ (.int .i64 (wd : Int))) (w.heap.size + 1) fl fz fp fb wd 0 false 0 ∧ Below w.heap.size w (w2.setCell ⟨w.heap.size + 1, 4, none⟩ (.int .i64 (wd : Int)))) := Lib.hid ⟨HK2.out.1.only ((Only.refl (w.heap.size + 1) w2).setCell 4 (.int .i64 (wd : Int))) (by omega), HK2.out.2.1.set4 (wd : Int), HK2.out.2.2.setCell (p := ⟨w.heap.size + 1, 4, none⟩) (by show w.heap.size ≤ w.heap.size + 1; omega) (.int .i64 (wd : Int))⟩
  clear c0 c1' c2' c3' c4' c5 c6 c7 f0 f1 f2 f3 f4 f5 f6 f7 HK2
  obtain ⟨w3, hw3⟩ : ∃ x, w2.setCell ⟨w.heap.size + 1, 4, none⟩ (.int .i64 (wd : Int)) = x := ⟨_, rfl⟩
  rw [hw3] at HK4 ⊢
  clear hw3
  obtain ⟨c0, c1', c2', c3', c4', c5, c6, c7, f0, f1, f2, f3, f4, f5, f6, f7⟩ := HK4.out.2.1
  obtain ⟨a0, a1, a2, a3, a4, a5, a6, a7, g0, g1, g2, g3, g4, g5, g6, g7⟩ := HK4.out.1
  have h1' : (wd : Int) ≤ 1000 := by omega
  clear h1
  have he' : R1.toList.isEmpty = true := by rw [he]; rfl
  have HF := Lib.hid (And.intro (put8 HK4.out.1 false false false false 0 0 false 0) (below8 HK4.out.2.2 (Nat.le_refl _) (.bool false) (.bool false) (.bool false) (.bool false) (.int .i64 0) (.int .i64 0) (.bool false) (.int .u8 0)))
  go_wp2_with fail
  refine bodyPost_ret (v := .tuple #[cva false false false false 0 0 false 0, .string ⟨#[]⟩, .int .i64 16]) ?_ rfl ⟨rfl, HF.out.2⟩
  exact conv_results _ _ _ _ _ HF.out.1 rfl rfl rfl
set_option maxRecDepth 100000 in
set_option maxHeartbeats 2000000 in
theorem conv_16k (s R0 R1 _T : ByteArray) (fl fz fp fb : Bool) (wd : Nat) (w : World) (_hs : s.size ≤ 4000000000)
    (c1 : Hid (∀ W b, CvAt W b false false false false 0 0 false 0 → Calls Tryz.prog 21 #[.pointer (some ⟨b, 0, none⟩), .string s] W fun e w' => e = .returned (.string R0) ∧ CvAt w' b fl fz fp fb 0 0 false 0 ∧ Only b W w'))
    (c2 : Hid (∀ W, Calls Tryz.prog 22 #[.string R0] W fun e w' => e = .returned (.tuple #[.int .i64 (wd : Int), .string R1]) ∧ Below W.heap.size W w'))
    (c3 : Hid (∀ W, Calls Tryz.prog 23 #[.string R1, .string ⟨#[46]⟩] W fun e w' => e = .returned (.bool false) ∧ w' = W))
    (h1 : wd ≤ 1000)
    (he : 0 < R1.size) (i : Int) (hi : i < 0) (cix : Hid (∀ W, Calls Tryz.prog 24 #[.string ⟨#[100, 105, 120, 102, 115, 99, 37]⟩, .int .u8 (R1[0].toNat : Int)] W fun e w' => e = .returned (.int .i64 i) ∧ w' = W)) :
    Calls Tryz.prog 12 #[.string s] w fun e w' => e = .returned (.tuple #[cva false false false false 0 0 false 0, .string ⟨#[]⟩, .int .i64 16]) ∧ Below w.heap.size w w' := by
  have HK : Hid (CvAt ((w.alloc (Obj.cells #[.bool false, .bool false, .bool false, .bool false, .int .i64 0, .int .i64 0, .bool false, .int .u8 0] 41)).alloc (Obj.cells #[.bool false, .bool false, .bool false, .bool false, .int .i64 0, .int .i64 0, .bool false, .int .u8 0] 41)) w.heap.size false false false false 0 0 false 0 ∧ CvAt ((w.alloc (Obj.cells #[.bool false, .bool false, .bool false, .bool false, .int .i64 0, .int .i64 0, .bool false, .int .u8 0] 41)).alloc (Obj.cells #[.bool false, .bool false, .bool false, .bool false, .int .i64 0, .int .i64 0, .bool false, .int .u8 0] 41)) (w.heap.size + 1) false false false false 0 0 false 0
      ∧ Below w.heap.size w ((w.alloc (Obj.cells #[.bool false, .bool false, .bool false, .bool false, .int .i64 0, .int .i64 0, .bool false, .int .u8 0] 41)).alloc (Obj.cells #[.bool false, .bool false, .bool false, .bool false, .int .i64 0, .int .i64 0, .bool false, .int .u8 0] 41))) := Lib.hid
    ⟨(CvAt.new w _).below ((Below.refl _ _).alloc (Nat.le_refl _) _) (by simp), by have := CvAt.new (w.alloc (Obj.cells #[.bool false, .bool false, .bool false, .bool false, .int .i64 0, .int .i64 0, .bool false, .int .u8 0] 41)) 41; simpa using this, ((Below.refl _ _).alloc (Nat.le_refl _) _).alloc (by simp) _⟩
  go_enter Tryz.func12, Tryz.ntmps12
  go_wp2_with fail
  refine (c1.out _ _ HK.out.2.1).mono ?_
  rintro e w1 ⟨rfl, k1, ho⟩
  have HK1 : Hid (CvAt w1 w.heap.size false false false false 0 0 false 0 ∧ CvAt w1 (w.heap.size + 1) fl fz fp fb 0 0 false 0 ∧ Below w.heap.size w w1) := Lib.hid ⟨HK.out.1.only ho (by omega), k1, HK.out.2.2.trans (ho.below (by omega) HK.out.2.2.size)⟩
  clear k1 ho HK
  go_wp2_with fail
  refine (c2.out _).mono ?_
  rintro e w2 ⟨rfl, hb2⟩
  have HK2 : Hid (CvAt w2 w.heap.size false false false false 0 0 false 0 ∧ CvAt w2 (w.heap.size + 1) fl fz fp fb 0 0 false 0 ∧ Below w.heap.size w w2) := Lib.hid ⟨HK1.out.1.below hb2 HK1.out.1.lt, HK1.out.2.1.below hb2 HK1.out.2.1.lt, HK1.out.2.2.trans (hb2.mono HK1.out.2.2.size)⟩
  clear hb2 HK1
  obtain ⟨c0, c1', c2', c3', c4', c5, c6, c7, f0, f1, f2, f3, f4, f5, f6, f7⟩ := HK2.out.2.1
  go_wp2_with fail
  refine (c3.out _).mono ?_
  rintro e w' ⟨rfl, rfl⟩
  have HK4 : Hid (CvAt (w2.setCell ⟨w.heap.size + 1, 4, none⟩ (.int .i64 (wd : Int))) w.heap.size false false false false 0 0 false 0 ∧ CvAt (w2.setCell ⟨w.heap.size + 1, 4, none⟩ (.int .i64 (wd : Int))) (w.heap.size + 1) fl fz fp fb wd 0 false 0 ∧ Below w.heap.size w (w2.setCell ⟨w.heap.size + 1, 4, none⟩ (.int .i64 (wd : Int)))) := Lib.hid ⟨HK2.out.1.only ((Only.refl (w.heap.size + 1) w2).setCell 4 (.int .i64 (wd : Int))) (by omega), HK2.out.2.1.set4 (wd : Int), HK2.out.2.2.setCell (p := ⟨w.heap.size + 1, 4, none⟩) (by show w.heap.size ≤ w.heap.size + 1; omega) (.int .i64 (wd : Int))⟩
  clear c0 c1' c2' c3' c4' c5 c6 c7 f0 f1 f2 f3 f4 f5 f6 f7 HK2
  obtain ⟨w3, hw3⟩ : ∃ x, w2.setCell ⟨w.heap.size + 1, 4, none⟩ (.int .i64 (wd : Int)) = x := ⟨_, rfl⟩
  rw [hw3] at HK4 ⊢
  clear hw3
  obtain ⟨c0, c1', c2', c3', c4', c5, c6, c7, f0, f1, f2, f3, f4, f5, f6, f7⟩ := HK4.out.2.1
  obtain ⟨a0, a1, a2, a3, a4, a5, a6, a7, g0, g1, g2, g3, g4, g5, g6, g7⟩ := HK4.out.1
  have h1' : (wd : Int) ≤ 1000 := by omega
  clear h1
  have hne : ¬ R1.toList = [] := fun h => by have h2 := ba_sz R1; rw [← toList_data', h] at h2; simp at h2; omega
  have he' : R1.toList.isEmpty = false := by rw [Bool.eq_false_iff, ne_eq, List.isEmpty_iff]; exact hne
  go_wp2_with fail
  (with_reducible refine (cix.out _).mono ?_)
  rintro e w' ⟨rfl, rfl⟩
  have HF := Lib.hid (And.intro (put8 HK4.out.1 false false false false 0 0 false 0) (below8 HK4.out.2.2 (Nat.le_refl _) (.bool false) (.bool false) (.bool false) (.bool false) (.int .i64 0) (.int .i64 0) (.bool false) (.int .u8 0)))
  go_wp2_with fail
  refine bodyPost_ret (v := .tuple #[cva false false false false 0 0 false 0, .string ⟨#[]⟩, .int .i64 16]) ?_ rfl ⟨rfl, HF.out.2⟩
  exact conv_results _ _ _ _ _ HF.out.1 rfl rfl rfl
set_option maxRecDepth 100000 in
set_option maxHeartbeats 2000000 in
theorem conv_ok (s R0 R1 _T : ByteArray) (fl fz fp fb : Bool) (wd : Nat) (w : World) (_hs : s.size ≤ 4000000000)
    (c1 : Hid (∀ W b, CvAt W b false false false false 0 0 false 0 → Calls Tryz.prog 21 #[.pointer (some ⟨b, 0, none⟩), .string s] W fun e w' => e = .returned (.string R0) ∧ CvAt w' b fl fz fp fb 0 0 false 0 ∧ Only b W w'))
    (c2 : Hid (∀ W, Calls Tryz.prog 22 #[.string R0] W fun e w' => e = .returned (.tuple #[.int .i64 (wd : Int), .string R1]) ∧ Below W.heap.size W w'))
    (c3 : Hid (∀ W, Calls Tryz.prog 23 #[.string R1, .string ⟨#[46]⟩] W fun e w' => e = .returned (.bool false) ∧ w' = W))
    (h1 : wd ≤ 1000)
    (he : 0 < R1.size) (hz : R1.size ≤ 4000000000) (i : Int) (hi : 0 ≤ i) (cix : Hid (∀ W, Calls Tryz.prog 24 #[.string ⟨#[100, 105, 120, 102, 115, 99, 37]⟩, .int .u8 (R1[0].toNat : Int)] W fun e w' => e = .returned (.int .i64 i) ∧ w' = W)) (hT : Hid (_T = R1.extract 1 R1.size)) :
    Calls Tryz.prog 12 #[.string s] w fun e w' => e = .returned (.tuple #[cva fl fz fp fb (wd : Int) 0 false (R1[0].toNat : Int), .string _T, .int .i64 0]) ∧ Below w.heap.size w w' := by
  rw [hT.out]
  have HK : Hid (CvAt ((w.alloc (Obj.cells #[.bool false, .bool false, .bool false, .bool false, .int .i64 0, .int .i64 0, .bool false, .int .u8 0] 41)).alloc (Obj.cells #[.bool false, .bool false, .bool false, .bool false, .int .i64 0, .int .i64 0, .bool false, .int .u8 0] 41)) w.heap.size false false false false 0 0 false 0 ∧ CvAt ((w.alloc (Obj.cells #[.bool false, .bool false, .bool false, .bool false, .int .i64 0, .int .i64 0, .bool false, .int .u8 0] 41)).alloc (Obj.cells #[.bool false, .bool false, .bool false, .bool false, .int .i64 0, .int .i64 0, .bool false, .int .u8 0] 41)) (w.heap.size + 1) false false false false 0 0 false 0
      ∧ Below w.heap.size w ((w.alloc (Obj.cells #[.bool false, .bool false, .bool false, .bool false, .int .i64 0, .int .i64 0, .bool false, .int .u8 0] 41)).alloc (Obj.cells #[.bool false, .bool false, .bool false, .bool false, .int .i64 0, .int .i64 0, .bool false, .int .u8 0] 41))) := Lib.hid
    ⟨(CvAt.new w _).below ((Below.refl _ _).alloc (Nat.le_refl _) _) (by simp), by have := CvAt.new (w.alloc (Obj.cells #[.bool false, .bool false, .bool false, .bool false, .int .i64 0, .int .i64 0, .bool false, .int .u8 0] 41)) 41; simpa using this, ((Below.refl _ _).alloc (Nat.le_refl _) _).alloc (by simp) _⟩
  go_enter Tryz.func12, Tryz.ntmps12
  go_wp2_with fail
  refine (c1.out _ _ HK.out.2.1).mono ?_
  rintro e w1 ⟨rfl, k1, ho⟩
  have HK1 : Hid (CvAt w1 w.heap.size false false false false 0 0 false 0 ∧ CvAt w1 (w.heap.size + 1) fl fz fp fb 0 0 false 0 ∧ Below w.heap.size w w1) := Lib.hid ⟨HK.out.1.only ho (by omega), k1, HK.out.2.2.trans (ho.below (by omega) HK.out.2.2.size)⟩
  clear k1 ho HK
  go_wp2_with fail
  refine (c2.out _).mono ?_
  rintro e w2 ⟨rfl, hb2⟩
  have HK2 : Hid (CvAt w2 w.heap.size false false false false 0 0 false 0 ∧ CvAt w2 (w.heap.size + 1) fl fz fp fb 0 0 false 0 ∧ Below w.heap.size w w2) := Lib.hid ⟨HK1.out.1.below hb2 HK1.out.1.lt, HK1.out.2.1.below hb2 HK1.out.2.1.lt, HK1.out.2.2.trans (hb2.mono HK1.out.2.2.size)⟩
  clear hb2 HK1
  obtain ⟨c0, c1', c2', c3', c4', c5, c6, c7, f0, f1, f2, f3, f4, f5, f6, f7⟩ := HK2.out.2.1
  go_wp2_with fail
  refine (c3.out _).mono ?_
  rintro e w' ⟨rfl, rfl⟩
  have HK4 : Hid (CvAt (w2.setCell ⟨w.heap.size + 1, 4, none⟩ (.int .i64 (wd : Int))) w.heap.size false false false false 0 0 false 0 ∧ CvAt (w2.setCell ⟨w.heap.size + 1, 4, none⟩ (.int .i64 (wd : Int))) (w.heap.size + 1) fl fz fp fb wd 0 false 0 ∧ Below w.heap.size w (w2.setCell ⟨w.heap.size + 1, 4, none⟩ (.int .i64 (wd : Int)))) := Lib.hid ⟨HK2.out.1.only ((Only.refl (w.heap.size + 1) w2).setCell 4 (.int .i64 (wd : Int))) (by omega), HK2.out.2.1.set4 (wd : Int), HK2.out.2.2.setCell (p := ⟨w.heap.size + 1, 4, none⟩) (by show w.heap.size ≤ w.heap.size + 1; omega) (.int .i64 (wd : Int))⟩
  clear c0 c1' c2' c3' c4' c5 c6 c7 f0 f1 f2 f3 f4 f5 f6 f7 HK2
  obtain ⟨w3, hw3⟩ : ∃ x, w2.setCell ⟨w.heap.size + 1, 4, none⟩ (.int .i64 (wd : Int)) = x := ⟨_, rfl⟩
  rw [hw3] at HK4 ⊢
  clear hw3
  obtain ⟨c0, c1', c2', c3', c4', c5, c6, c7, f0, f1, f2, f3, f4, f5, f6, f7⟩ := HK4.out.2.1
  obtain ⟨a0, a1, a2, a3, a4, a5, a6, a7, g0, g1, g2, g3, g4, g5, g6, g7⟩ := HK4.out.1
  have h1' : (wd : Int) ≤ 1000 := by omega
  clear h1
  have hne : ¬ R1.toList = [] := fun h => by have h2 := ba_sz R1; rw [← toList_data', h] at h2; simp at h2; omega
  have he' : R1.toList.isEmpty = false := by rw [Bool.eq_false_iff, ne_eq, List.isEmpty_iff]; exact hne
  go_wp2_with fail
  (with_reducible refine (cix.out _).mono ?_)
  rintro e w' ⟨rfl, rfl⟩
  go_wp2_with fail
  have HF := Lib.hid (And.intro (put8 (HK4.out.1.only ((Only.refl (w.heap.size + 1) w').setCell 7 (.int .u8 (R1[0].toNat : Int))) (by omega)) fl fz fp fb (wd : Int) 0 false (R1[0].toNat : Int)).drew (below8 (HK4.out.2.2.setCell (p := ⟨w.heap.size + 1, 7, none⟩) (Nat.le_succ _) (.int .u8 (R1[0].toNat : Int))) (Nat.le_refl _) (.bool fl) (.bool fz) (.bool fp) (.bool fb) (.int .i64 (wd : Int)) (.int .i64 0) (.bool false) (.int .u8 (R1[0].toNat : Int))).drew)
  go_region
  go_wp2_with fail
  refine bodyPost_ret (v := .tuple #[cva fl fz fp fb (wd : Int) 0 false (R1[0].toNat : Int), .string (R1.extract 1 R1.size), .int .i64 0]) ?_ rfl ⟨rfl, HF.out.2⟩
  exact conv_results _ _ _ _ _ HF.out.1 rfl rfl rfl
end Go.Proofs.YtipcanbeegladaaGreatDoor
