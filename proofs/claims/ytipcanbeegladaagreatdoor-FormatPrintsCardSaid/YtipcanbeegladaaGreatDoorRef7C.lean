/-
  CONTRACT of the document's own answer for layer 7: One (a value by a conversion): what it hands back; nothing that was there is written.
-/
import Derived.Test.YtipcanbeegladaaGreatDoorRef7B
import Derived.Test.YtipcanbeegladaaGreatDoorRef6N
import Derived.Deep.CutRange
import Derived.Deep.DeepCutAuto
namespace Go.Proofs.YtipcanbeegladaaGreatDoor
open Go.RowKit

/-- The document's conversion says what the code's does. -/
structure SpIs (F : ByteArray) (wd pr : Int) (v : UInt8) (c : Cv) : Prop where
  left : F.data.toList.contains 45 = c.left
  noughts : F.data.toList.contains 48 = c.noughts
  plus : F.data.toList.contains 43 = c.plus
  blank : F.data.toList.contains 32 = c.blank
  width : wd = (c.width : Int)
  prec : pr = if c.precise then (c.prec : Int) else -1
  kind : v = c.kind
  w1 : c.width ≤ 1000
  p1 : c.prec ≤ 1000
  f1 : F.size ≤ 100000
/-- A value of the document's lies at these three cells. -/
def C3At (w : World) (b : Nat) (k n : Int) (s : ByteArray) : Prop := w.cell? ⟨b, 0, none⟩ = some (.int .i64 k) ∧ w.cell? ⟨b, 1, none⟩ = some (.int .i64 n) ∧ w.cell? ⟨b, 2, none⟩ = some (.string s)
theorem C3At.keep {w w' : World} {b : Nat} {k n : Int} {s : ByteArray} (h : C3At w b k n s) (hb : Below w.heap.size w w') : C3At w' b k n s := by
  have k : ∀ {c o : Nat} {x : Value}, w.cell? ⟨c, o, none⟩ = some x → w'.cell? ⟨c, o, none⟩ = some x := fun h => (hb.cell (p := ⟨_, _, none⟩) (World.block_lt_of_cell? _ _ h)).trans h
  exact ⟨k h.1, k h.2.1, k h.2.2⟩
/-- Both. -/
def OneAt (w0 : World) (a b : Nat) (F : ByteArray) (wd pr : Int) (v : UInt8) (nx : Int) (k n : Int) (s : ByteArray) (w : World) : Prop := SpAt w a F wd pr v nx ∧ C3At w b k n s ∧ Below w0.heap.size w0 w
theorem OneAt.keep {w0 w w' : World} {a b : Nat} {F : ByteArray} {wd pr : Int} {v : UInt8} {nx k n : Int} {s : ByteArray} (h : OneAt w0 a b F wd pr v nx k n s w) (hb : Below w.heap.size w w') : OneAt w0 a b F wd pr v nx k n s w' :=
  ⟨h.1.keep hb, h.2.1.keep hb, h.2.2.trans (hb.mono h.2.2.size)⟩
def sgB (b32 b43 : Bool) : ByteArray := if b43 then ⟨#[43]⟩ else if b32 then ⟨#[32]⟩ else ⟨#[]⟩
theorem okeep5 {W w w3 : World} {a : Nat} {x0 x1 x2 x3 x4 : Value} (h : w.cell? ⟨a, 0, none⟩ = some x0 ∧ w.cell? ⟨a, 1, none⟩ = some x1 ∧ w.cell? ⟨a, 2, none⟩ = some x2 ∧ w.cell? ⟨a, 3, none⟩ = some x3 ∧ w.cell? ⟨a, 4, none⟩ = some x4 ∧ Below W.heap.size W w) (hb : Below w.heap.size w w3) :
    w3.cell? ⟨a, 0, none⟩ = some x0 ∧ w3.cell? ⟨a, 1, none⟩ = some x1 ∧ w3.cell? ⟨a, 2, none⟩ = some x2 ∧ w3.cell? ⟨a, 3, none⟩ = some x3 ∧ w3.cell? ⟨a, 4, none⟩ = some x4 ∧ Below W.heap.size W w3 := by
  have k : ∀ {c o : Nat} {x : Value}, w.cell? ⟨c, o, none⟩ = some x → w3.cell? ⟨c, o, none⟩ = some x := fun h => (hb.cell (p := ⟨_, _, none⟩) (World.block_lt_of_cell? _ _ h)).trans h
  obtain ⟨h0, h1, h2, h3, h4, h5⟩ := h
  exact ⟨k h0, k h1, k h2, k h3, k h4, h5.trans (hb.mono h5.size)⟩
theorem odraw5 {W w : World} {a : Nat} {x0 x1 x2 x3 x4 : Value} (h : w.cell? ⟨a, 0, none⟩ = some x0 ∧ w.cell? ⟨a, 1, none⟩ = some x1 ∧ w.cell? ⟨a, 2, none⟩ = some x2 ∧ w.cell? ⟨a, 3, none⟩ = some x3 ∧ w.cell? ⟨a, 4, none⟩ = some x4 ∧ Below W.heap.size W w) :
    w.drew.cell? ⟨a, 0, none⟩ = some x0 ∧ w.drew.cell? ⟨a, 1, none⟩ = some x1 ∧ w.drew.cell? ⟨a, 2, none⟩ = some x2 ∧ w.drew.cell? ⟨a, 3, none⟩ = some x3 ∧ w.drew.cell? ⟨a, 4, none⟩ = some x4 ∧ Below W.heap.size W w.drew := ⟨h.1, h.2.1, h.2.2.1, h.2.2.2.1, h.2.2.2.2.1, h.2.2.2.2.2.drew⟩
theorem obel5 {W w : World} {a : Nat} {x0 x1 x2 x3 x4 : Value} (h : w.cell? ⟨a, 0, none⟩ = some x0 ∧ w.cell? ⟨a, 1, none⟩ = some x1 ∧ w.cell? ⟨a, 2, none⟩ = some x2 ∧ w.cell? ⟨a, 3, none⟩ = some x3 ∧ w.cell? ⟨a, 4, none⟩ = some x4 ∧ Below W.heap.size W w) : Below W.heap.size W w := h.2.2.2.2.2
set_option maxHeartbeats 8000000 in
set_option maxRecDepth 100000 in
theorem rone_s (F : ByteArray) (wd pr : Int) (nx k n : Int) (s : ByteArray) (b32 b43 : Bool) (m : Int) (R : ByteArray) (w : World) (S T : ByteArray)
    (_hF : F.size ≤ 100000) (_hpr : pr ≤ 1000) (_hpr0 : -1 ≤ pr)
    (CN : Hid (∀ W, Calls Tryz.prog 34 #[.agg #[.int .i64 k, .int .i64 n, .string s]] W fun e w' => e = .returned (.int .i64 m) ∧ Below W.heap.size W w'))
    (C32 : Hid (∀ W, Calls Tryz.prog 35 #[spv F wd pr 115 nx, .int .u8 32] W fun e w' => e = .returned (.bool b32) ∧ Below W.heap.size W w'))
    (C43 : Hid (∀ W, Calls Tryz.prog 35 #[spv F wd pr 115 nx, .int .u8 43] W fun e w' => e = .returned (.bool b43) ∧ Below W.heap.size W w'))
    (CS : Hid (∀ W, Calls Tryz.prog 41 #[.agg #[.int .i64 k, .int .i64 n, .string s]] W fun e w' => e = .returned (.string S) ∧ Below W.heap.size W w'))
    (hT : (pr < 0 ∨ (S.size : Int) ≤ pr) ∧ T = S ∨ (0 ≤ pr ∧ pr < (S.size : Int)) ∧ T = S.extract 0 pr.toNat) (hS : S.size ≤ 1000)
    (CW : Hid (∀ W, Calls Tryz.prog 39 #[spv F wd pr 115 nx, .string ⟨#[]⟩, .string T, .bool false] W fun e w' => e = .returned (.string R) ∧ Below W.heap.size W w')) :
    Calls Tryz.prog 15 #[spv F wd pr 115 nx, .agg #[.int .i64 k, .int .i64 n, .string s]] w fun e w' => e = .returned (.string R) ∧ Below w.heap.size w w' := by
  have H0 : OneAt w w.heap.size (w.heap.size + 1) F wd pr 115 nx k n s ((w.alloc (.cells #[.string F, .int .i64 wd, .int .i64 pr, .int .u8 115, .int .i64 nx] 46)).alloc (.cells #[.int .i64 k, .int .i64 n, .string s] 50)) := by
    refine ⟨?_, ?_, ((Below.refl _ _).alloc (Nat.le_refl _) _).alloc (by simp) _⟩
    · refine ⟨?_, ?_, ?_, ?_, ?_⟩ <;> simp [go_sem]
    · refine ⟨?_, ?_, ?_⟩ <;> simp [go_sem]
  unfold spv at *
  rw [show (((115 : UInt8).toNat : Nat) : Int) = 115 from rfl] at *
  go_enter Tryz.func15, Tryz.ntmps15
  go_wp2_with fail
  generalize (w.alloc (.cells #[.string F, .int .i64 wd, .int .i64 pr, .int .u8 115, .int .i64 nx] 46)).alloc (.cells #[.int .i64 k, .int .i64 n, .string s] 50) = w1 at *
  refine (CN.out _).mono ?_
  rintro e w2 ⟨rfl, hb⟩
  have H := H0.keep hb
  clear hb H0
  obtain ⟨⟨s0, s1, s2, s3, s4⟩, ⟨c0, c1, c2⟩, hbl⟩ := id H
  replace s3 : w2.cell? ⟨w.heap.size, 3, none⟩ = some (.int .u8 115) := s3
  go_wp2_with fail
  refine (C32.out _).mono ?_
  rintro e w3 ⟨rfl, hb⟩
  have H := H.keep hb
  clear hb s0 s1 s2 s3 s4 c0 c1 c2 hbl
  obtain ⟨⟨s0, s1, s2, s3, s4⟩, ⟨c0, c1, c2⟩, hbl⟩ := id H
  replace s3 : w3.cell? ⟨w.heap.size, 3, none⟩ = some (.int .u8 115) := s3
  go_upto_if 17 with fail
  go_cut [6] (fun v6 wx => v6 = .string (sgB b32 false) ∧ wx = w3)
  case first =>
    cases b32
    all_goals
      go_wp2_with fail
      go_meet
      exact ⟨rfl, rfl⟩
  case rest =>
    obtain ⟨rfl, rfl⟩ := hcut
    go_wp2_with fail
    refine (C43.out _).mono ?_
    rintro e w4 ⟨rfl, hb⟩
    have H := H.keep hb
    clear hb s0 s1 s2 s3 s4 c0 c1 c2 hbl
    obtain ⟨⟨s0, s1, s2, s3, s4⟩, ⟨c0, c1, c2⟩, hbl⟩ := id H
    replace s3 : w4.cell? ⟨w.heap.size, 3, none⟩ = some (.int .u8 115) := s3
    go_upto_if 19 with fail
    go_cut [6] (fun v6 wx => v6 = .string (sgB b32 b43) ∧ wx = w4)
    case first =>
      cases b43
      all_goals
        go_wp2_with fail
        go_meet
        exact ⟨rfl, rfl⟩
    case rest =>
      obtain ⟨rfl, rfl⟩ := hcut
      clear CN C32 C43
      go_wp2_with fail
      refine (CS.out _).mono ?_
      rintro e w5 ⟨rfl, hb⟩
      have H := H.keep hb
      clear hb s0 s1 s2 s3 s4 c0 c1 c2 hbl
      obtain ⟨⟨s0, s1, s2, s3, s4⟩, ⟨c0, c1, c2⟩, hbl⟩ := id H
      replace s3 : w5.cell? ⟨w.heap.size, 3, none⟩ = some (.int .u8 115) := s3
      rcases hT with ⟨h | h, rfl⟩ | ⟨⟨h1, h2⟩, rfl⟩
      · have h0 : ¬ 0 ≤ pr := by omega
        go_wp2_with fail
        refine (CW.out _).mono ?_
        rintro e w6 ⟨rfl, hb⟩
        have H := H.keep hb
        clear hb s0 s1 s2 s3 s4 c0 c1 c2 hbl
        obtain ⟨⟨s0, s1, s2, s3, s4⟩, ⟨c0, c1, c2⟩, hbl⟩ := id H
        replace s3 : w6.cell? ⟨w.heap.size, 3, none⟩ = some (.int .u8 115) := s3
        go_wp2_with fail
        go_ret
        exact ⟨rfl, H.2.2⟩
      · by_cases h0 : 0 ≤ pr
        · have h1 : ¬ pr < (T.size : Int) := by omega
          go_wp2_with fail
          refine (CW.out _).mono ?_
          rintro e w6 ⟨rfl, hb⟩
          have H := H.keep hb
          clear hb s0 s1 s2 s3 s4 c0 c1 c2 hbl
          obtain ⟨⟨s0, s1, s2, s3, s4⟩, ⟨c0, c1, c2⟩, hbl⟩ := id H
          replace s3 : w6.cell? ⟨w.heap.size, 3, none⟩ = some (.int .u8 115) := s3
          go_wp2_with fail
          go_ret
          exact ⟨rfl, H.2.2⟩
        · exfalso; omega
      · obtain ⟨q, rfl⟩ : ∃ q : Nat, pr = q := ⟨pr.toNat, by omega⟩
        rw [Int.toNat_natCast] at CW
        go_wp2_with fail
        refine (CW.out _).mono ?_
        rintro e w6 ⟨rfl, hb⟩
        have H := H.keep hb
        clear hb s0 s1 s2 s3 s4 c0 c1 c2 hbl
        obtain ⟨⟨s0, s1, s2, s3, s4⟩, ⟨c0, c1, c2⟩, hbl⟩ := id H
        replace s3 : w6.cell? ⟨w.heap.size, 3, none⟩ = some (.int .u8 115) := s3
        go_wp2_with fail
        go_ret
        exact ⟨rfl, H.2.2⟩
set_option maxHeartbeats 8000000 in
set_option maxRecDepth 100000 in
theorem rone_c (F : ByteArray) (wd pr : Int) (nx k n : Int) (s : ByteArray) (b32 b43 : Bool) (m : Int) (R : ByteArray) (w : World) (S T : ByteArray) (q : Int) (c8 : UInt8)
    (_hF : F.size ≤ 100000) (_hpr : pr ≤ 1000) (_hpr0 : -1 ≤ pr)
    (CN : Hid (∀ W, Calls Tryz.prog 34 #[.agg #[.int .i64 k, .int .i64 n, .string s]] W fun e w' => e = .returned (.int .i64 m) ∧ Below W.heap.size W w'))
    (C32 : Hid (∀ W, Calls Tryz.prog 35 #[spv F wd pr 99 nx, .int .u8 32] W fun e w' => e = .returned (.bool b32) ∧ Below W.heap.size W w'))
    (C43 : Hid (∀ W, Calls Tryz.prog 35 #[spv F wd pr 99 nx, .int .u8 43] W fun e w' => e = .returned (.bool b43) ∧ Below W.heap.size W w'))
    (CS : Hid (∀ W, Calls Tryz.prog 41 #[.agg #[.int .i64 k, .int .i64 n, .string s]] W fun e w' => e = .returned (.string S) ∧ Below W.heap.size W w'))
    (hk : k = 1 ∧ T = ⟨#[c8]⟩ ∧ n.tdiv 1000000 = q ∧ IntKind.u8.wrap q = (c8.toNat : Int) ∧ -5000000000000 ≤ q ∧ q ≤ 5000000000000 ∨ k ≠ 1 ∧ (S.size ≤ 1 ∧ T = S ∨ 1 < S.size ∧ T = S.extract 0 1)) (hS : S.size ≤ 1000)
    (CW : Hid (∀ W, Calls Tryz.prog 39 #[spv F wd pr 99 nx, .string ⟨#[]⟩, .string T, .bool false] W fun e w' => e = .returned (.string R) ∧ Below W.heap.size W w')) :
    Calls Tryz.prog 15 #[spv F wd pr 99 nx, .agg #[.int .i64 k, .int .i64 n, .string s]] w fun e w' => e = .returned (.string R) ∧ Below w.heap.size w w' := by
  have H0 : OneAt w w.heap.size (w.heap.size + 1) F wd pr 99 nx k n s ((w.alloc (.cells #[.string F, .int .i64 wd, .int .i64 pr, .int .u8 99, .int .i64 nx] 46)).alloc (.cells #[.int .i64 k, .int .i64 n, .string s] 50)) := by
    refine ⟨?_, ?_, ((Below.refl _ _).alloc (Nat.le_refl _) _).alloc (by simp) _⟩
    · refine ⟨?_, ?_, ?_, ?_, ?_⟩ <;> simp [go_sem]
    · refine ⟨?_, ?_, ?_⟩ <;> simp [go_sem]
  unfold spv at *
  rw [show (((99 : UInt8).toNat : Nat) : Int) = 99 from rfl] at *
  go_enter Tryz.func15, Tryz.ntmps15
  go_wp2_with fail
  generalize (w.alloc (.cells #[.string F, .int .i64 wd, .int .i64 pr, .int .u8 99, .int .i64 nx] 46)).alloc (.cells #[.int .i64 k, .int .i64 n, .string s] 50) = w1 at *
  refine (CN.out _).mono ?_
  rintro e w2 ⟨rfl, hb⟩
  have H := H0.keep hb
  clear hb H0
  obtain ⟨⟨s0, s1, s2, s3, s4⟩, ⟨c0, c1, c2⟩, hbl⟩ := id H
  replace s3 : w2.cell? ⟨w.heap.size, 3, none⟩ = some (.int .u8 99) := s3
  go_wp2_with fail
  refine (C32.out _).mono ?_
  rintro e w3 ⟨rfl, hb⟩
  have H := H.keep hb
  clear hb s0 s1 s2 s3 s4 c0 c1 c2 hbl
  obtain ⟨⟨s0, s1, s2, s3, s4⟩, ⟨c0, c1, c2⟩, hbl⟩ := id H
  replace s3 : w3.cell? ⟨w.heap.size, 3, none⟩ = some (.int .u8 99) := s3
  go_upto_if 17 with fail
  go_cut [6] (fun v6 wx => v6 = .string (sgB b32 false) ∧ wx = w3)
  case first =>
    cases b32
    all_goals
      go_wp2_with fail
      go_meet
      exact ⟨rfl, rfl⟩
  case rest =>
    obtain ⟨rfl, rfl⟩ := hcut
    go_wp2_with fail
    refine (C43.out _).mono ?_
    rintro e w4 ⟨rfl, hb⟩
    have H := H.keep hb
    clear hb s0 s1 s2 s3 s4 c0 c1 c2 hbl
    obtain ⟨⟨s0, s1, s2, s3, s4⟩, ⟨c0, c1, c2⟩, hbl⟩ := id H
    replace s3 : w4.cell? ⟨w.heap.size, 3, none⟩ = some (.int .u8 99) := s3
    go_upto_if 19 with fail
    go_cut [6] (fun v6 wx => v6 = .string (sgB b32 b43) ∧ wx = w4)
    case first =>
      cases b43
      all_goals
        go_wp2_with fail
        go_meet
        exact ⟨rfl, rfl⟩
    case rest =>
      obtain ⟨rfl, rfl⟩ := hcut
      clear CN C32 C43
      go_wp2_with fail
      refine (CS.out _).mono ?_
      rintro e w5 ⟨rfl, hb⟩
      have H := H.keep hb
      clear hb s0 s1 s2 s3 s4 c0 c1 c2 hbl
      obtain ⟨⟨s0, s1, s2, s3, s4⟩, ⟨c0, c1, c2⟩, hbl⟩ := id H
      replace s3 : w5.cell? ⟨w.heap.size, 3, none⟩ = some (.int .u8 99) := s3
      rcases hk with ⟨rfl, rfl, hq, hq8, hq1, hq2⟩ | ⟨hk, ⟨h1, rfl⟩ | ⟨h1, rfl⟩⟩
      · have hcv := conv_one c8 (c8.toNat : Int) rfl ⟨w5.heap.size, 0, none⟩ (w5.alloc (.cells #[.int .u8 (c8.toNat : Int)] 5)) (by simp [go_sem])
        have hc1 : (⟨#[c8]⟩ : ByteArray).size = 1 := rfl
        have hb := (Below.refl w5.heap.size w5).alloc (Nat.le_refl _) (.cells #[.int .u8 (c8.toNat : Int)] 5)
        have H := H.keep hb
        obtain ⟨⟨t0, t1, t2, t3, t4⟩, -, -⟩ := id H
        clear hb
        go_wp2_with fail
        clear t0 t1 t2 t3 t4
        refine (CW.out _).mono ?_
        rintro e w6 ⟨rfl, hb⟩
        have H := H.keep hb
        clear hb s0 s1 s2 s3 s4 c0 c1 c2 hbl
        go_wp2_with fail
        go_ret
        exact ⟨rfl, H.2.2⟩
      · have hkb : (k == 1) = false := by simpa using hk
        have h1i : ¬ 1 < (T.size : Int) := by omega
        go_wp2_with fail
        refine (CW.out _).mono ?_
        rintro e w6 ⟨rfl, hb⟩
        have H := H.keep hb
        clear hb s0 s1 s2 s3 s4 c0 c1 c2 hbl
        obtain ⟨⟨s0, s1, s2, s3, s4⟩, ⟨c0, c1, c2⟩, hbl⟩ := id H
        replace s3 : w6.cell? ⟨w.heap.size, 3, none⟩ = some (.int .u8 99) := s3
        go_wp2_with fail
        go_ret
        exact ⟨rfl, H.2.2⟩
      · have hkb : (k == 1) = false := by simpa using hk
        have h1i : 1 < (S.size : Int) := by omega
        go_wp2_with fail
        refine (CW.out _).mono ?_
        rintro e w6 ⟨rfl, hb⟩
        have H := H.keep hb
        clear hb s0 s1 s2 s3 s4 c0 c1 c2 hbl
        obtain ⟨⟨s0, s1, s2, s3, s4⟩, ⟨c0, c1, c2⟩, hbl⟩ := id H
        replace s3 : w6.cell? ⟨w.heap.size, 3, none⟩ = some (.int .u8 99) := s3
        go_wp2_with fail
        go_ret
        exact ⟨rfl, H.2.2⟩
set_option maxHeartbeats 8000000 in
set_option maxRecDepth 100000 in
theorem rone_f (F : ByteArray) (wd pr : Int) (nx k n : Int) (s : ByteArray) (b32 b43 : Bool) (m : Int) (R : ByteArray) (w : World) (a p : Nat) (DS DP MS BD sg : ByteArray)
    (_hF : F.size ≤ 100000) (_hpr : pr ≤ 1000) (_hpr0 : -1 ≤ pr)
    (CN : Hid (∀ W, Calls Tryz.prog 34 #[.agg #[.int .i64 k, .int .i64 n, .string s]] W fun e w' => e = .returned (.int .i64 m) ∧ Below W.heap.size W w'))
    (C32 : Hid (∀ W, Calls Tryz.prog 35 #[spv F wd pr 102 nx, .int .u8 32] W fun e w' => e = .returned (.bool b32) ∧ Below W.heap.size W w'))
    (C43 : Hid (∀ W, Calls Tryz.prog 35 #[spv F wd pr 102 nx, .int .u8 43] W fun e w' => e = .returned (.bool b43) ∧ Below W.heap.size W w'))
    (CZ : Hid (∀ W, Calls Tryz.prog 36 #[.int .i64 m] W fun e w' => e = .returned (.int .u64 (a : Int)) ∧ W = w'))
    (ha : a ≤ 4611686018427387903) (hs : (DP : ByteArray).size ≤ 7) (hs1 : 1 ≤ DP.size) (hs2 : DS.size ≤ 20) (hp : pr < 0 ∧ p = 6 ∨ pr = (p : Int)) (hsg : (if m < 0 then ⟨#[45]⟩ else sgB b32 b43 : ByteArray) = sg) (hms : MS.size ≤ 1000) (hp3 : p ≤ (DP.extract 1 DP.size ++ MS).size)
    (D1 : Hid (∀ W, Calls Tryz.prog 37 #[.int .u64 ((a / 1000000 : Nat) : Int)] W fun e w' => e = .returned (.string DS) ∧ Below W.heap.size W w'))
    (D2 : Hid (∀ W, Calls Tryz.prog 37 #[.int .u64 ((1000000 + a % 1000000 : Nat) : Int)] W fun e w' => e = .returned (.string DP) ∧ Below W.heap.size W w'))
    (CM : Hid (∀ W, Calls Tryz.prog 40 #[.int .u8 48, .int .i64 (p : Int)] W fun e w' => e = .returned (.string MS) ∧ Below W.heap.size W w'))
    (hB : p = 0 ∧ BD = DS ∨ 0 < p ∧ BD = DS ++ (⟨#[46]⟩ ++ (DP.extract 1 DP.size ++ MS).extract 0 p))
    (CW : Hid (∀ W, Calls Tryz.prog 39 #[spv F wd pr 102 nx, .string sg, .string BD, .bool true] W fun e w' => e = .returned (.string R) ∧ Below W.heap.size W w')) :
    Calls Tryz.prog 15 #[spv F wd pr 102 nx, .agg #[.int .i64 k, .int .i64 n, .string s]] w fun e w' => e = .returned (.string R) ∧ Below w.heap.size w w' := by
  have H0 : OneAt w w.heap.size (w.heap.size + 1) F wd pr 102 nx k n s ((w.alloc (.cells #[.string F, .int .i64 wd, .int .i64 pr, .int .u8 102, .int .i64 nx] 46)).alloc (.cells #[.int .i64 k, .int .i64 n, .string s] 50)) := by
    refine ⟨?_, ?_, ((Below.refl _ _).alloc (Nat.le_refl _) _).alloc (by simp) _⟩
    · refine ⟨?_, ?_, ?_, ?_, ?_⟩ <;> simp [go_sem]
    · refine ⟨?_, ?_, ?_⟩ <;> simp [go_sem]
  unfold spv at *
  rw [show (((102 : UInt8).toNat : Nat) : Int) = 102 from rfl] at *
  go_enter Tryz.func15, Tryz.ntmps15
  go_wp2_with fail
  generalize (w.alloc (.cells #[.string F, .int .i64 wd, .int .i64 pr, .int .u8 102, .int .i64 nx] 46)).alloc (.cells #[.int .i64 k, .int .i64 n, .string s] 50) = w1 at *
  refine (CN.out _).mono ?_
  rintro e w2 ⟨rfl, hb⟩
  have H := H0.keep hb
  clear hb H0
  obtain ⟨⟨s0, s1, s2, s3, s4⟩, ⟨c0, c1, c2⟩, hbl⟩ := id H
  replace s3 : w2.cell? ⟨w.heap.size, 3, none⟩ = some (.int .u8 102) := s3
  go_wp2_with fail
  refine (C32.out _).mono ?_
  rintro e w3 ⟨rfl, hb⟩
  have H := H.keep hb
  clear hb s0 s1 s2 s3 s4 c0 c1 c2 hbl
  obtain ⟨⟨s0, s1, s2, s3, s4⟩, ⟨c0, c1, c2⟩, hbl⟩ := id H
  replace s3 : w3.cell? ⟨w.heap.size, 3, none⟩ = some (.int .u8 102) := s3
  go_upto_if 17 with fail
  go_cut [6] (fun v6 wx => v6 = .string (sgB b32 false) ∧ wx = w3)
  case first =>
    cases b32
    all_goals
      go_wp2_with fail
      go_meet
      exact ⟨rfl, rfl⟩
  case rest =>
    obtain ⟨rfl, rfl⟩ := hcut
    go_wp2_with fail
    refine (C43.out _).mono ?_
    rintro e w4 ⟨rfl, hb⟩
    have H := H.keep hb
    clear hb s0 s1 s2 s3 s4 c0 c1 c2 hbl
    obtain ⟨⟨s0, s1, s2, s3, s4⟩, ⟨c0, c1, c2⟩, hbl⟩ := id H
    replace s3 : w4.cell? ⟨w.heap.size, 3, none⟩ = some (.int .u8 102) := s3
    go_upto_if 19 with fail
    go_cut [6] (fun v6 wx => v6 = .string (sgB b32 b43) ∧ wx = w4)
    case first =>
      cases b43
      all_goals
        go_wp2_with fail
        go_meet
        exact ⟨rfl, rfl⟩
    case rest =>
      obtain ⟨rfl, rfl⟩ := hcut
      clear CN C32 C43
      go_upto_if 62 with fail
      go_cut [6] (fun v6 wx => v6 = .string sg ∧ wx = wc)
      case first =>
        by_cases h : m < 0
        · rw [if_pos h] at hsg
          subst hsg
          go_wp2_with fail
          go_meet
          exact ⟨rfl, rfl⟩
        · rw [if_neg h] at hsg
          subst hsg
          go_wp2_with fail
          go_meet
          exact ⟨rfl, rfl⟩
      case rest =>
        obtain ⟨rfl, rfl⟩ := hcut
        obtain ⟨a1, ha1⟩ : ∃ x, a / 1000000 = x := ⟨_, rfl⟩
        obtain ⟨a2, ha2⟩ : ∃ x, a % 1000000 = x := ⟨_, rfl⟩
        obtain ⟨a3, ha3⟩ : ∃ x, 1000000 + a2 = x := ⟨_, rfl⟩
        have e1 : (a : Int) / 1000000 = (a1 : Int) := by omega
        have e2 : (a : Int) % 1000000 = (a2 : Int) := by omega
        have e3 : 1000000 + (a2 : Int) = (a3 : Int) := by omega
        rw [ha1] at D1
        rw [ha2, ha3] at D2
        have hb3 : a3 ≤ 2000000 := by omega
        obtain ⟨PT, hPT⟩ : ∃ PT, DP.extract 1 DP.size = PT := ⟨_, rfl⟩
        rw [hPT] at hp3 hB
        have hPTs : PT.size ≤ 7 := by rw [← hPT]; simp; omega
        have hs1i : 1 ≤ (DP.size : Int) := by omega
        clear ha1 ha2 ha3
        go_wp2_with ((with_reducible refine (CZ.out _).mono ?_); rintro e w' ⟨rfl, rfl⟩)
        refine (D1.out _).mono ?_
        rintro e w5 ⟨rfl, hb⟩
        have H := H.keep hb
        clear hb s0 s1 s2 s3 s4 c0 c1 c2 hbl
        obtain ⟨⟨s0, s1, s2, s3, s4⟩, ⟨c0, c1, c2⟩, hbl⟩ := id H
        replace s3 : w5.cell? ⟨w.heap.size, 3, none⟩ = some (.int .u8 102) := s3
        go_wp2_with ((with_reducible refine (CZ.out _).mono ?_); rintro e w' ⟨rfl, rfl⟩)
        refine (D2.out _).mono ?_
        rintro e w6 ⟨rfl, hb⟩
        have H := H.keep hb
        clear hb s0 s1 s2 s3 s4 c0 c1 c2 hbl
        obtain ⟨⟨s0, s1, s2, s3, s4⟩, ⟨c0, c1, c2⟩, hbl⟩ := id H
        replace s3 : w6.cell? ⟨w.heap.size, 3, none⟩ = some (.int .u8 102) := s3
        have hsz : (PT ++ MS).size ≤ 1007 := by rw [ByteArray.size_append]; omega
        rcases hp with ⟨hp, rfl⟩ | rfl
        · rcases hB with ⟨h, _⟩ | ⟨_, rfl⟩
          · omega
          have hp6 : (6 : Int) ≤ ((PT ++ MS).size : Int) := by omega
          rw [ByteArray.size_append] at hp6
          go_wp2_with fail
          refine (CM.out _).mono ?_
          rintro e w7 ⟨rfl, hb⟩
          have H := H.keep hb
          clear hb s0 s1 s2 s3 s4 c0 c1 c2 hbl
          obtain ⟨⟨s0, s1, s2, s3, s4⟩, ⟨c0, c1, c2⟩, hbl⟩ := id H
          replace s3 : w7.cell? ⟨w.heap.size, 3, none⟩ = some (.int .u8 102) := s3
          go_wp2_with fail
          refine (CW.out _).mono ?_
          rintro e w8 ⟨rfl, hb⟩
          have H := H.keep hb
          clear hb s0 s1 s2 s3 s4 c0 c1 c2 hbl
          obtain ⟨⟨s0, s1, s2, s3, s4⟩, ⟨c0, c1, c2⟩, hbl⟩ := id H
          replace s3 : w8.cell? ⟨w.heap.size, 3, none⟩ = some (.int .u8 102) := s3
          go_wp2_with fail
          go_ret
          exact ⟨rfl, H.2.2⟩
        · have hp0 : ¬ (p : Int) < 0 := by omega
          go_wp2_with fail
          refine (CM.out _).mono ?_
          rintro e w7 ⟨rfl, hb⟩
          have H := H.keep hb
          clear hb s0 s1 s2 s3 s4 c0 c1 c2 hbl
          obtain ⟨⟨s0, s1, s2, s3, s4⟩, ⟨c0, c1, c2⟩, hbl⟩ := id H
          replace s3 : w7.cell? ⟨w.heap.size, 3, none⟩ = some (.int .u8 102) := s3
          rcases hB with ⟨rfl, rfl⟩ | ⟨h, rfl⟩
          · go_wp2_with fail
            refine (CW.out _).mono ?_
            rintro e w8 ⟨rfl, hb⟩
            have H := H.keep hb
            clear hb s0 s1 s2 s3 s4 c0 c1 c2 hbl
            obtain ⟨⟨s0, s1, s2, s3, s4⟩, ⟨c0, c1, c2⟩, hbl⟩ := id H
            replace s3 : w8.cell? ⟨w.heap.size, 3, none⟩ = some (.int .u8 102) := s3
            go_wp2_with fail
            go_ret
            exact ⟨rfl, H.2.2⟩
          · have hpi : 0 < (p : Int) := by omega
            have hp6 : (p : Int) ≤ ((PT ++ MS).size : Int) := by omega
            have hp7 : (p : Int) ≤ 1007 := by omega
            rw [ByteArray.size_append] at hp6
            go_wp2_with fail
            refine (CW.out _).mono ?_
            rintro e w8 ⟨rfl, hb⟩
            have H := H.keep hb
            clear hb s0 s1 s2 s3 s4 c0 c1 c2 hbl
            obtain ⟨⟨s0, s1, s2, s3, s4⟩, ⟨c0, c1, c2⟩, hbl⟩ := id H
            replace s3 : w8.cell? ⟨w.heap.size, 3, none⟩ = some (.int .u8 102) := s3
            go_wp2_with fail
            go_ret
            exact ⟨rfl, H.2.2⟩
set_option maxHeartbeats 8000000 in
set_option maxRecDepth 100000 in
theorem rone_d (F : ByteArray) (wd pr : Int) (nx k n : Int) (s : ByteArray) (b32 b43 : Bool) (m : Int) (R : ByteArray) (w : World) (a : Nat) (DS MS X sg : ByteArray)
    (_hF : F.size ≤ 100000) (_hpr : pr ≤ 1000) (_hpr0 : -1 ≤ pr)
    (CN : Hid (∀ W, Calls Tryz.prog 34 #[.agg #[.int .i64 k, .int .i64 n, .string s]] W fun e w' => e = .returned (.int .i64 m) ∧ Below W.heap.size W w'))
    (C32 : Hid (∀ W, Calls Tryz.prog 35 #[spv F wd pr 100 nx, .int .u8 32] W fun e w' => e = .returned (.bool b32) ∧ Below W.heap.size W w'))
    (C43 : Hid (∀ W, Calls Tryz.prog 35 #[spv F wd pr 100 nx, .int .u8 43] W fun e w' => e = .returned (.bool b43) ∧ Below W.heap.size W w'))
    (CZ : Hid (∀ W, Calls Tryz.prog 36 #[.int .i64 m] W fun e w' => e = .returned (.int .u64 (a : Int)) ∧ W = w'))
    (ha : a ≤ 4611686018427387903) (_hs2 : DS.size ≤ 20) (hsg : (if m ≤ -1000000 then ⟨#[45]⟩ else sgB b32 b43 : ByteArray) = sg) (hX : (if pr = 0 ∧ a / 1000000 = 0 then ⟨#[]⟩ else DS : ByteArray) = X) (hXs : X.size ≤ 20) (hms : MS.size ≤ 1000)
    (D1 : Hid (∀ W, Calls Tryz.prog 37 #[.int .u64 ((a / 1000000 : Nat) : Int)] W fun e w' => e = .returned (.string DS) ∧ Below W.heap.size W w'))
    (CM : Hid (∀ W, Calls Tryz.prog 40 #[.int .u8 48, .int .i64 (pr - (X.size : Int))] W fun e w' => e = .returned (.string MS) ∧ Below W.heap.size W w'))
    (CW : Hid (∀ W, Calls Tryz.prog 39 #[spv F wd pr 100 nx, .string sg, .string (MS ++ X), .bool (decide (pr < 0))] W fun e w' => e = .returned (.string R) ∧ Below W.heap.size W w')) :
    Calls Tryz.prog 15 #[spv F wd pr 100 nx, .agg #[.int .i64 k, .int .i64 n, .string s]] w fun e w' => e = .returned (.string R) ∧ Below w.heap.size w w' := by
  have H0 : OneAt w w.heap.size (w.heap.size + 1) F wd pr 100 nx k n s ((w.alloc (.cells #[.string F, .int .i64 wd, .int .i64 pr, .int .u8 100, .int .i64 nx] 46)).alloc (.cells #[.int .i64 k, .int .i64 n, .string s] 50)) := by
    refine ⟨?_, ?_, ((Below.refl _ _).alloc (Nat.le_refl _) _).alloc (by simp) _⟩
    · refine ⟨?_, ?_, ?_, ?_, ?_⟩ <;> simp [go_sem]
    · refine ⟨?_, ?_, ?_⟩ <;> simp [go_sem]
  unfold spv at *
  rw [show (((100 : UInt8).toNat : Nat) : Int) = 100 from rfl] at *
  go_enter Tryz.func15, Tryz.ntmps15
  go_wp2_with fail
  generalize (w.alloc (.cells #[.string F, .int .i64 wd, .int .i64 pr, .int .u8 100, .int .i64 nx] 46)).alloc (.cells #[.int .i64 k, .int .i64 n, .string s] 50) = w1 at *
  refine (CN.out _).mono ?_
  rintro e w2 ⟨rfl, hb⟩
  have H := H0.keep hb
  clear hb H0
  obtain ⟨⟨s0, s1, s2, s3, s4⟩, ⟨c0, c1, c2⟩, hbl⟩ := id H
  replace s3 : w2.cell? ⟨w.heap.size, 3, none⟩ = some (.int .u8 100) := s3
  go_wp2_with fail
  refine (C32.out _).mono ?_
  rintro e w3 ⟨rfl, hb⟩
  have H := H.keep hb
  clear hb s0 s1 s2 s3 s4 c0 c1 c2 hbl
  obtain ⟨⟨s0, s1, s2, s3, s4⟩, ⟨c0, c1, c2⟩, hbl⟩ := id H
  replace s3 : w3.cell? ⟨w.heap.size, 3, none⟩ = some (.int .u8 100) := s3
  go_upto_if 17 with fail
  go_cut [6] (fun v6 wx => v6 = .string (sgB b32 false) ∧ wx = w3)
  case first =>
    cases b32
    all_goals
      go_wp2_with fail
      go_meet
      exact ⟨rfl, rfl⟩
  case rest =>
    obtain ⟨rfl, rfl⟩ := hcut
    go_wp2_with fail
    refine (C43.out _).mono ?_
    rintro e w4 ⟨rfl, hb⟩
    have H := H.keep hb
    clear hb s0 s1 s2 s3 s4 c0 c1 c2 hbl
    obtain ⟨⟨s0, s1, s2, s3, s4⟩, ⟨c0, c1, c2⟩, hbl⟩ := id H
    replace s3 : w4.cell? ⟨w.heap.size, 3, none⟩ = some (.int .u8 100) := s3
    go_upto_if 19 with fail
    go_cut [6] (fun v6 wx => v6 = .string (sgB b32 b43) ∧ wx = w4)
    case first =>
      cases b43
      all_goals
        go_wp2_with fail
        go_meet
        exact ⟨rfl, rfl⟩
    case rest =>
      obtain ⟨rfl, rfl⟩ := hcut
      clear CN C32 C43
      go_upto_if 30 with ((with_reducible refine (CZ.out _).mono ?_); rintro e w' ⟨rfl, rfl⟩)
      obtain ⟨a1, ha1⟩ : ∃ x, a / 1000000 = x := ⟨_, rfl⟩
      have e1 : (a : Int) / 1000000 = (a1 : Int) := by omega
      have ha1b : a1 ≤ 4611686018427 := by omega
      rw [ha1] at D1 hX
      clear ha1
      rw [e1]
      go_cut [6] (fun v6 wx => v6 = .string sg ∧ wx = wc)
      case first =>
        by_cases h : m ≤ -1000000
        · rw [if_pos h] at hsg
          subst hsg
          go_wp2_with ((with_reducible refine (CZ.out _).mono ?_); rintro e w' ⟨rfl, rfl⟩)
          go_meet
          exact ⟨rfl, rfl⟩
        · rw [if_neg h] at hsg
          subst hsg
          go_wp2_with ((with_reducible refine (CZ.out _).mono ?_); rintro e w' ⟨rfl, rfl⟩)
          go_meet
          exact ⟨rfl, rfl⟩
      case rest =>
        obtain ⟨rfl, rfl⟩ := hcut
        go_wp2_with fail
        refine (D1.out _).mono ?_
        rintro e w5 ⟨rfl, hb⟩
        have H := H.keep hb
        clear hb s0 s1 s2 s3 s4 c0 c1 c2 hbl
        obtain ⟨⟨s0, s1, s2, s3, s4⟩, ⟨c0, c1, c2⟩, hbl⟩ := id H
        replace s3 : w5.cell? ⟨w.heap.size, 3, none⟩ = some (.int .u8 100) := s3
        obtain ⟨zb, hzb⟩ : ∃ zb : Bool, zb = true ∧ pr = 0 ∧ a1 = 0 ∨ zb = false ∧ pr = 0 ∧ a1 ≠ 0 ∨ zb = false ∧ pr ≠ 0 := by
          by_cases hp : pr = 0
          · by_cases h0 : a1 = 0
            · exact ⟨true, .inl ⟨rfl, hp, h0⟩⟩
            · exact ⟨false, .inr (.inl ⟨rfl, hp, h0⟩)⟩
          · exact ⟨false, .inr (.inr ⟨rfl, hp⟩)⟩
        go_upto_region 17 with fail
        go_cut [44] (fun vz wx => vz = .bool zb ∧ wx = w5)
        case first =>
          rcases hzb with ⟨rfl, rfl, rfl⟩ | ⟨rfl, rfl, h0⟩ | ⟨rfl, hp⟩
          · go_wp2_with fail
            go_meet
            exact ⟨rfl, rfl⟩
          · have h0b : ((a1 : Int) == 0) = false := by rw [Bool.eq_false_iff]; simp; omega
            go_wp2_with fail
            go_meet
            exact ⟨rfl, rfl⟩
          · have hpb : (pr == 0) = false := by simpa using hp
            go_wp2_with fail
            go_meet
            exact ⟨rfl, rfl⟩
        case rest =>
        obtain ⟨rfl, rfl⟩ := hcut
        go_upto_if 44 with fail
        go_cut [8] (fun v8 wx => v8 = .string X ∧ wx = wc)
        case first =>
          rcases hzb with ⟨rfl, rfl, rfl⟩ | ⟨rfl, rfl, h0⟩ | ⟨rfl, hp⟩
          · rw [if_pos ⟨rfl, rfl⟩] at hX
            subst hX
            go_wp2_with fail
            go_meet
            exact ⟨rfl, rfl⟩
          · rw [if_neg (fun h => h0 h.2)] at hX
            subst hX
            go_wp2_with fail
            go_meet
            exact ⟨rfl, rfl⟩
          · rw [if_neg (fun h => hp h.1)] at hX
            subst hX
            go_wp2_with fail
            go_meet
            exact ⟨rfl, rfl⟩
        case rest =>
          obtain ⟨rfl, rfl⟩ := hcut
          have hq : wc.cell? ⟨w.heap.size, 0, none⟩ = some (.string F) ∧ wc.cell? ⟨w.heap.size, 1, none⟩ = some (.int .i64 wd) ∧ wc.cell? ⟨w.heap.size, 2, none⟩ = some (.int .i64 pr) ∧ wc.cell? ⟨w.heap.size, 3, none⟩ = some (.int .u8 100) ∧ wc.cell? ⟨w.heap.size, 4, none⟩ = some (.int .i64 nx) ∧ Below w.heap.size w wc := ⟨s0, s1, s2, s3, s4, hbl⟩
          clear H
          have hcc : ¬ (9223372036854775807 < MS.size + X.size) := by omega
          have hwr : IntKind.i64.wrap (pr - (X.size : Int)) = pr - (X.size : Int) := IntWalk.i64_in _ (by omega)
          go_upto_region 19 with fail
          go_region_held3 (fun w' => w'.cell? ⟨w.heap.size, 0, none⟩ = some (.string F) ∧ w'.cell? ⟨w.heap.size, 1, none⟩ = some (.int .i64 wd) ∧ w'.cell? ⟨w.heap.size, 2, none⟩ = some (.int .i64 pr) ∧ w'.cell? ⟨w.heap.size, 3, none⟩ = some (.int .u8 100) ∧ w'.cell? ⟨w.heap.size, 4, none⟩ = some (.int .i64 nx) ∧ Below w.heap.size w w') (first | assumption | exact odraw5 (by assumption) | go_keep) (first
            | ((with_reducible refine (CM.out _).mono ?_); rintro e w20 ⟨rfl, hb20⟩; have k8 := okeep5 (by assumption) hb20)
            | ((with_reducible refine (CW.out _).mono ?_); rintro e w20 ⟨rfl, hb20⟩; have k8 := okeep5 (by assumption) hb20))
          all_goals
            go_wp2_with fail
            go_ret
            first | exact ⟨rfl, obel5 (by assumption)⟩ | trace_state
set_option maxHeartbeats 8000000 in
set_option maxRecDepth 100000 in
theorem rone_i (F : ByteArray) (wd pr : Int) (nx k n : Int) (s : ByteArray) (b32 b43 : Bool) (m : Int) (R : ByteArray) (w : World) (a : Nat) (DS MS X sg : ByteArray)
    (_hF : F.size ≤ 100000) (_hpr : pr ≤ 1000) (_hpr0 : -1 ≤ pr)
    (CN : Hid (∀ W, Calls Tryz.prog 34 #[.agg #[.int .i64 k, .int .i64 n, .string s]] W fun e w' => e = .returned (.int .i64 m) ∧ Below W.heap.size W w'))
    (C32 : Hid (∀ W, Calls Tryz.prog 35 #[spv F wd pr 105 nx, .int .u8 32] W fun e w' => e = .returned (.bool b32) ∧ Below W.heap.size W w'))
    (C43 : Hid (∀ W, Calls Tryz.prog 35 #[spv F wd pr 105 nx, .int .u8 43] W fun e w' => e = .returned (.bool b43) ∧ Below W.heap.size W w'))
    (CZ : Hid (∀ W, Calls Tryz.prog 36 #[.int .i64 m] W fun e w' => e = .returned (.int .u64 (a : Int)) ∧ W = w'))
    (ha : a ≤ 4611686018427387903) (_hs2 : DS.size ≤ 20) (hsg : (if m ≤ -1000000 then ⟨#[45]⟩ else sgB b32 b43 : ByteArray) = sg) (hX : (if pr = 0 ∧ a / 1000000 = 0 then ⟨#[]⟩ else DS : ByteArray) = X) (hXs : X.size ≤ 20) (hms : MS.size ≤ 1000)
    (D1 : Hid (∀ W, Calls Tryz.prog 37 #[.int .u64 ((a / 1000000 : Nat) : Int)] W fun e w' => e = .returned (.string DS) ∧ Below W.heap.size W w'))
    (CM : Hid (∀ W, Calls Tryz.prog 40 #[.int .u8 48, .int .i64 (pr - (X.size : Int))] W fun e w' => e = .returned (.string MS) ∧ Below W.heap.size W w'))
    (CW : Hid (∀ W, Calls Tryz.prog 39 #[spv F wd pr 105 nx, .string sg, .string (MS ++ X), .bool (decide (pr < 0))] W fun e w' => e = .returned (.string R) ∧ Below W.heap.size W w')) :
    Calls Tryz.prog 15 #[spv F wd pr 105 nx, .agg #[.int .i64 k, .int .i64 n, .string s]] w fun e w' => e = .returned (.string R) ∧ Below w.heap.size w w' := by
  have H0 : OneAt w w.heap.size (w.heap.size + 1) F wd pr 105 nx k n s ((w.alloc (.cells #[.string F, .int .i64 wd, .int .i64 pr, .int .u8 105, .int .i64 nx] 46)).alloc (.cells #[.int .i64 k, .int .i64 n, .string s] 50)) := by
    refine ⟨?_, ?_, ((Below.refl _ _).alloc (Nat.le_refl _) _).alloc (by simp) _⟩
    · refine ⟨?_, ?_, ?_, ?_, ?_⟩ <;> simp [go_sem]
    · refine ⟨?_, ?_, ?_⟩ <;> simp [go_sem]
  unfold spv at *
  rw [show (((105 : UInt8).toNat : Nat) : Int) = 105 from rfl] at *
  go_enter Tryz.func15, Tryz.ntmps15
  go_wp2_with fail
  generalize (w.alloc (.cells #[.string F, .int .i64 wd, .int .i64 pr, .int .u8 105, .int .i64 nx] 46)).alloc (.cells #[.int .i64 k, .int .i64 n, .string s] 50) = w1 at *
  refine (CN.out _).mono ?_
  rintro e w2 ⟨rfl, hb⟩
  have H := H0.keep hb
  clear hb H0
  obtain ⟨⟨s0, s1, s2, s3, s4⟩, ⟨c0, c1, c2⟩, hbl⟩ := id H
  replace s3 : w2.cell? ⟨w.heap.size, 3, none⟩ = some (.int .u8 105) := s3
  go_wp2_with fail
  refine (C32.out _).mono ?_
  rintro e w3 ⟨rfl, hb⟩
  have H := H.keep hb
  clear hb s0 s1 s2 s3 s4 c0 c1 c2 hbl
  obtain ⟨⟨s0, s1, s2, s3, s4⟩, ⟨c0, c1, c2⟩, hbl⟩ := id H
  replace s3 : w3.cell? ⟨w.heap.size, 3, none⟩ = some (.int .u8 105) := s3
  go_upto_if 17 with fail
  go_cut [6] (fun v6 wx => v6 = .string (sgB b32 false) ∧ wx = w3)
  case first =>
    cases b32
    all_goals
      go_wp2_with fail
      go_meet
      exact ⟨rfl, rfl⟩
  case rest =>
    obtain ⟨rfl, rfl⟩ := hcut
    go_wp2_with fail
    refine (C43.out _).mono ?_
    rintro e w4 ⟨rfl, hb⟩
    have H := H.keep hb
    clear hb s0 s1 s2 s3 s4 c0 c1 c2 hbl
    obtain ⟨⟨s0, s1, s2, s3, s4⟩, ⟨c0, c1, c2⟩, hbl⟩ := id H
    replace s3 : w4.cell? ⟨w.heap.size, 3, none⟩ = some (.int .u8 105) := s3
    go_upto_if 19 with fail
    go_cut [6] (fun v6 wx => v6 = .string (sgB b32 b43) ∧ wx = w4)
    case first =>
      cases b43
      all_goals
        go_wp2_with fail
        go_meet
        exact ⟨rfl, rfl⟩
    case rest =>
      obtain ⟨rfl, rfl⟩ := hcut
      clear CN C32 C43
      go_upto_if 30 with ((with_reducible refine (CZ.out _).mono ?_); rintro e w' ⟨rfl, rfl⟩)
      obtain ⟨a1, ha1⟩ : ∃ x, a / 1000000 = x := ⟨_, rfl⟩
      have e1 : (a : Int) / 1000000 = (a1 : Int) := by omega
      have ha1b : a1 ≤ 4611686018427 := by omega
      rw [ha1] at D1 hX
      clear ha1
      rw [e1]
      go_cut [6] (fun v6 wx => v6 = .string sg ∧ wx = wc)
      case first =>
        by_cases h : m ≤ -1000000
        · rw [if_pos h] at hsg
          subst hsg
          go_wp2_with ((with_reducible refine (CZ.out _).mono ?_); rintro e w' ⟨rfl, rfl⟩)
          go_meet
          exact ⟨rfl, rfl⟩
        · rw [if_neg h] at hsg
          subst hsg
          go_wp2_with ((with_reducible refine (CZ.out _).mono ?_); rintro e w' ⟨rfl, rfl⟩)
          go_meet
          exact ⟨rfl, rfl⟩
      case rest =>
        obtain ⟨rfl, rfl⟩ := hcut
        go_wp2_with fail
        refine (D1.out _).mono ?_
        rintro e w5 ⟨rfl, hb⟩
        have H := H.keep hb
        clear hb s0 s1 s2 s3 s4 c0 c1 c2 hbl
        obtain ⟨⟨s0, s1, s2, s3, s4⟩, ⟨c0, c1, c2⟩, hbl⟩ := id H
        replace s3 : w5.cell? ⟨w.heap.size, 3, none⟩ = some (.int .u8 105) := s3
        obtain ⟨zb, hzb⟩ : ∃ zb : Bool, zb = true ∧ pr = 0 ∧ a1 = 0 ∨ zb = false ∧ pr = 0 ∧ a1 ≠ 0 ∨ zb = false ∧ pr ≠ 0 := by
          by_cases hp : pr = 0
          · by_cases h0 : a1 = 0
            · exact ⟨true, .inl ⟨rfl, hp, h0⟩⟩
            · exact ⟨false, .inr (.inl ⟨rfl, hp, h0⟩)⟩
          · exact ⟨false, .inr (.inr ⟨rfl, hp⟩)⟩
        go_upto_region 17 with fail
        go_cut [44] (fun vz wx => vz = .bool zb ∧ wx = w5)
        case first =>
          rcases hzb with ⟨rfl, rfl, rfl⟩ | ⟨rfl, rfl, h0⟩ | ⟨rfl, hp⟩
          · go_wp2_with fail
            go_meet
            exact ⟨rfl, rfl⟩
          · have h0b : ((a1 : Int) == 0) = false := by rw [Bool.eq_false_iff]; simp; omega
            go_wp2_with fail
            go_meet
            exact ⟨rfl, rfl⟩
          · have hpb : (pr == 0) = false := by simpa using hp
            go_wp2_with fail
            go_meet
            exact ⟨rfl, rfl⟩
        case rest =>
        obtain ⟨rfl, rfl⟩ := hcut
        go_upto_if 44 with fail
        go_cut [8] (fun v8 wx => v8 = .string X ∧ wx = wc)
        case first =>
          rcases hzb with ⟨rfl, rfl, rfl⟩ | ⟨rfl, rfl, h0⟩ | ⟨rfl, hp⟩
          · rw [if_pos ⟨rfl, rfl⟩] at hX
            subst hX
            go_wp2_with fail
            go_meet
            exact ⟨rfl, rfl⟩
          · rw [if_neg (fun h => h0 h.2)] at hX
            subst hX
            go_wp2_with fail
            go_meet
            exact ⟨rfl, rfl⟩
          · rw [if_neg (fun h => hp h.1)] at hX
            subst hX
            go_wp2_with fail
            go_meet
            exact ⟨rfl, rfl⟩
        case rest =>
          obtain ⟨rfl, rfl⟩ := hcut
          have hq : wc.cell? ⟨w.heap.size, 0, none⟩ = some (.string F) ∧ wc.cell? ⟨w.heap.size, 1, none⟩ = some (.int .i64 wd) ∧ wc.cell? ⟨w.heap.size, 2, none⟩ = some (.int .i64 pr) ∧ wc.cell? ⟨w.heap.size, 3, none⟩ = some (.int .u8 105) ∧ wc.cell? ⟨w.heap.size, 4, none⟩ = some (.int .i64 nx) ∧ Below w.heap.size w wc := ⟨s0, s1, s2, s3, s4, hbl⟩
          clear H
          have hcc : ¬ (9223372036854775807 < MS.size + X.size) := by omega
          have hwr : IntKind.i64.wrap (pr - (X.size : Int)) = pr - (X.size : Int) := IntWalk.i64_in _ (by omega)
          go_upto_region 19 with fail
          go_region_held3 (fun w' => w'.cell? ⟨w.heap.size, 0, none⟩ = some (.string F) ∧ w'.cell? ⟨w.heap.size, 1, none⟩ = some (.int .i64 wd) ∧ w'.cell? ⟨w.heap.size, 2, none⟩ = some (.int .i64 pr) ∧ w'.cell? ⟨w.heap.size, 3, none⟩ = some (.int .u8 105) ∧ w'.cell? ⟨w.heap.size, 4, none⟩ = some (.int .i64 nx) ∧ Below w.heap.size w w') (first | assumption | exact odraw5 (by assumption) | go_keep) (first
            | ((with_reducible refine (CM.out _).mono ?_); rintro e w20 ⟨rfl, hb20⟩; have k8 := okeep5 (by assumption) hb20)
            | ((with_reducible refine (CW.out _).mono ?_); rintro e w20 ⟨rfl, hb20⟩; have k8 := okeep5 (by assumption) hb20))
          all_goals
            go_wp2_with fail
            go_ret
            first | exact ⟨rfl, obel5 (by assumption)⟩ | trace_state
set_option maxHeartbeats 8000000 in
set_option maxRecDepth 100000 in
theorem rone_x (F : ByteArray) (wd pr : Int) (nx k n : Int) (s : ByteArray) (b32 b43 : Bool) (m : Int) (R : ByteArray) (w : World) (a : Nat) (DS HS MS X sg : ByteArray)
    (_hF : F.size ≤ 100000) (_hpr : pr ≤ 1000) (_hpr0 : -1 ≤ pr)
    (CN : Hid (∀ W, Calls Tryz.prog 34 #[.agg #[.int .i64 k, .int .i64 n, .string s]] W fun e w' => e = .returned (.int .i64 m) ∧ Below W.heap.size W w'))
    (C32 : Hid (∀ W, Calls Tryz.prog 35 #[spv F wd pr 120 nx, .int .u8 32] W fun e w' => e = .returned (.bool b32) ∧ Below W.heap.size W w'))
    (C43 : Hid (∀ W, Calls Tryz.prog 35 #[spv F wd pr 120 nx, .int .u8 43] W fun e w' => e = .returned (.bool b43) ∧ Below W.heap.size W w'))
    (CZ : Hid (∀ W, Calls Tryz.prog 36 #[.int .i64 m] W fun e w' => e = .returned (.int .u64 (a : Int)) ∧ W = w'))
    (ha : a ≤ 4611686018427387903) (_hs2 : DS.size ≤ 20) (hsg : (if m ≤ -1000000 then ⟨#[45]⟩ else sgB b32 b43 : ByteArray) = sg) (hX : (if pr = 0 ∧ a / 1000000 = 0 then ⟨#[]⟩ else HS : ByteArray) = X) (hXs : X.size ≤ 20) (hms : MS.size ≤ 1000)
    (D1 : Hid (∀ W, Calls Tryz.prog 37 #[.int .u64 ((a / 1000000 : Nat) : Int)] W fun e w' => e = .returned (.string DS) ∧ Below W.heap.size W w'))
    (CX : Hid (∀ W, Calls Tryz.prog 38 #[.int .u64 ((a / 1000000 : Nat) : Int)] W fun e w' => e = .returned (.string HS) ∧ Below W.heap.size W w'))
    (CM : Hid (∀ W, Calls Tryz.prog 40 #[.int .u8 48, .int .i64 (pr - (X.size : Int))] W fun e w' => e = .returned (.string MS) ∧ Below W.heap.size W w'))
    (CW : Hid (∀ W, Calls Tryz.prog 39 #[spv F wd pr 120 nx, .string sg, .string (MS ++ X), .bool (decide (pr < 0))] W fun e w' => e = .returned (.string R) ∧ Below W.heap.size W w')) :
    Calls Tryz.prog 15 #[spv F wd pr 120 nx, .agg #[.int .i64 k, .int .i64 n, .string s]] w fun e w' => e = .returned (.string R) ∧ Below w.heap.size w w' := by
  have H0 : OneAt w w.heap.size (w.heap.size + 1) F wd pr 120 nx k n s ((w.alloc (.cells #[.string F, .int .i64 wd, .int .i64 pr, .int .u8 120, .int .i64 nx] 46)).alloc (.cells #[.int .i64 k, .int .i64 n, .string s] 50)) := by
    refine ⟨?_, ?_, ((Below.refl _ _).alloc (Nat.le_refl _) _).alloc (by simp) _⟩
    · refine ⟨?_, ?_, ?_, ?_, ?_⟩ <;> simp [go_sem]
    · refine ⟨?_, ?_, ?_⟩ <;> simp [go_sem]
  unfold spv at *
  rw [show (((120 : UInt8).toNat : Nat) : Int) = 120 from rfl] at *
  go_enter Tryz.func15, Tryz.ntmps15
  go_wp2_with fail
  generalize (w.alloc (.cells #[.string F, .int .i64 wd, .int .i64 pr, .int .u8 120, .int .i64 nx] 46)).alloc (.cells #[.int .i64 k, .int .i64 n, .string s] 50) = w1 at *
  refine (CN.out _).mono ?_
  rintro e w2 ⟨rfl, hb⟩
  have H := H0.keep hb
  clear hb H0
  obtain ⟨⟨s0, s1, s2, s3, s4⟩, ⟨c0, c1, c2⟩, hbl⟩ := id H
  replace s3 : w2.cell? ⟨w.heap.size, 3, none⟩ = some (.int .u8 120) := s3
  go_wp2_with fail
  refine (C32.out _).mono ?_
  rintro e w3 ⟨rfl, hb⟩
  have H := H.keep hb
  clear hb s0 s1 s2 s3 s4 c0 c1 c2 hbl
  obtain ⟨⟨s0, s1, s2, s3, s4⟩, ⟨c0, c1, c2⟩, hbl⟩ := id H
  replace s3 : w3.cell? ⟨w.heap.size, 3, none⟩ = some (.int .u8 120) := s3
  go_upto_if 17 with fail
  go_cut [6] (fun v6 wx => v6 = .string (sgB b32 false) ∧ wx = w3)
  case first =>
    cases b32
    all_goals
      go_wp2_with fail
      go_meet
      exact ⟨rfl, rfl⟩
  case rest =>
    obtain ⟨rfl, rfl⟩ := hcut
    go_wp2_with fail
    refine (C43.out _).mono ?_
    rintro e w4 ⟨rfl, hb⟩
    have H := H.keep hb
    clear hb s0 s1 s2 s3 s4 c0 c1 c2 hbl
    obtain ⟨⟨s0, s1, s2, s3, s4⟩, ⟨c0, c1, c2⟩, hbl⟩ := id H
    replace s3 : w4.cell? ⟨w.heap.size, 3, none⟩ = some (.int .u8 120) := s3
    go_upto_if 19 with fail
    go_cut [6] (fun v6 wx => v6 = .string (sgB b32 b43) ∧ wx = w4)
    case first =>
      cases b43
      all_goals
        go_wp2_with fail
        go_meet
        exact ⟨rfl, rfl⟩
    case rest =>
      obtain ⟨rfl, rfl⟩ := hcut
      clear CN C32 C43
      go_upto_if 30 with ((with_reducible refine (CZ.out _).mono ?_); rintro e w' ⟨rfl, rfl⟩)
      obtain ⟨a1, ha1⟩ : ∃ x, a / 1000000 = x := ⟨_, rfl⟩
      have e1 : (a : Int) / 1000000 = (a1 : Int) := by omega
      have ha1b : a1 ≤ 4611686018427 := by omega
      rw [ha1] at D1 hX CX
      clear ha1
      rw [e1]
      go_cut [6] (fun v6 wx => v6 = .string sg ∧ wx = wc)
      case first =>
        by_cases h : m ≤ -1000000
        · rw [if_pos h] at hsg
          subst hsg
          go_wp2_with ((with_reducible refine (CZ.out _).mono ?_); rintro e w' ⟨rfl, rfl⟩)
          go_meet
          exact ⟨rfl, rfl⟩
        · rw [if_neg h] at hsg
          subst hsg
          go_wp2_with ((with_reducible refine (CZ.out _).mono ?_); rintro e w' ⟨rfl, rfl⟩)
          go_meet
          exact ⟨rfl, rfl⟩
      case rest =>
        obtain ⟨rfl, rfl⟩ := hcut
        go_wp2_with fail
        refine (D1.out _).mono ?_
        rintro e w5 ⟨rfl, hb⟩
        have H := H.keep hb
        clear hb s0 s1 s2 s3 s4 c0 c1 c2 hbl
        obtain ⟨⟨s0, s1, s2, s3, s4⟩, ⟨c0, c1, c2⟩, hbl⟩ := id H
        replace s3 : w5.cell? ⟨w.heap.size, 3, none⟩ = some (.int .u8 120) := s3
        go_wp2_with fail
        refine (CX.out _).mono ?_
        rintro e w6 ⟨rfl, hb⟩
        have H := H.keep hb
        clear hb s0 s1 s2 s3 s4 c0 c1 c2 hbl
        obtain ⟨⟨s0, s1, s2, s3, s4⟩, ⟨c0, c1, c2⟩, hbl⟩ := id H
        replace s3 : w6.cell? ⟨w.heap.size, 3, none⟩ = some (.int .u8 120) := s3
        obtain ⟨zb, hzb⟩ : ∃ zb : Bool, zb = true ∧ pr = 0 ∧ a1 = 0 ∨ zb = false ∧ pr = 0 ∧ a1 ≠ 0 ∨ zb = false ∧ pr ≠ 0 := by
          by_cases hp : pr = 0
          · by_cases h0 : a1 = 0
            · exact ⟨true, .inl ⟨rfl, hp, h0⟩⟩
            · exact ⟨false, .inr (.inl ⟨rfl, hp, h0⟩)⟩
          · exact ⟨false, .inr (.inr ⟨rfl, hp⟩)⟩
        go_upto_region 17 with fail
        go_cut [44] (fun vz wx => vz = .bool zb ∧ wx = w6)
        case first =>
          rcases hzb with ⟨rfl, rfl, rfl⟩ | ⟨rfl, rfl, h0⟩ | ⟨rfl, hp⟩
          · go_wp2_with fail
            go_meet
            exact ⟨rfl, rfl⟩
          · have h0b : ((a1 : Int) == 0) = false := by rw [Bool.eq_false_iff]; simp; omega
            go_wp2_with fail
            go_meet
            exact ⟨rfl, rfl⟩
          · have hpb : (pr == 0) = false := by simpa using hp
            go_wp2_with fail
            go_meet
            exact ⟨rfl, rfl⟩
        case rest =>
        obtain ⟨rfl, rfl⟩ := hcut
        go_upto_if 44 with fail
        go_cut [8] (fun v8 wx => v8 = .string X ∧ wx = wc)
        case first =>
          rcases hzb with ⟨rfl, rfl, rfl⟩ | ⟨rfl, rfl, h0⟩ | ⟨rfl, hp⟩
          · rw [if_pos ⟨rfl, rfl⟩] at hX
            subst hX
            go_wp2_with fail
            go_meet
            exact ⟨rfl, rfl⟩
          · rw [if_neg (fun h => h0 h.2)] at hX
            subst hX
            go_wp2_with fail
            go_meet
            exact ⟨rfl, rfl⟩
          · rw [if_neg (fun h => hp h.1)] at hX
            subst hX
            go_wp2_with fail
            go_meet
            exact ⟨rfl, rfl⟩
        case rest =>
          obtain ⟨rfl, rfl⟩ := hcut
          have hq : wc.cell? ⟨w.heap.size, 0, none⟩ = some (.string F) ∧ wc.cell? ⟨w.heap.size, 1, none⟩ = some (.int .i64 wd) ∧ wc.cell? ⟨w.heap.size, 2, none⟩ = some (.int .i64 pr) ∧ wc.cell? ⟨w.heap.size, 3, none⟩ = some (.int .u8 120) ∧ wc.cell? ⟨w.heap.size, 4, none⟩ = some (.int .i64 nx) ∧ Below w.heap.size w wc := ⟨s0, s1, s2, s3, s4, hbl⟩
          clear H
          have hcc : ¬ (9223372036854775807 < MS.size + X.size) := by omega
          have hwr : IntKind.i64.wrap (pr - (X.size : Int)) = pr - (X.size : Int) := IntWalk.i64_in _ (by omega)
          go_upto_region 19 with fail
          go_region_held3 (fun w' => w'.cell? ⟨w.heap.size, 0, none⟩ = some (.string F) ∧ w'.cell? ⟨w.heap.size, 1, none⟩ = some (.int .i64 wd) ∧ w'.cell? ⟨w.heap.size, 2, none⟩ = some (.int .i64 pr) ∧ w'.cell? ⟨w.heap.size, 3, none⟩ = some (.int .u8 120) ∧ w'.cell? ⟨w.heap.size, 4, none⟩ = some (.int .i64 nx) ∧ Below w.heap.size w w') (first | assumption | exact odraw5 (by assumption) | go_keep) (first
            | ((with_reducible refine (CM.out _).mono ?_); rintro e w20 ⟨rfl, hb20⟩; have k8 := okeep5 (by assumption) hb20)
            | ((with_reducible refine (CW.out _).mono ?_); rintro e w20 ⟨rfl, hb20⟩; have k8 := okeep5 (by assumption) hb20))
          all_goals
            go_wp2_with fail
            go_ret
            first | exact ⟨rfl, obel5 (by assumption)⟩ | trace_state
end Go.Proofs.YtipcanbeegladaaGreatDoor
