/-
  THE WALK of the law LexLines: whatever the two texts, it returns true and writes to nothing that was there.
-/
import Derived.Test.YtfmjajmdkndknaaLxBlanksW
namespace Go.Proofs.Ytfmjajmdkndknaa
open Go.RowKit

theorem lines_row {rx ry : List Tok} {n m N : Nat} (hN : N = n + 1 + m) : rx ++ ⟨1, [], n⟩ :: ry.map (Tok.by (n + 1)) ++ [endT N] = rx ++ ⟨1, [], n⟩ :: (ry ++ [endT m]).map (Tok.by (n + 1)) := by
  subst hN
  simp [endT, Tok.by]
  omega
theorem TAt.nl {w : World} {g n : Nat} {rx L : List Tok} (h : TAt w g (rx ++ ⟨1, [], n⟩ :: L)) : w.cell? ⟨g, rx.length * 3, none⟩ = some (.int .i64 1) := by
  have hk : rx.length < (rx ++ (⟨1, [], n⟩ : Tok) :: L).length := by simp
  rw [h.k _ hk]; simp
theorem TAt.by {w : World} {g n d : Nat} {rx L : List Tok} (h : TAt w g (rx ++ ⟨1, [], n⟩ :: L.map (Tok.by d))) (i : Nat) (hi : i < L.length) :
    w.cell? ⟨g, (rx.length + 1 + i) * 3, none⟩ = some (.int .i64 L[i].k) ∧ w.cell? ⟨g, (rx.length + 1 + i) * 3 + 1, none⟩ = some (.string ⟨L[i].t.toArray⟩) ∧ w.cell? ⟨g, (rx.length + 1 + i) * 3 + 2, none⟩ = some (.int .i64 ((L[i].a : Int) + (d : Int))) := by
  have hk : rx.length + 1 + i < (rx ++ (⟨1, [], n⟩ : Tok) :: L.map (Tok.by d)).length := by simp; omega
  have e : (rx ++ (⟨1, [], n⟩ : Tok) :: L.map (Tok.by d))[rx.length + 1 + i]'hk = Tok.by d L[i] := by
    rw [List.getElem_append_right (by omega)]
    simp only [show rx.length + 1 + i - rx.length = i + 1 from by omega, List.getElem_cons_succ, List.getElem_map]
  refine ⟨?_, ?_, ?_⟩
  · rw [h.k _ hk, e]; rfl
  · rw [h.t _ hk, e]; rfl
  · rw [h.a _ hk, e]; rfl
theorem TAt.alloc {w : World} {g : Nat} {l : List Tok} (h : TAt w g l) (o : Obj) : TAt (w.alloc o) g l := h.below ((Below.refl w.heap.size w).alloc (Nat.le_refl _) o) (Nat.le_refl _)
theorem wrap_last {x : ByteArray} {n : Nat} (hn : x.size = n + 1) (hs : x.size ≤ 100000) : wrap64 ((x.size : Int) - 1) = (n : Int) := by
  unfold wrap64
  omega
set_option maxHeartbeats 1000000 in
theorem lines_92 (a b x y : ByteArray) (n : Nat) (w : World) (C1 : Hid (∀ W, Calls Try.prog 10 #[.string a, .int .i64 200] W fun e w' => e = .returned (.string x) ∧ W = w')) (C2 : Hid (∀ W, Calls Try.prog 10 #[.string b, .int .i64 200] W fun e w' => e = .returned (.string y) ∧ W = w'))
    (hw : wrap64 ((x.size : Int) - 1) = (n : Int)) (hn : n < x.size) (h1 : (x[n].toNat : Int) = 92) :
    Calls Try.prog 5 #[.string a, .string b] w fun e w' => e = .returned (.bool true) ∧ Below w.heap.size w w' := by
  have AW := Lib.hid fun W => awake_any W
  have b1 : decide ((0 : Int) < (x.size : Int)) = true := decide_eq_true (by omega)
  go_enter Try.func5, Try.ntmps5
  go_wp2_with fail
  refine (C1.out _).mono ?_
  rintro e w1 ⟨rfl, rfl⟩
  go_wp2_with fail
  refine (C2.out _).mono ?_
  rintro e w1 ⟨rfl, rfl⟩
  go_wp2_with fail
  refine (AW.out _).mono ?_
  rintro e w4 ⟨rfl, hb4⟩
  go_wp2_with fail
  go_ret
  exact ⟨rfl, hb4⟩
set_option maxHeartbeats 1000000 in
theorem lines_e_ee (a b x y : ByteArray) (w : World) (C1 : Hid (∀ W, Calls Try.prog 10 #[.string a, .int .i64 200] W fun e w' => e = .returned (.string x) ∧ W = w')) (C2 : Hid (∀ W, Calls Try.prog 10 #[.string b, .int .i64 200] W fun e w' => e = .returned (.string y) ∧ W = w'))
    (hz : x.size = 0) (px : Nat) (py : Nat) (C3 : Hid (∀ W, Calls Try.prog 11 #[.string x] W fun e w' => e = .returned (.tuple #[.slice none 0 0, .int .i64 (px : Int), .int .i64 9]) ∧ Below W.heap.size W w')) (C4 : Hid (∀ W, Calls Try.prog 11 #[.string y] W fun e w' => e = .returned (.tuple #[.slice none 0 0, .int .i64 (py : Int), .int .i64 9]) ∧ Below W.heap.size W w')) :
    Calls Try.prog 5 #[.string a, .string b] w fun e w' => e = .returned (.bool true) ∧ Below w.heap.size w w' := by
  have AW := Lib.hid fun W => awake_any W
  have b1 : decide ((0 : Int) < (x.size : Int)) = false := decide_eq_false (by omega)
  go_enter Try.func5, Try.ntmps5
  go_wp2_with fail
  refine (C1.out _).mono ?_
  rintro e w1 ⟨rfl, rfl⟩
  go_wp2_with fail
  refine (C2.out _).mono ?_
  rintro e w1 ⟨rfl, rfl⟩
  go_wp2_with fail
  refine (C3.out _).mono ?_
  rintro e w2 ⟨rfl, hb2⟩
  have HB2 := Lib.hid (hb2)
  clear hb2
  go_wp2_with fail
  refine (C4.out _).mono ?_
  rintro e w3 ⟨rfl, hb3⟩
  have HB3 := Lib.hid (HB2.out.trans (hb3.mono HB2.out.size))
  clear hb3
  go_wp2_with fail
  refine (AW.out _).mono ?_
  rintro e w4 ⟨rfl, hb4⟩
  have HB4 := Lib.hid (HB3.out.trans (hb4.mono HB3.out.size))
  clear hb4 HB3
  go_wp2_with fail
  go_ret
  exact ⟨rfl, HB4.out⟩
set_option maxHeartbeats 1000000 in
theorem lines_e_eo (a b x y : ByteArray) (w : World) (C1 : Hid (∀ W, Calls Try.prog 10 #[.string a, .int .i64 200] W fun e w' => e = .returned (.string x) ∧ W = w')) (C2 : Hid (∀ W, Calls Try.prog 10 #[.string b, .int .i64 200] W fun e w' => e = .returned (.string y) ∧ W = w'))
    (hz : x.size = 0) (px : Nat) (ry : List Tok) (C3 : Hid (∀ W, Calls Try.prog 11 #[.string x] W fun e w' => e = .returned (.tuple #[.slice none 0 0, .int .i64 (px : Int), .int .i64 9]) ∧ Below W.heap.size W w')) (C4 : Hid (∀ W, Calls Try.prog 11 #[.string y] W (OkPost ry y.size W))) :
    Calls Try.prog 5 #[.string a, .string b] w fun e w' => e = .returned (.bool true) ∧ Below w.heap.size w w' := by
  have AW := Lib.hid fun W => awake_any W
  have b1 : decide ((0 : Int) < (x.size : Int)) = false := decide_eq_false (by omega)
  go_enter Try.func5, Try.ntmps5
  go_wp2_with fail
  refine (C1.out _).mono ?_
  rintro e w1 ⟨rfl, rfl⟩
  go_wp2_with fail
  refine (C2.out _).mono ?_
  rintro e w1 ⟨rfl, rfl⟩
  go_wp2_with fail
  refine (C3.out _).mono ?_
  rintro e w2 ⟨rfl, hb2⟩
  have HB2 := Lib.hid (hb2)
  clear hb2
  go_wp2_with fail
  refine (C4.out _).mono ?_
  rintro e w3 ⟨g3, c3, rfl, -, hb3⟩
  have HB3 := Lib.hid (HB2.out.trans (hb3.mono HB2.out.size))
  clear hb3
  go_wp2_with fail
  refine (AW.out _).mono ?_
  rintro e w4 ⟨rfl, hb4⟩
  have HB4 := Lib.hid (HB3.out.trans (hb4.mono HB3.out.size))
  clear hb4 HB3
  go_wp2_with fail
  go_ret
  exact ⟨rfl, HB4.out⟩
set_option maxHeartbeats 1000000 in
theorem lines_e_oe (a b x y : ByteArray) (w : World) (C1 : Hid (∀ W, Calls Try.prog 10 #[.string a, .int .i64 200] W fun e w' => e = .returned (.string x) ∧ W = w')) (C2 : Hid (∀ W, Calls Try.prog 10 #[.string b, .int .i64 200] W fun e w' => e = .returned (.string y) ∧ W = w'))
    (hz : x.size = 0) (rx : List Tok) (py : Nat) (C3 : Hid (∀ W, Calls Try.prog 11 #[.string x] W (OkPost rx x.size W))) (C4 : Hid (∀ W, Calls Try.prog 11 #[.string y] W fun e w' => e = .returned (.tuple #[.slice none 0 0, .int .i64 (py : Int), .int .i64 9]) ∧ Below W.heap.size W w')) :
    Calls Try.prog 5 #[.string a, .string b] w fun e w' => e = .returned (.bool true) ∧ Below w.heap.size w w' := by
  have AW := Lib.hid fun W => awake_any W
  have b1 : decide ((0 : Int) < (x.size : Int)) = false := decide_eq_false (by omega)
  go_enter Try.func5, Try.ntmps5
  go_wp2_with fail
  refine (C1.out _).mono ?_
  rintro e w1 ⟨rfl, rfl⟩
  go_wp2_with fail
  refine (C2.out _).mono ?_
  rintro e w1 ⟨rfl, rfl⟩
  go_wp2_with fail
  refine (C3.out _).mono ?_
  rintro e w2 ⟨g2, c2, rfl, -, hb2⟩
  have HB2 := Lib.hid (hb2)
  clear hb2
  go_wp2_with fail
  refine (C4.out _).mono ?_
  rintro e w3 ⟨rfl, hb3⟩
  have HB3 := Lib.hid (HB2.out.trans (hb3.mono HB2.out.size))
  clear hb3
  go_wp2_with fail
  refine (AW.out _).mono ?_
  rintro e w4 ⟨rfl, hb4⟩
  have HB4 := Lib.hid (HB3.out.trans (hb4.mono HB3.out.size))
  clear hb4 HB3
  go_wp2_with fail
  go_ret
  exact ⟨rfl, HB4.out⟩
set_option maxHeartbeats 4000000 in
set_option maxRecDepth 100000 in
theorem lines_e_oo (a b x y : ByteArray) (w : World) (C1 : Hid (∀ W, Calls Try.prog 10 #[.string a, .int .i64 200] W fun e w' => e = .returned (.string x) ∧ W = w')) (C2 : Hid (∀ W, Calls Try.prog 10 #[.string b, .int .i64 200] W fun e w' => e = .returned (.string y) ∧ W = w'))
    (hz : x.size = 0) (rx ry : List Tok) (N : Nat) (hN : N = x.size + 1 + y.size) (C3 : Hid (∀ W, Calls Try.prog 11 #[.string x] W (OkPost rx x.size W))) (C4 : Hid (∀ W, Calls Try.prog 11 #[.string y] W (OkPost ry y.size W))) (hxs : x.size ≤ 200) (hys : y.size ≤ 200) (hrx : rx.length ≤ x.size) (hry : ry.length ≤ y.size) (hpl : Hid (∀ j (h : j < (ry ++ [endT y.size]).length), ((ry ++ [endT y.size])[j]'h).a ≤ 200))
    (C5 : Hid (∀ W, Calls Try.prog 11 #[.string (x ++ ⟨#[10]⟩ ++ y)] W (OkPost (rx ++ ⟨1, [], x.size⟩ :: ry.map (Tok.by (x.size + 1))) N W))) :
    Calls Try.prog 5 #[.string a, .string b] w fun e w' => e = .returned (.bool true) ∧ Below w.heap.size w w' := by
  have bl1 : ((rx.length : Int) + 1 == 0) = false := by simp; omega
  have bl2 : ((ry.length : Int) + 1 == 0) = false := by simp; omega
  have hlen : (rx ++ ⟨1, [], x.size⟩ :: ry.map (Tok.by (x.size + 1))).length = rx.length + ry.length + 1 := by simp; omega
  have AW := Lib.hid fun W => awake_any W
  have b1 : decide ((0 : Int) < (x.size : Int)) = false := decide_eq_false (by omega)
  go_enter Try.func5, Try.ntmps5
  go_wp2_with fail
  refine (C1.out _).mono ?_
  rintro e w1 ⟨rfl, rfl⟩
  go_wp2_with fail
  refine (C2.out _).mono ?_
  rintro e w1 ⟨rfl, rfl⟩
  go_wp2_with fail
  refine (C3.out _).mono ?_
  rintro e w2 ⟨g2, c2, rfl, t2, hb2⟩
  have HT2 := Lib.hid t2
  have HB2 := Lib.hid hb2
  clear t2 hb2
  go_wp2_with fail
  refine (C4.out _).mono ?_
  rintro e w3 ⟨g3, c3, rfl, t3, hb3⟩
  have HT3 := Lib.hid (And.intro (HT2.out.below hb3 (Nat.le_refl _)) t3)
  have HB3 := Lib.hid (HB2.out.trans (hb3.mono HB2.out.size))
  clear t3 hb3 HT2 HB2
  go_wp2_with fail
  refine (C5.out _).mono ?_
  rintro e w4 ⟨g4, c4, rfl, t4, hb4⟩
  rw [hlen]
  have HI := Lib.hid (And.intro (HT3.out.1.below hb4 (Nat.le_refl _)) (And.intro (HT3.out.2.below hb4 (Nat.le_refl _)) (And.intro t4 (HB3.out.trans (hb4.mono HB3.out.size)))))
  clear t4 hb4 HT3 HB3
  go_wp2_with fail
  have HJ := HI.out
  rw [lines_row hN] at HJ
  have HI2 := Lib.hid HJ
  clear HJ HI C5 hlen
  go_loopw [14] (fun iv wx => ∃ k : Nat, k ≤ rx.length ∧ iv = .int .i64 k ∧ Hid (TAt wx g2 (rx ++ [endT x.size]) ∧ TAt wx g3 (ry ++ [endT y.size]) ∧ TAt wx g4 (rx ++ ⟨1, [], x.size⟩ :: (ry ++ [endT y.size]).map (Tok.by (x.size + 1))) ∧ Below w.heap.size w wx)) (fun iv _ => rx.length - (intOf iv).toNat)
  case atStart => exact ⟨0, Nat.zero_le _, by first | rfl | trivial, HI2⟩
  case round =>
    obtain ⟨i, hi, rfl, HX⟩ := hrel
    by_cases hil : i < rx.length
    · obtain ⟨d0, d1, d2⟩ := HX.out.1.tok i hil
      obtain ⟨e0, e1, e2⟩ := HX.out.2.2.1.tok i hil
      generalize (rx[i].k : Int) = kk at *
      generalize (rx[i].a : Int) = aa at *
      generalize (⟨rx[i].t.toArray⟩ : ByteArray) = tt at *
      go_wp2_with fail
      go_quiet (fail)
      go_wp2_with fail
      go_roundw
      case rel => exact ⟨i + 1, by omega, by go_num, Lib.hid ⟨HX.out.1.drewN _, HX.out.2.1.drewN _, HX.out.2.2.1.drewN _, HX.out.2.2.2.trans ⟨rfl, rfl, rfl, Nat.le_refl _, fun _ _ => rfl⟩⟩⟩
      case measure => simp [intOf]; omega
    · obtain rfl : i = rx.length := by omega
      have HI3 := Lib.hid HX.out
      clear HX HI2
      go_wp2_with fail
      go_loopw [101] (fun iv wx => ∃ k : Nat, k ≤ ry.length + 1 ∧ iv = .int .i64 k ∧ Hid (TAt wx g2 (rx ++ [endT x.size]) ∧ TAt wx g3 (ry ++ [endT y.size]) ∧ TAt wx g4 (rx ++ ⟨1, [], x.size⟩ :: (ry ++ [endT y.size]).map (Tok.by (x.size + 1))) ∧ Below w.heap.size w wx)) (fun iv _ => ry.length + 1 - (intOf iv).toNat)
      case atStart => exact ⟨0, Nat.zero_le _, by first | rfl | trivial, HI3⟩
      case round =>
        obtain ⟨j, hj, rfl, HX⟩ := hrel
        by_cases hjl : j < ry.length + 1
        · have hjl' : j < (ry ++ [endT y.size]).length := by simp; omega
          obtain ⟨d0, d1, d2⟩ := HX.out.2.2.1.by j hjl'
          have e0 := HX.out.2.1.k j hjl'
          have e1 := HX.out.2.1.t j hjl'
          have e2 := HX.out.2.1.a j hjl'
          have haa := hpl.out j hjl'
          have hai : (((ry ++ [endT y.size])[j]'hjl').a : Int) ≤ 200 ∧ 0 ≤ (((ry ++ [endT y.size])[j]'hjl').a : Int) := by omega
          clear haa
          rw [show ((((ry ++ [endT y.size])[j]'hjl').a : Int) + ((x.size + 1 : Nat) : Int)) = (((ry ++ [endT y.size])[j]'hjl').a : Int) + (x.size : Int) + 1 from by omega] at d2
          generalize (((ry ++ [endT y.size])[j]'hjl').k : Int) = kk at *
          generalize (((ry ++ [endT y.size])[j]'hjl').a : Int) = aa at *
          generalize (⟨((ry ++ [endT y.size])[j]'hjl').t.toArray⟩ : ByteArray) = tt at *
          have lt3 := HX.out.2.1.lt
          have lt4 := HX.out.2.2.1.lt
          have q1 : (j : Int) < (ry.length : Int) + 1 := by omega
          have q2 : (rx.length : Int) + 1 + (j : Int) < (rx.length : Int) + (ry.length : Int) + 1 + 1 := by omega
          have w1 : IntKind.i64.wrap aa = aa := by rw [IntKind.wrap_i64]; omega
          have w2 : IntKind.i64.wrap (aa + 1) = aa + 1 := by rw [IntKind.wrap_i64]; omega
          have HT5 := Lib.hid (And.intro (HX.out.1.alloc (.cells #[.int .i64 kk, .string tt, .int .i64 (aa + 1)] 36)) (And.intro (HX.out.2.1.alloc (.cells #[.int .i64 kk, .string tt, .int .i64 (aa + 1)] 36)) (And.intro (HX.out.2.2.1.alloc (.cells #[.int .i64 kk, .string tt, .int .i64 (aa + 1)] 36)) (HX.out.2.2.2.alloc HX.out.2.2.2.size (.cells #[.int .i64 kk, .string tt, .int .i64 (aa + 1)] 36)))))
          have hall : ∀ o, (wr.alloc (.cells #[.int .i64 kk, .string tt, .int .i64 (aa + 1)] 36)).cell? ⟨g3, o, none⟩ = wr.cell? ⟨g3, o, none⟩ := fun o => ((Below.refl wr.heap.size wr).alloc (Nat.le_refl _) _).cell (p := ⟨g3, o, none⟩) lt3
          have n0 := (hall _).trans e0
          have n1 := (hall _).trans e1
          have n2 := (hall _).trans e2
          have m0 : (wr.alloc (.cells #[.int .i64 kk, .string tt, .int .i64 (aa + 1)] 36)).cell? ⟨wr.heap.size, 0, none⟩ = some (.int .i64 kk) := by simp [go_sem]
          have m1 : (wr.alloc (.cells #[.int .i64 kk, .string tt, .int .i64 (aa + 1)] 36)).cell? ⟨wr.heap.size, 1, none⟩ = some (.string tt) := by simp [go_sem]
          have m2 : (wr.alloc (.cells #[.int .i64 kk, .string tt, .int .i64 (aa + 1)] 36)).cell? ⟨wr.heap.size, 2, none⟩ = some (.int .i64 (aa + 1)) := by simp [go_sem]
          clear hall HX e0 e1 e2
          go_wp2_with fail
          clear d0 d1 d2
          generalize wr.alloc (.cells #[.int .i64 kk, .string tt, .int .i64 (aa + 1)] 36) = W6 at *
          go_quiet (fail)
          go_wp2_with fail
          go_roundw
          case rel => exact ⟨j + 1, by omega, by go_num, Lib.hid ⟨HT5.out.1.drewN _, HT5.out.2.1.drewN _, HT5.out.2.2.1.drewN _, HT5.out.2.2.2.trans ⟨rfl, rfl, rfl, Nat.le_refl _, fun _ _ => rfl⟩⟩⟩
          case measure => simp [intOf]; omega
        · obtain rfl : j = ry.length + 1 := by omega
          have z0 := HX.out.2.2.1.nl
          have lt4 := HX.out.2.2.1.lt
          have HB := Lib.hid HX.out.2.2.2
          clear HX HI3
          go_wp2_with fail
          refine (AW.out _).mono ?_
          rintro e w9 ⟨rfl, hb9⟩
          have z9 := (hb9.cell (p := ⟨g4, rx.length * 3, none⟩) lt4).trans z0
          have HB9 := Lib.hid (HB.out.trans (hb9.mono HB.out.size))
          clear hb9 HB z0
          go_wp2_with fail
          go_ret
          exact ⟨by simp, HB9.out⟩
set_option maxHeartbeats 1000000 in
theorem lines_n_ee (a b x y : ByteArray) (w : World) (C1 : Hid (∀ W, Calls Try.prog 10 #[.string a, .int .i64 200] W fun e w' => e = .returned (.string x) ∧ W = w')) (C2 : Hid (∀ W, Calls Try.prog 10 #[.string b, .int .i64 200] W fun e w' => e = .returned (.string y) ∧ W = w'))
    (n : Nat) (hw : wrap64 ((x.size : Int) - 1) = (n : Int)) (hn : n < x.size) (h1 : ((x[n].toNat : Int) == 92) = false) (px : Nat) (py : Nat) (C3 : Hid (∀ W, Calls Try.prog 11 #[.string x] W fun e w' => e = .returned (.tuple #[.slice none 0 0, .int .i64 (px : Int), .int .i64 9]) ∧ Below W.heap.size W w')) (C4 : Hid (∀ W, Calls Try.prog 11 #[.string y] W fun e w' => e = .returned (.tuple #[.slice none 0 0, .int .i64 (py : Int), .int .i64 9]) ∧ Below W.heap.size W w')) :
    Calls Try.prog 5 #[.string a, .string b] w fun e w' => e = .returned (.bool true) ∧ Below w.heap.size w w' := by
  have AW := Lib.hid fun W => awake_any W
  have b1 : decide ((0 : Int) < (x.size : Int)) = true := decide_eq_true (by omega)
  go_enter Try.func5, Try.ntmps5
  go_wp2_with fail
  refine (C1.out _).mono ?_
  rintro e w1 ⟨rfl, rfl⟩
  go_wp2_with fail
  refine (C2.out _).mono ?_
  rintro e w1 ⟨rfl, rfl⟩
  go_wp2_with fail
  refine (C3.out _).mono ?_
  rintro e w2 ⟨rfl, hb2⟩
  have HB2 := Lib.hid (hb2)
  clear hb2
  go_wp2_with fail
  refine (C4.out _).mono ?_
  rintro e w3 ⟨rfl, hb3⟩
  have HB3 := Lib.hid (HB2.out.trans (hb3.mono HB2.out.size))
  clear hb3
  go_wp2_with fail
  refine (AW.out _).mono ?_
  rintro e w4 ⟨rfl, hb4⟩
  have HB4 := Lib.hid (HB3.out.trans (hb4.mono HB3.out.size))
  clear hb4 HB3
  go_wp2_with fail
  go_ret
  exact ⟨rfl, HB4.out⟩
set_option maxHeartbeats 1000000 in
theorem lines_n_eo (a b x y : ByteArray) (w : World) (C1 : Hid (∀ W, Calls Try.prog 10 #[.string a, .int .i64 200] W fun e w' => e = .returned (.string x) ∧ W = w')) (C2 : Hid (∀ W, Calls Try.prog 10 #[.string b, .int .i64 200] W fun e w' => e = .returned (.string y) ∧ W = w'))
    (n : Nat) (hw : wrap64 ((x.size : Int) - 1) = (n : Int)) (hn : n < x.size) (h1 : ((x[n].toNat : Int) == 92) = false) (px : Nat) (ry : List Tok) (C3 : Hid (∀ W, Calls Try.prog 11 #[.string x] W fun e w' => e = .returned (.tuple #[.slice none 0 0, .int .i64 (px : Int), .int .i64 9]) ∧ Below W.heap.size W w')) (C4 : Hid (∀ W, Calls Try.prog 11 #[.string y] W (OkPost ry y.size W))) :
    Calls Try.prog 5 #[.string a, .string b] w fun e w' => e = .returned (.bool true) ∧ Below w.heap.size w w' := by
  have AW := Lib.hid fun W => awake_any W
  have b1 : decide ((0 : Int) < (x.size : Int)) = true := decide_eq_true (by omega)
  go_enter Try.func5, Try.ntmps5
  go_wp2_with fail
  refine (C1.out _).mono ?_
  rintro e w1 ⟨rfl, rfl⟩
  go_wp2_with fail
  refine (C2.out _).mono ?_
  rintro e w1 ⟨rfl, rfl⟩
  go_wp2_with fail
  refine (C3.out _).mono ?_
  rintro e w2 ⟨rfl, hb2⟩
  have HB2 := Lib.hid (hb2)
  clear hb2
  go_wp2_with fail
  refine (C4.out _).mono ?_
  rintro e w3 ⟨g3, c3, rfl, -, hb3⟩
  have HB3 := Lib.hid (HB2.out.trans (hb3.mono HB2.out.size))
  clear hb3
  go_wp2_with fail
  refine (AW.out _).mono ?_
  rintro e w4 ⟨rfl, hb4⟩
  have HB4 := Lib.hid (HB3.out.trans (hb4.mono HB3.out.size))
  clear hb4 HB3
  go_wp2_with fail
  go_ret
  exact ⟨rfl, HB4.out⟩
set_option maxHeartbeats 1000000 in
theorem lines_n_oe (a b x y : ByteArray) (w : World) (C1 : Hid (∀ W, Calls Try.prog 10 #[.string a, .int .i64 200] W fun e w' => e = .returned (.string x) ∧ W = w')) (C2 : Hid (∀ W, Calls Try.prog 10 #[.string b, .int .i64 200] W fun e w' => e = .returned (.string y) ∧ W = w'))
    (n : Nat) (hw : wrap64 ((x.size : Int) - 1) = (n : Int)) (hn : n < x.size) (h1 : ((x[n].toNat : Int) == 92) = false) (rx : List Tok) (py : Nat) (C3 : Hid (∀ W, Calls Try.prog 11 #[.string x] W (OkPost rx x.size W))) (C4 : Hid (∀ W, Calls Try.prog 11 #[.string y] W fun e w' => e = .returned (.tuple #[.slice none 0 0, .int .i64 (py : Int), .int .i64 9]) ∧ Below W.heap.size W w')) :
    Calls Try.prog 5 #[.string a, .string b] w fun e w' => e = .returned (.bool true) ∧ Below w.heap.size w w' := by
  have AW := Lib.hid fun W => awake_any W
  have b1 : decide ((0 : Int) < (x.size : Int)) = true := decide_eq_true (by omega)
  go_enter Try.func5, Try.ntmps5
  go_wp2_with fail
  refine (C1.out _).mono ?_
  rintro e w1 ⟨rfl, rfl⟩
  go_wp2_with fail
  refine (C2.out _).mono ?_
  rintro e w1 ⟨rfl, rfl⟩
  go_wp2_with fail
  refine (C3.out _).mono ?_
  rintro e w2 ⟨g2, c2, rfl, -, hb2⟩
  have HB2 := Lib.hid (hb2)
  clear hb2
  go_wp2_with fail
  refine (C4.out _).mono ?_
  rintro e w3 ⟨rfl, hb3⟩
  have HB3 := Lib.hid (HB2.out.trans (hb3.mono HB2.out.size))
  clear hb3
  go_wp2_with fail
  refine (AW.out _).mono ?_
  rintro e w4 ⟨rfl, hb4⟩
  have HB4 := Lib.hid (HB3.out.trans (hb4.mono HB3.out.size))
  clear hb4 HB3
  go_wp2_with fail
  go_ret
  exact ⟨rfl, HB4.out⟩
set_option maxHeartbeats 4000000 in
set_option maxRecDepth 100000 in
theorem lines_n_oo (a b x y : ByteArray) (w : World) (C1 : Hid (∀ W, Calls Try.prog 10 #[.string a, .int .i64 200] W fun e w' => e = .returned (.string x) ∧ W = w')) (C2 : Hid (∀ W, Calls Try.prog 10 #[.string b, .int .i64 200] W fun e w' => e = .returned (.string y) ∧ W = w'))
    (hn : 0 < x.size) (h1 : (((x[x.size - 1]'(by omega)).toNat : Int) == 92) = false) (rx ry : List Tok) (N : Nat) (hN : N = x.size + 1 + y.size) (C3 : Hid (∀ W, Calls Try.prog 11 #[.string x] W (OkPost rx x.size W))) (C4 : Hid (∀ W, Calls Try.prog 11 #[.string y] W (OkPost ry y.size W))) (hxs : x.size ≤ 200) (hys : y.size ≤ 200) (hrx : rx.length ≤ x.size) (hry : ry.length ≤ y.size) (hpl : Hid (∀ j (h : j < (ry ++ [endT y.size]).length), ((ry ++ [endT y.size])[j]'h).a ≤ 200))
    (C5 : Hid (∀ W, Calls Try.prog 11 #[.string (x ++ ⟨#[10]⟩ ++ y)] W (OkPost (rx ++ ⟨1, [], x.size⟩ :: ry.map (Tok.by (x.size + 1))) N W))) :
    Calls Try.prog 5 #[.string a, .string b] w fun e w' => e = .returned (.bool true) ∧ Below w.heap.size w w' := by
  have bl1 : ((rx.length : Int) + 1 == 0) = false := by simp; omega
  have bl2 : ((ry.length : Int) + 1 == 0) = false := by simp; omega
  have hlen : (rx ++ ⟨1, [], x.size⟩ :: ry.map (Tok.by (x.size + 1))).length = rx.length + ry.length + 1 := by simp; omega
  have AW := Lib.hid fun W => awake_any W
  have b1 : decide ((0 : Int) < (x.size : Int)) = true := decide_eq_true (by omega)
  go_enter Try.func5, Try.ntmps5
  go_wp2_with fail
  refine (C1.out _).mono ?_
  rintro e w1 ⟨rfl, rfl⟩
  go_wp2_with fail
  refine (C2.out _).mono ?_
  rintro e w1 ⟨rfl, rfl⟩
  go_wp2_with fail
  refine (C3.out _).mono ?_
  rintro e w2 ⟨g2, c2, rfl, t2, hb2⟩
  have HT2 := Lib.hid t2
  have HB2 := Lib.hid hb2
  clear t2 hb2
  go_wp2_with fail
  refine (C4.out _).mono ?_
  rintro e w3 ⟨g3, c3, rfl, t3, hb3⟩
  have HT3 := Lib.hid (And.intro (HT2.out.below hb3 (Nat.le_refl _)) t3)
  have HB3 := Lib.hid (HB2.out.trans (hb3.mono HB2.out.size))
  clear t3 hb3 HT2 HB2
  go_wp2_with fail
  refine (C5.out _).mono ?_
  rintro e w4 ⟨g4, c4, rfl, t4, hb4⟩
  rw [hlen]
  have HI := Lib.hid (And.intro (HT3.out.1.below hb4 (Nat.le_refl _)) (And.intro (HT3.out.2.below hb4 (Nat.le_refl _)) (And.intro t4 (HB3.out.trans (hb4.mono HB3.out.size)))))
  clear t4 hb4 HT3 HB3
  go_wp2_with fail
  have HJ := HI.out
  rw [lines_row hN] at HJ
  have HI2 := Lib.hid HJ
  clear HJ HI C5 hlen
  go_loopw [14] (fun iv wx => ∃ k : Nat, k ≤ rx.length ∧ iv = .int .i64 k ∧ Hid (TAt wx g2 (rx ++ [endT x.size]) ∧ TAt wx g3 (ry ++ [endT y.size]) ∧ TAt wx g4 (rx ++ ⟨1, [], x.size⟩ :: (ry ++ [endT y.size]).map (Tok.by (x.size + 1))) ∧ Below w.heap.size w wx)) (fun iv _ => rx.length - (intOf iv).toNat)
  case atStart => exact ⟨0, Nat.zero_le _, by first | rfl | trivial, HI2⟩
  case round =>
    obtain ⟨i, hi, rfl, HX⟩ := hrel
    by_cases hil : i < rx.length
    · obtain ⟨d0, d1, d2⟩ := HX.out.1.tok i hil
      obtain ⟨e0, e1, e2⟩ := HX.out.2.2.1.tok i hil
      generalize (rx[i].k : Int) = kk at *
      generalize (rx[i].a : Int) = aa at *
      generalize (⟨rx[i].t.toArray⟩ : ByteArray) = tt at *
      go_wp2_with fail
      go_quiet (fail)
      go_wp2_with fail
      go_roundw
      case rel => exact ⟨i + 1, by omega, by go_num, Lib.hid ⟨HX.out.1.drewN _, HX.out.2.1.drewN _, HX.out.2.2.1.drewN _, HX.out.2.2.2.trans ⟨rfl, rfl, rfl, Nat.le_refl _, fun _ _ => rfl⟩⟩⟩
      case measure => simp [intOf]; omega
    · obtain rfl : i = rx.length := by omega
      have HI3 := Lib.hid HX.out
      clear HX HI2
      go_wp2_with fail
      go_loopw [101] (fun iv wx => ∃ k : Nat, k ≤ ry.length + 1 ∧ iv = .int .i64 k ∧ Hid (TAt wx g2 (rx ++ [endT x.size]) ∧ TAt wx g3 (ry ++ [endT y.size]) ∧ TAt wx g4 (rx ++ ⟨1, [], x.size⟩ :: (ry ++ [endT y.size]).map (Tok.by (x.size + 1))) ∧ Below w.heap.size w wx)) (fun iv _ => ry.length + 1 - (intOf iv).toNat)
      case atStart => exact ⟨0, Nat.zero_le _, by first | rfl | trivial, HI3⟩
      case round =>
        obtain ⟨j, hj, rfl, HX⟩ := hrel
        by_cases hjl : j < ry.length + 1
        · have hjl' : j < (ry ++ [endT y.size]).length := by simp; omega
          obtain ⟨d0, d1, d2⟩ := HX.out.2.2.1.by j hjl'
          have e0 := HX.out.2.1.k j hjl'
          have e1 := HX.out.2.1.t j hjl'
          have e2 := HX.out.2.1.a j hjl'
          have haa := hpl.out j hjl'
          have hai : (((ry ++ [endT y.size])[j]'hjl').a : Int) ≤ 200 ∧ 0 ≤ (((ry ++ [endT y.size])[j]'hjl').a : Int) := by omega
          clear haa
          rw [show ((((ry ++ [endT y.size])[j]'hjl').a : Int) + ((x.size + 1 : Nat) : Int)) = (((ry ++ [endT y.size])[j]'hjl').a : Int) + (x.size : Int) + 1 from by omega] at d2
          generalize (((ry ++ [endT y.size])[j]'hjl').k : Int) = kk at *
          generalize (((ry ++ [endT y.size])[j]'hjl').a : Int) = aa at *
          generalize (⟨((ry ++ [endT y.size])[j]'hjl').t.toArray⟩ : ByteArray) = tt at *
          have lt3 := HX.out.2.1.lt
          have lt4 := HX.out.2.2.1.lt
          have q1 : (j : Int) < (ry.length : Int) + 1 := by omega
          have q2 : (rx.length : Int) + 1 + (j : Int) < (rx.length : Int) + (ry.length : Int) + 1 + 1 := by omega
          have w1 : IntKind.i64.wrap (aa + (x.size : Int)) = aa + (x.size : Int) := by rw [IntKind.wrap_i64]; omega
          have w2 : IntKind.i64.wrap (aa + (x.size : Int) + 1) = aa + (x.size : Int) + 1 := by rw [IntKind.wrap_i64]; omega
          have HT5 := Lib.hid (And.intro (HX.out.1.alloc (.cells #[.int .i64 kk, .string tt, .int .i64 (aa + (x.size : Int) + 1)] 36)) (And.intro (HX.out.2.1.alloc (.cells #[.int .i64 kk, .string tt, .int .i64 (aa + (x.size : Int) + 1)] 36)) (And.intro (HX.out.2.2.1.alloc (.cells #[.int .i64 kk, .string tt, .int .i64 (aa + (x.size : Int) + 1)] 36)) (HX.out.2.2.2.alloc HX.out.2.2.2.size (.cells #[.int .i64 kk, .string tt, .int .i64 (aa + (x.size : Int) + 1)] 36)))))
          have hall : ∀ o, (wr.alloc (.cells #[.int .i64 kk, .string tt, .int .i64 (aa + (x.size : Int) + 1)] 36)).cell? ⟨g3, o, none⟩ = wr.cell? ⟨g3, o, none⟩ := fun o => ((Below.refl wr.heap.size wr).alloc (Nat.le_refl _) _).cell (p := ⟨g3, o, none⟩) lt3
          have n0 := (hall _).trans e0
          have n1 := (hall _).trans e1
          have n2 := (hall _).trans e2
          have m0 : (wr.alloc (.cells #[.int .i64 kk, .string tt, .int .i64 (aa + (x.size : Int) + 1)] 36)).cell? ⟨wr.heap.size, 0, none⟩ = some (.int .i64 kk) := by simp [go_sem]
          have m1 : (wr.alloc (.cells #[.int .i64 kk, .string tt, .int .i64 (aa + (x.size : Int) + 1)] 36)).cell? ⟨wr.heap.size, 1, none⟩ = some (.string tt) := by simp [go_sem]
          have m2 : (wr.alloc (.cells #[.int .i64 kk, .string tt, .int .i64 (aa + (x.size : Int) + 1)] 36)).cell? ⟨wr.heap.size, 2, none⟩ = some (.int .i64 (aa + (x.size : Int) + 1)) := by simp [go_sem]
          clear hall HX e0 e1 e2
          go_wp2_with fail
          clear d0 d1 d2
          generalize wr.alloc (.cells #[.int .i64 kk, .string tt, .int .i64 (aa + (x.size : Int) + 1)] 36) = W6 at *
          go_quiet (fail)
          go_wp2_with fail
          go_roundw
          case rel => exact ⟨j + 1, by omega, by go_num, Lib.hid ⟨HT5.out.1.drewN _, HT5.out.2.1.drewN _, HT5.out.2.2.1.drewN _, HT5.out.2.2.2.trans ⟨rfl, rfl, rfl, Nat.le_refl _, fun _ _ => rfl⟩⟩⟩
          case measure => simp [intOf]; omega
        · obtain rfl : j = ry.length + 1 := by omega
          have z0 := HX.out.2.2.1.nl
          have lt4 := HX.out.2.2.1.lt
          have HB := Lib.hid HX.out.2.2.2
          clear HX HI3
          go_wp2_with fail
          refine (AW.out _).mono ?_
          rintro e w9 ⟨rfl, hb9⟩
          have z9 := (hb9.cell (p := ⟨g4, rx.length * 3, none⟩) lt4).trans z0
          have HB9 := Lib.hid (HB.out.trans (hb9.mono HB.out.size))
          clear hb9 HB z0
          go_wp2_with fail
          go_ret
          exact ⟨by simp, HB9.out⟩
theorem places_le {l : List UInt8} {r : List Tok} {n m : Nat} (h : lexL l = .ok r) (hn : l.length = n) (hm : n ≤ m) : ∀ j (hj : j < (r ++ [endT n]).length), ((r ++ [endT n])[j]'hj).a ≤ m := by
  intro j hj
  have h1 := lexF_rise _ _ _ _ _ h
  rw [Nat.zero_add, hn] at h1
  by_cases hr : j < r.length
  · rw [List.getElem_append_left hr]
    have := (h1.at j hr).2.2.1; omega
  · have : j = r.length := by simp at hj; omega
    subst this
    simp [endT]; exact hm
theorem last_ne {x : ByteArray} (hn : 0 < x.size) (h : ¬ x[x.size - 1] = 92) : x.data.toList.getLast? ≠ some 92 := by
  rw [List.getLast?_eq_getElem?, ba_sz, at_list x (x.size - 1) (by omega)]
  intro e; exact h (Option.some.inj e)
theorem lines_walk (a b : ByteArray) (ha : a.size ≤ maxLen) (hb : b.size ≤ maxLen) (w : World) :
    Calls Try.prog 5 #[.string a, .string b] w fun e w' => e = .returned (.bool true) ∧ Below w.heap.size w w' := by
  have C1 := Lib.hid fun W => cut_any a 200 W ha (by omega)
  have C2 := Lib.hid fun W => cut_any b 200 W hb (by omega)
  have l1 := cutB_size a 200
  have l2 := cutB_size b 200
  generalize cutB a 200 = x at *
  generalize cutB b 200 = y at *
  clear ha hb
  have xl := ba_sz x
  have yl := ba_sz y
  have E : ∀ p, lexL x.data.toList = .error p → Hid (∀ W, Calls Try.prog 11 #[.string x] W fun e w' => e = .returned (.tuple #[.slice none 0 0, .int .i64 (p : Int), .int .i64 9]) ∧ Below W.heap.size W w') := fun p h => Lib.hid fun W => lex_err x p W (by omega) h
  have F : ∀ p, lexL y.data.toList = .error p → Hid (∀ W, Calls Try.prog 11 #[.string y] W fun e w' => e = .returned (.tuple #[.slice none 0 0, .int .i64 (p : Int), .int .i64 9]) ∧ Below W.heap.size W w') := fun p h => Lib.hid fun W => lex_err y p W (by omega) h
  have G : ∀ r, lexL x.data.toList = .ok r → Hid (∀ W, Calls Try.prog 11 #[.string x] W (OkPost r x.size W)) := fun r h => Lib.hid fun W => lex_ok x r W (by omega) h
  have H : ∀ r, lexL y.data.toList = .ok r → Hid (∀ W, Calls Try.prog 11 #[.string y] W (OkPost r y.size W)) := fun r h => Lib.hid fun W => lex_ok y r W (by omega) h
  have J : ∀ rx ry, lexL x.data.toList = .ok rx → lexL y.data.toList = .ok ry → x.data.toList.getLast? ≠ some 92 → Hid (∀ W, Calls Try.prog 11 #[.string (x ++ ⟨#[10]⟩ ++ y)] W (OkPost (rx ++ ⟨1, [], x.size⟩ :: ry.map (Tok.by (x.size + 1))) (x.size + 1 + y.size) W)) := fun rx ry h1 h2 h3 => Lib.hid fun W => by
    have hs : (x ++ ⟨#[10]⟩ ++ y).size = x.size + 1 + y.size := by rw [ByteArray.size_append, ByteArray.size_append]; rfl
    have h4 := lex_lines h1 h2 h3
    rw [xl] at h4
    have e : (x ++ ⟨#[10]⟩ ++ y).data.toList = x.data.toList ++ 10 :: y.data.toList := by simp
    have := lex_ok (x ++ ⟨#[10]⟩ ++ y) _ W (by omega) (by rw [e]; exact h4)
    rw [hs] at this
    exact this
  by_cases hz : x.size = 0
  · have hl : x.data.toList.getLast? ≠ some 92 := by
      rw [List.length_eq_zero_iff.1 (by omega : x.data.toList.length = 0)]; simp
    cases hx : lexL x.data.toList with
    | error p =>
      cases hy : lexL y.data.toList with
      | error q => exact lines_e_ee a b x y w C1 C2 hz p q (E p hx) (F q hy)
      | ok ry => exact lines_e_eo a b x y w C1 C2 hz p ry (E p hx) (H ry hy)
    | ok rx =>
      cases hy : lexL y.data.toList with
      | error q => exact lines_e_oe a b x y w C1 C2 hz rx q (G rx hx) (F q hy)
      | ok ry => exact lines_e_oo a b x y w C1 C2 hz rx ry _ rfl (G rx hx) (H ry hy) l1 l2 (by have := lex_len hx; omega) (by have := lex_len hy; omega) (Lib.hid (places_le hy yl l2)) (J rx ry hx hy hl)
  · have hn : 0 < x.size := by omega
    have hlt : x.size - 1 < x.size := by omega
    have hw : wrap64 ((x.size : Int) - 1) = ((x.size - 1 : Nat) : Int) := wrap_last (by omega) (by omega)
    by_cases h92 : x[x.size - 1] = 92
    · exact lines_92 a b x y (x.size - 1) w C1 C2 hw hlt (by rw [h92]; rfl)
    · have hl := last_ne hn h92
      have hb : (((x[x.size - 1]'hlt).toNat : Int) == 92) = false := by
        rw [beq_eq_false_iff_ne]; intro e; exact h92 (nat_of (by decide) e)
      cases hx : lexL x.data.toList with
      | error p =>
        cases hy : lexL y.data.toList with
        | error q => exact lines_n_ee a b x y w C1 C2 _ hw hlt hb p q (E p hx) (F q hy)
        | ok ry => exact lines_n_eo a b x y w C1 C2 _ hw hlt hb p ry (E p hx) (H ry hy)
      | ok rx =>
        cases hy : lexL y.data.toList with
        | error q => exact lines_n_oe a b x y w C1 C2 _ hw hlt hb rx q (G rx hx) (F q hy)
        | ok ry => exact lines_n_oo a b x y w C1 C2 hn hb rx ry _ rfl (G rx hx) (H ry hy) l1 l2 (by have := lex_len hx; omega) (by have := lex_len hy; omega) (Lib.hid (places_le hy yl l2)) (J rx ry hx hy hl)
end Go.Proofs.Ytfmjajmdkndknaa
