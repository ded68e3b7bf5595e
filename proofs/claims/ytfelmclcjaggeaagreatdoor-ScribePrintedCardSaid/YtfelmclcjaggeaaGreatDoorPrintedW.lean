/-
  THE WALK of scribetop.ScribePrinted: whatever the value, it returns true and writes to nothing that was there.
-/
import Derived.Test.YtfelmclcjaggeaaGreatDoorFmtL2
import Derived.Test.YtfelmclcjaggeaaGreatDoorNumM2
import Derived.Test.YtfelmclcjaggeaaGreatDoorFmtW7
import Derived.Test.YtfelmclcjaggeaaGreatDoorCutA
import Derived.Test.YtfelmclcjaggeaaGreatDoorLive
namespace Go.Proofs.YtfelmclcjaggeaaGreatDoor
open Go.RowKit

section mathematics
open Go.Lib

theorem printS (v : Va) (h : v.s.length ≤ 4000) : printL [37, 115] [] [v] = (v.s, 0) := by
  have e := part_one (r := [115]) (by simp) (by decide) [] [] [v]
  have k : (cvOf [115]).kind = 115 := by decide
  have o : oneL (cvOf [115]) v = v.s := by
    unfold oneL
    rw [if_pos k]
    unfold fillL strL
    rw [show (cvOf [115]).precise = false from by decide, show (cvOf [115]).left = false from by decide, show (cvOf [115]).noughts = false from by decide, show (cvOf [115]).width = 0 from by decide]
    simp
  rw [List.append_nil] at e
  rw [e]
  simp only [List.headD_cons, List.nil_append, List.tail_cons, o, show cvT [115] = [] from by decide, List.append_nil]
  rw [if_neg (by omega), printL_nil, if_neg (by omega)]
def dL (w : Int) : List UInt8 := (if w < 0 then [45] else []) ++ (List.replicate (1 - (if w.natAbs = 0 then [] else decDigits w.natAbs).length) 48 ++ (if w.natAbs = 0 then [] else decDigits w.natAbs))
theorem dL_len (w : Int) (h : w.natAbs < 18446744073709551616) : (dL w).length ≤ 22 := by
  unfold dL
  have h1 := dec_len20 w.natAbs h
  rw [List.length_append, List.length_append, List.length_replicate]
  split <;> split <;> simp <;> omega
theorem printD (v : Va) (h : (v.n.tdiv 1000000).natAbs < 18446744073709551616) : printL [37, 100] [] [v] = (dL (v.n.tdiv 1000000), 0) := by
  have e := part_one (r := [100]) (by simp) (by decide) [] [] [v]
  have hl := dL_len _ h
  have o : oneL (cvOf [100]) v = dL (v.n.tdiv 1000000) := by
    unfold oneL
    rw [if_neg (by decide), if_neg (by decide), if_neg (by decide)]
    unfold fillL signL digitsL natL dL
    rw [show (cvOf [100]).precise = false from by decide, show (cvOf [100]).left = false from by decide, show (cvOf [100]).noughts = false from by decide, show (cvOf [100]).plus = false from by decide, show (cvOf [100]).blank = false from by decide, show (cvOf [100]).width = 0 from by decide, if_neg (show ¬ (cvOf [100]).kind = 120 by decide)]
    by_cases hw : v.n.tdiv 1000000 < 0
    · simp [hw]
    · simp [hw]
  rw [List.append_nil] at e
  rw [e]
  simp only [List.headD_cons, List.nil_append, List.tail_cons, o, show cvT [100] = [] from by decide, List.append_nil]
  rw [if_neg (by omega), printL_nil, if_neg (by omega)]
theorem dL_text (w : Int) (h : w ≠ 0) : dL w = textL (w * 1000000) := by
  have hn : w.natAbs ≠ 0 := by omega
  have h1 : (w * 1000000).natAbs / 1000000 = w.natAbs := by omega
  have h2 : (w * 1000000).natAbs % 1000000 = 0 := by omega
  have hp : 1 ≤ (decDigits w.natAbs).length := by rw [decDigits_length]; exact nDigits_pos _
  unfold dL textL fracL
  rw [h1, h2, if_neg hn, show 1 - (decDigits w.natAbs).length = 0 by omega]
  by_cases hw : w < 0
  · rw [if_pos hw, if_pos (by omega)]; simp
  · rw [if_neg hw, if_neg (by omega)]; simp
theorem looks_text (a : Int) (ha : -4611686018427387903 ≤ a ∧ a ≤ 4611686018427387903) : looksL (textL a) = (a, true) := by
  unfold looksL
  rw [back1 a ha]
  have hl : 0 < (textL a).length := by
    unfold textL
    have := nDigits_pos (a.natAbs / 1000000)
    rw [List.length_append, List.length_append, decDigits_length]; omega
  simp [hl]
/-- One value in a row of its own. -/
theorem ce_one (w : World) (a : Nat) (k n : Int) (s : ByteArray) (h0 : w.cell? ⟨a, 0, none⟩ = some (.int .i64 k)) (h1 : w.cell? ⟨a, 1, none⟩ = some (.int .i64 n)) (h2 : w.cell? ⟨a, 2, none⟩ = some (.string s)) : CeAt w (some ⟨a, 0, none⟩) [⟨k, n, s⟩] := by
  intro i hi
  obtain rfl : i = 0 := by simpa using hi
  exact ⟨⟨a, 0, none⟩, rfl, World.block_lt_of_cell? _ _ h0, by simpa [Addr.add] using h0, by simpa [Addr.add] using h1, by simpa [Addr.add] using h2⟩
end mathematics

theorem pcut_any (k n : Int) (s : ByteArray) (w : World) (hs : s.size ≤ maxLen) :
    Calls Tryz.prog 4 #[cv k n s] w fun e w' => e = .returned (cv k n (cutB s 100)) ∧ Below w.heap.size w w' := by
  have C0 : Hid (∀ W, Calls Tryz.prog 13 #[.string s, .int .i64 100] W fun e w' => e = .returned (.string (cutB s 100)) ∧ W = w') := Lib.hid fun W => cut_any s 100 W hs (by omega)
  generalize cutB s 100 = t at *
  unfold cv
  go_enter Tryz.func4, Tryz.ntmps4
  go_wp2_with ((with_reducible refine (C0.out _).mono ?_); rintro e w' ⟨rfl, rfl⟩)
  refine bodyPost_ret (v := cv k n t) ?_ rfl ⟨rfl, ((Below.refl _ _).alloc (Nat.le_refl _) _).alloc (by simp) _⟩
  simp [results, Tryz.results4, go_sem, cv]
theorem pset3_at {w w1 : World} {k n : Int} {s0 : ByteArray} {T : TypeId} (hb : Below (w.alloc (.cells #[.int .i64 k, .int .i64 n, .string s0] T)).heap.size (w.alloc (.cells #[.int .i64 k, .int .i64 n, .string s0] T)) w1) (x y z : Value) :
    (((w1.setCell ⟨w.heap.size, 0, none⟩ x).setCell ⟨w.heap.size, 1, none⟩ y).setCell ⟨w.heap.size, 2, none⟩ z).cell? ⟨w.heap.size, 0, none⟩ = some x
    ∧ (((w1.setCell ⟨w.heap.size, 0, none⟩ x).setCell ⟨w.heap.size, 1, none⟩ y).setCell ⟨w.heap.size, 2, none⟩ z).cell? ⟨w.heap.size, 1, none⟩ = some y
    ∧ (((w1.setCell ⟨w.heap.size, 0, none⟩ x).setCell ⟨w.heap.size, 1, none⟩ y).setCell ⟨w.heap.size, 2, none⟩ z).cell? ⟨w.heap.size, 2, none⟩ = some z := by
  obtain ⟨hc, _⟩ := bcell hb
  refine ⟨?_, ?_, ?_⟩ <;> simp [go_sem, hc]
/-- Three cells keep what they hold. -/
theorem pkeep3 {w w3 : World} {a : Nat} {x1 x2 x3 : Value} (h : w.cell? ⟨a, 0, none⟩ = some x1 ∧ w.cell? ⟨a, 1, none⟩ = some x2 ∧ w.cell? ⟨a, 2, none⟩ = some x3) (hb : Below w.heap.size w w3) :
    w3.cell? ⟨a, 0, none⟩ = some x1 ∧ w3.cell? ⟨a, 1, none⟩ = some x2 ∧ w3.cell? ⟨a, 2, none⟩ = some x3 := by
  have k : ∀ {c o : Nat} {x : Value}, w.cell? ⟨c, o, none⟩ = some x → w3.cell? ⟨c, o, none⟩ = some x := fun h => (hb.cell (p := ⟨_, _, none⟩) (World.block_lt_of_cell? _ _ h)).trans h
  exact ⟨k h.1, k h.2.1, k h.2.2⟩
def S6 (w : World) (a b : Nat) (x1 x2 x3 y1 y2 y3 : Value) (w' : World) : Prop :=
  w'.cell? ⟨a, 0, none⟩ = some x1 ∧ w'.cell? ⟨a, 1, none⟩ = some x2 ∧ w'.cell? ⟨a, 2, none⟩ = some x3 ∧ w'.cell? ⟨b, 0, none⟩ = some y1 ∧ w'.cell? ⟨b, 1, none⟩ = some y2 ∧ w'.cell? ⟨b, 2, none⟩ = some y3 ∧ Below w.heap.size w w'
theorem pkeep6 {W w w3 : World} {a b : Nat} {x1 x2 x3 y1 y2 y3 : Value}
    (h : w.cell? ⟨a, 0, none⟩ = some x1 ∧ w.cell? ⟨a, 1, none⟩ = some x2 ∧ w.cell? ⟨a, 2, none⟩ = some x3 ∧ w.cell? ⟨b, 0, none⟩ = some y1 ∧ w.cell? ⟨b, 1, none⟩ = some y2 ∧ w.cell? ⟨b, 2, none⟩ = some y3 ∧ Below W.heap.size W w) (hb : Below w.heap.size w w3) :
    w3.cell? ⟨a, 0, none⟩ = some x1 ∧ w3.cell? ⟨a, 1, none⟩ = some x2 ∧ w3.cell? ⟨a, 2, none⟩ = some x3 ∧ w3.cell? ⟨b, 0, none⟩ = some y1 ∧ w3.cell? ⟨b, 1, none⟩ = some y2 ∧ w3.cell? ⟨b, 2, none⟩ = some y3 ∧ Below W.heap.size W w3 := by
  have k : ∀ {c o : Nat} {x : Value}, w.cell? ⟨c, o, none⟩ = some x → w3.cell? ⟨c, o, none⟩ = some x := fun h => (hb.cell (p := ⟨_, _, none⟩) (World.block_lt_of_cell? _ _ h)).trans h
  obtain ⟨h1, h2, h3, h4, h5, h6, h7⟩ := h
  exact ⟨k h1, k h2, k h3, k h4, k h5, k h6, h7.trans (hb.mono h7.size)⟩
theorem pbelow6 {W w : World} {a b : Nat} {x1 x2 x3 y1 y2 y3 : Value}
    (h : w.cell? ⟨a, 0, none⟩ = some x1 ∧ w.cell? ⟨a, 1, none⟩ = some x2 ∧ w.cell? ⟨a, 2, none⟩ = some x3 ∧ w.cell? ⟨b, 0, none⟩ = some y1 ∧ w.cell? ⟨b, 1, none⟩ = some y2 ∧ w.cell? ⟨b, 2, none⟩ = some y3 ∧ Below W.heap.size W w) : Below W.heap.size W w := h.2.2.2.2.2.2
theorem pdraw6 {W w : World} {a b : Nat} {x1 x2 x3 y1 y2 y3 : Value}
    (h : w.cell? ⟨a, 0, none⟩ = some x1 ∧ w.cell? ⟨a, 1, none⟩ = some x2 ∧ w.cell? ⟨a, 2, none⟩ = some x3 ∧ w.cell? ⟨b, 0, none⟩ = some y1 ∧ w.cell? ⟨b, 1, none⟩ = some y2 ∧ w.cell? ⟨b, 2, none⟩ = some y3 ∧ Below W.heap.size W w) :
    w.drew.cell? ⟨a, 0, none⟩ = some x1 ∧ w.drew.cell? ⟨a, 1, none⟩ = some x2 ∧ w.drew.cell? ⟨a, 2, none⟩ = some x3 ∧ w.drew.cell? ⟨b, 0, none⟩ = some y1 ∧ w.drew.cell? ⟨b, 1, none⟩ = some y2 ∧ w.drew.cell? ⟨b, 2, none⟩ = some y3 ∧ Below W.heap.size W w.drew :=
  ⟨h.1, h.2.1, h.2.2.1, h.2.2.2.1, h.2.2.2.2.1, h.2.2.2.2.2.1, h.2.2.2.2.2.2.drew⟩
set_option maxHeartbeats 8000000 in
set_option maxRecDepth 100000 in
theorem printed_in (k n : Int) (s0 s S T U : ByteArray) (g eTU : Bool) (m wI u bk bn bm : Int) (w : World) (HG : Hid (Gf w)) (LV : Hid (∀ W, J.Gl W → Calls Tryz.prog 5 #[] W fun e w' => e = .returned (.bool true) ∧ Below W.heap.size W w')) (HJ : Hid (∀ W, Below w.heap.size w W → J.Gl W))
    (C1 : Hid (∀ W, Calls Tryz.prog 4 #[.agg #[.int .i64 k, .int .i64 n, .string s0]] W fun e w' => e = .returned (.agg #[.int .i64 k, .int .i64 n, .string s]) ∧ Below W.heap.size W w'))
    (G1 : Hid (∀ W, Calls Tryz.prog 6 #[.agg #[.int .i64 k, .int .i64 n, .string s]] W fun e w' => e = .returned (.bool g) ∧ Below W.heap.size W w'))
    (P1 : g = true → Hid (∀ W a, W.cell? ⟨a, 0, none⟩ = some (.int .i64 k) → W.cell? ⟨a, 1, none⟩ = some (.int .i64 n) → W.cell? ⟨a, 2, none⟩ = some (.string s) → Gf W → Calls Tryz.prog 7 #[.string ⟨#[37, 115]⟩, .slice (some ⟨a, 0, none⟩) 1 1] W fun e w' => e = .returned (.tuple #[.string S, .int .i64 0]) ∧ Below W.heap.size W w'))
    (P2 : g = true → Hid (∀ W a, W.cell? ⟨a, 0, none⟩ = some (.int .i64 k) → W.cell? ⟨a, 1, none⟩ = some (.int .i64 n) → W.cell? ⟨a, 2, none⟩ = some (.string s) → Gf W → Calls Tryz.prog 7 #[.string ⟨#[37, 100]⟩, .slice (some ⟨a, 0, none⟩) 1 1] W fun e w' => e = .returned (.tuple #[.string T, .int .i64 0]) ∧ Below W.heap.size W w'))
    (I1 : g = true → Hid (∀ W, Calls Tryz.prog 8 #[.string S] W fun e w' => e = .returned (.agg #[.int .i64 bk, .int .i64 bn, .string S]) ∧ Below W.heap.size W w'))
    (A1 : g = true → Hid (∀ W, Gl W → Calls Tryz.prog 9 #[.agg #[.int .i64 k, .int .i64 n, .string s]] W fun e w' => e = .returned (.string S) ∧ Below W.heap.size W w'))
    (N1 : g = true → Hid (∀ W, Calls Tryz.prog 11 #[.agg #[.int .i64 k, .int .i64 n, .string s]] W fun e w' => e = .returned (.int .i64 m) ∧ Below W.heap.size W w'))
    (W1 : g = true → Hid (∀ W, Calls Tryz.prog 12 #[.int .i64 m] W fun e w' => e = .returned (.int .i64 wI) ∧ W = w'))
    (J1 : g = true → Hid (∀ W, Calls Tryz.prog 10 #[.int .i64 wI] W fun e w' => e = .returned (.agg #[.int .i64 1, .int .i64 u, .string ⟨#[]⟩]) ∧ Below W.heap.size W w'))
    (A2 : g = true → Hid (∀ W, Gl W → Calls Tryz.prog 9 #[.agg #[.int .i64 1, .int .i64 u, .string ⟨#[]⟩]] W fun e w' => e = .returned (.string U) ∧ Below W.heap.size W w'))
    (N2 : g = true → Hid (∀ W, Calls Tryz.prog 11 #[.agg #[.int .i64 bk, .int .i64 bn, .string S]] W fun e w' => e = .returned (.int .i64 bm) ∧ Below W.heap.size W w'))
    (hTU : (T.toList == U.toList) = eTU) (hw0 : g = true → eTU = false → wI = 0) (hk1 : g = true → k = 1 → bm = n ∧ bk = 3) :
    Calls Tryz.prog 3 #[.agg #[.int .i64 k, .int .i64 n, .string s0]] w fun e w' => e = .returned (.bool true) ∧ Below w.heap.size w w' := by
  go_enter Tryz.func3, Tryz.ntmps3
  go_wp2_with fail
  refine (C1.out _).mono ?_
  rintro e w1 ⟨rfl, hb1⟩
  obtain ⟨hc, hf⟩ := bcell hb1
  have hs3 := pset3_at hb1 (.int .i64 k) (.int .i64 n) (.string s)
  have hb2 := below_set3 (below_new hb1) (.int .i64 k) (.int .i64 n) (.string s)
  clear hb1
  go_wp2_with fail
  clear hc hf
  generalize (((w1.setCell ⟨w.heap.size, 0, none⟩ (.int .i64 k)).setCell ⟨w.heap.size, 1, none⟩ (.int .i64 n)).setCell ⟨w.heap.size, 2, none⟩ (.string s)) = w2 at *
  refine (LV.out _ (HJ.out _ hb2)).mono ?_
  rintro e w3 ⟨rfl, hb3⟩
  have hs4 := pkeep3 hs3 hb3
  have HB3 := Lib.hid (hb2.trans (hb3.mono hb2.size))
  clear hs3 hb2 hb3
  obtain ⟨h40, h41, h42⟩ := hs4
  go_wp2_with fail
  refine (G1.out _).mono ?_
  rintro e w4 ⟨rfl, hb4⟩
  have hs5 := pkeep3 ⟨h40, h41, h42⟩ hb4
  have HB4 := Lib.hid (HB3.out.trans (hb4.mono HB3.out.size))
  clear hb4 h40 h41 h42 HB3
  cases g
  · clear P1 P2 I1 A1 N1 W1 J1 A2 N2 hw0 hk1
    go_wp2_with fail
    go_ret
    exact ⟨rfl, HB4.out⟩
  replace P1 := P1 rfl
  replace P2 := P2 rfl
  replace I1 := I1 rfl
  replace A1 := A1 rfl
  replace N1 := N1 rfl
  replace W1 := W1 rfl
  replace J1 := J1 rfl
  replace A2 := A2 rfl
  replace N2 := N2 rfl
  replace hw0 := hw0 rfl
  replace hk1 := hk1 rfl
  clear C1 G1 LV HJ
  obtain ⟨h50, h51, h52⟩ := hs5
  go_wp2_with fail
  have hlt : w.heap.size < w4.heap.size := World.block_lt_of_cell? _ _ h50
  have hs := pkeep3 ⟨h50, h51, h52⟩ ((Below.refl w4.heap.size w4).alloc (Nat.le_refl _) (Obj.cells #[Value.int .i64 k, Value.int .i64 n, Value.string s] 24))
  have HA := Lib.hid (HB4.out.alloc HB4.out.size (Obj.cells #[Value.int .i64 k, Value.int .i64 n, Value.string s] 24))
  refine (P1.out _ w4.heap.size (by simp [go_sem]) (by simp [go_sem]) (by simp [go_sem]) (HG.out.next HA.out)).mono ?_
  rintro e w5 ⟨rfl, hb⟩
  have hs := pkeep3 hs hb
  have HB5 := Lib.hid (HA.out.trans (hb.mono HA.out.size))
  clear hb HA hlt h50 h51 h52 HB4
  obtain ⟨h60, h61, h62⟩ := hs
  go_wp2_with fail
  have hlt : w.heap.size < w5.heap.size := World.block_lt_of_cell? _ _ h60
  have hs := pkeep3 ⟨h60, h61, h62⟩ ((Below.refl w5.heap.size w5).alloc (Nat.le_refl _) (Obj.cells #[Value.int .i64 k, Value.int .i64 n, Value.string s] 24))
  have HA := Lib.hid (HB5.out.alloc HB5.out.size (Obj.cells #[Value.int .i64 k, Value.int .i64 n, Value.string s] 24))
  refine (P2.out _ w5.heap.size (by simp [go_sem]) (by simp [go_sem]) (by simp [go_sem]) (HG.out.next HA.out)).mono ?_
  rintro e w6 ⟨rfl, hb⟩
  have hs := pkeep3 hs hb
  have HB6 := Lib.hid (HA.out.trans (hb.mono HA.out.size))
  clear hb HA hlt h60 h61 h62 HB5
  go_wp2_with fail
  refine (I1.out _).mono ?_
  rintro e w7 ⟨rfl, hb7⟩
  have hs := pkeep3 hs hb7
  have HB7 := Lib.hid (HB6.out.trans (hb7.mono HB6.out.size))
  clear hb7 HB6
  obtain ⟨h1, h2, h3⟩ := hs
  have hl1 : w.heap.size < w7.heap.size := World.block_lt_of_cell? _ _ h1
  go_wp2_with fail
  generalize hY : Obj.cells #[Value.int .i64 bk, Value.int .i64 bn, Value.string S] 24 = Y
  obtain ⟨A, hA⟩ : ∃ B, w.heap.size = B := ⟨_, rfl⟩
  obtain ⟨B, hB⟩ : ∃ B, w7.heap.size = B := ⟨_, rfl⟩
  have hs : (w7.alloc Y).cell? ⟨w.heap.size, 0, none⟩ = some (.int .i64 k) ∧ (w7.alloc Y).cell? ⟨w.heap.size, 1, none⟩ = some (.int .i64 n) ∧ (w7.alloc Y).cell? ⟨w.heap.size, 2, none⟩ = some (.string s) ∧ (w7.alloc Y).cell? ⟨B, 0, none⟩ = some (.int .i64 bk) ∧ (w7.alloc Y).cell? ⟨B, 1, none⟩ = some (.int .i64 bn) ∧ (w7.alloc Y).cell? ⟨B, 2, none⟩ = some (.string S) ∧ Below w.heap.size w (w7.alloc Y) := by
    rw [← hY, ← hB]
    refine ⟨by simp [go_sem, h1, hl1], by simp [go_sem, h2, hl1], by simp [go_sem, h3, hl1], by simp [go_sem], by simp [go_sem], by simp [go_sem], HB7.out.alloc HB7.out.size _⟩
  clear hY h1 h2 h3 hl1 HB7
  rw [hB]
  generalize w7.alloc Y = w8 at *
  clear hB
  have hs : w8.cell? ⟨A, 0, none⟩ = some (.int .i64 k) ∧ w8.cell? ⟨A, 1, none⟩ = some (.int .i64 n) ∧ w8.cell? ⟨A, 2, none⟩ = some (.string s) ∧ w8.cell? ⟨B, 0, none⟩ = some (.int .i64 bk) ∧ w8.cell? ⟨B, 1, none⟩ = some (.int .i64 bn) ∧ w8.cell? ⟨B, 2, none⟩ = some (.string S) ∧ Below w.heap.size w w8 := by rw [hA] at hs ⊢; exact hs
  rw [hA]
  obtain ⟨h1, h2, h3, h4, h5, h6, hbl⟩ := id hs
  refine (A1.out _ (HG.out.next (pbelow6 hs)).gl).mono ?_
  rintro e w9 ⟨rfl, hb⟩
  have hs := pkeep6 hs hb
  clear hb h1 h2 h3 h4 h5 h6 hbl
  obtain ⟨h1, h2, h3, h4, h5, h6, hbl⟩ := id hs
  go_wp2_with fail
  refine (N1.out _).mono ?_
  rintro e w10 ⟨rfl, hb⟩
  have hs := pkeep6 hs hb
  clear hb h1 h2 h3 h4 h5 h6 hbl
  obtain ⟨h1, h2, h3, h4, h5, h6, hbl⟩ := id hs
  go_wp2_with ((with_reducible refine (W1.out _).mono ?_); rintro e w' ⟨rfl, rfl⟩)
  refine (J1.out _).mono ?_
  rintro e w11 ⟨rfl, hb⟩
  have hs := pkeep6 hs hb
  clear hb h1 h2 h3 h4 h5 h6 hbl
  obtain ⟨h1, h2, h3, h4, h5, h6, hbl⟩ := id hs
  go_wp2_with fail
  refine (A2.out _ (HG.out.next (pbelow6 hs)).gl).mono ?_
  rintro e w12 ⟨rfl, hb⟩
  have hs := pkeep6 hs hb
  clear hb h1 h2 h3 h4 h5 h6 hbl
  obtain ⟨h1, h2, h3, h4, h5, h6, hbl⟩ := id hs
  cases eTU
  · obtain rfl := hw0 rfl
    clear hw0
    go_wp2_with fail
    refine (N1.out _).mono ?_
    rintro e w13 ⟨rfl, hb⟩
    have hs := pkeep6 hs hb
    clear hb h1 h2 h3 h4 h5 h6 hbl
    obtain ⟨h1, h2, h3, h4, h5, h6, hbl⟩ := id hs
    go_wp2_with ((with_reducible refine (W1.out _).mono ?_); rintro e w' ⟨rfl, rfl⟩)
    by_cases hk : k = 1
    · subst hk
      obtain ⟨rfl, rfl⟩ := hk1 rfl
      go_region_held3 (fun w' => w'.cell? ⟨A, 0, none⟩ = some (.int .i64 1) ∧ w'.cell? ⟨A, 1, none⟩ = some (.int .i64 bm) ∧ w'.cell? ⟨A, 2, none⟩ = some (.string s) ∧ w'.cell? ⟨B, 0, none⟩ = some (.int .i64 3) ∧ w'.cell? ⟨B, 1, none⟩ = some (.int .i64 bn) ∧ w'.cell? ⟨B, 2, none⟩ = some (.string S) ∧ Below w.heap.size w w') (first | assumption | exact pdraw6 (by assumption) | go_keep) (first
        | ((with_reducible refine (N2.out _).mono ?_); rintro e w20 ⟨rfl, hb20⟩; have k8 := pkeep6 (by assumption) hb20))
      all_goals
        have hs : w20.cell? ⟨A, 0, none⟩ = some (.int .i64 1) ∧ w20.cell? ⟨A, 1, none⟩ = some (.int .i64 bm) ∧ w20.cell? ⟨A, 2, none⟩ = some (.string s) ∧ w20.cell? ⟨B, 0, none⟩ = some (.int .i64 3) ∧ w20.cell? ⟨B, 1, none⟩ = some (.int .i64 bn) ∧ w20.cell? ⟨B, 2, none⟩ = some (.string S) ∧ Below w.heap.size w w20 := by assumption
        have HBe := Lib.hid (pbelow6 hs)
        clear hs
        go_wp2_with fail
        go_ret
        exact ⟨rfl, HBe.out⟩
    · have hkb : (k == 1) = false := by simpa using hk
      have HBe := Lib.hid hbl
      clear hs hbl
      go_quiet (fail)
      go_wp2_with fail
      go_ret
      exact ⟨rfl, HBe.out.trans ((Dr.below ⟨_, rfl⟩).mono HBe.out.size)⟩
  · go_wp2_with fail
    by_cases hk : k = 1
    · subst hk
      obtain ⟨rfl, rfl⟩ := hk1 rfl
      go_region_held3 (fun w' => w'.cell? ⟨A, 0, none⟩ = some (.int .i64 1) ∧ w'.cell? ⟨A, 1, none⟩ = some (.int .i64 bm) ∧ w'.cell? ⟨A, 2, none⟩ = some (.string s) ∧ w'.cell? ⟨B, 0, none⟩ = some (.int .i64 3) ∧ w'.cell? ⟨B, 1, none⟩ = some (.int .i64 bn) ∧ w'.cell? ⟨B, 2, none⟩ = some (.string S) ∧ Below w.heap.size w w') (first | assumption | exact pdraw6 (by assumption) | go_keep) (first
        | ((with_reducible refine (N2.out _).mono ?_); rintro e w20 ⟨rfl, hb20⟩; have k8 := pkeep6 (by assumption) hb20))
      all_goals
        have hs : w20.cell? ⟨A, 0, none⟩ = some (.int .i64 1) ∧ w20.cell? ⟨A, 1, none⟩ = some (.int .i64 bm) ∧ w20.cell? ⟨A, 2, none⟩ = some (.string s) ∧ w20.cell? ⟨B, 0, none⟩ = some (.int .i64 3) ∧ w20.cell? ⟨B, 1, none⟩ = some (.int .i64 bn) ∧ w20.cell? ⟨B, 2, none⟩ = some (.string S) ∧ Below w.heap.size w w20 := by assumption
        have HBe := Lib.hid (pbelow6 hs)
        clear hs
        go_wp2_with fail
        go_ret
        exact ⟨rfl, HBe.out⟩
    · have hkb : (k == 1) = false := by simpa using hk
      have HBe := Lib.hid hbl
      clear hs hbl
      go_quiet (fail)
      go_wp2_with fail
      go_ret
      exact ⟨rfl, HBe.out.trans ((Dr.below ⟨_, rfl⟩).mono HBe.out.size)⟩
theorem ptext_len (a : Int) (ha : OkN a) : (textL a).length ≤ 40 := by
  unfold OkN at ha
  have hm : a.natAbs % 1000000 < 1000000 := Nat.mod_lt _ (by decide)
  unfold textL fracL
  have h1 := Lib.nDigits_le20 (a.natAbs / 1000000) (by omega)
  have h2 : (Lib.trimRightS (six (a.natAbs % 1000000)) [48]).length ≤ 6 := by
    obtain ⟨z, hz, _⟩ := trimR_split (six (a.natAbs % 1000000)) [48]
    have := congrArg List.length hz
    rw [six_len _ hm, List.length_append] at this; omega
  rw [List.length_append, List.length_append, Lib.decDigits_length]
  split <;> split <;> simp <;> omega
theorem good_okn {k n : Int} {s : ByteArray} (h : GoodC k n s) : OkN n := by
  rcases h with ⟨_, rfl, _⟩ | ⟨_, h, _⟩ | ⟨_, rfl⟩ | ⟨_, h⟩
  · unfold OkN; omega
  · exact h
  · unfold OkN; omega
  · have : (looksL s.data.toList).1 = n := by rw [h]
    rw [← this]; exact prefix_okN _
theorem good_bool (k n : Int) (s : ByteArray) (hs : s.size ≤ 1000000) :
    ∃ g : Bool, (g = true ↔ GoodC k n s) ∧ ∀ W, Calls Tryz.prog 6 #[cv k n s] W fun e w' => e = .returned (.bool g) ∧ Below W.heap.size W w' := by
  by_cases h : GoodC k n s
  · refine ⟨true, by simp [h], fun W => ?_⟩
    obtain ⟨b, hb, hc⟩ := good_any k n s W hs
    rw [hb.2 h] at hc; exact hc
  · refine ⟨false, by simp [h], fun W => ?_⟩
    obtain ⟨b, hb, hc⟩ := good_any k n s W hs
    have : b = false := by
      cases b
      · rfl
      · exact absurd (hb.1 rfl) h
    rw [this] at hc; exact hc
set_option maxHeartbeats 2000000 in
theorem printed_walk (k n : Int) (s0 : ByteArray) (h0 : s0.size ≤ maxLen) (w : World) (G : Gf w ∧ J.Gl w) :
    Calls Tryz.prog 3 #[cv k n s0] w fun e w' => e = .returned (.bool true) ∧ Below w.heap.size w w' := by
  have hs := cutB_size s0 100
  have C1 := Lib.hid fun W => pcut_any k n s0 W h0
  generalize cutB s0 100 = s at *
  obtain ⟨g, hg, G1⟩ := good_bool k n s (by omega)
  obtain ⟨S, hS⟩ : ∃ S, strC k n s = S := ⟨_, rfl⟩
  have hone : g = true → k = 1 → OkN n := fun h _ => good_okn (hg.1 h)
  have hsz : g = true → S.size ≤ 100 := fun h => by rw [← hS]; exact strC_size k n s hs (hone h) ptext_len
  have hm : g = true → OkN (numC k n s) := fun h => numC_ok (good_okn (hg.1 h))
  obtain ⟨m, hme⟩ : ∃ m, numC k n s = m := ⟨_, rfl⟩
  rw [hme] at hm
  have hSl : S.data.toList = (strC k n s).data.toList := by rw [hS]
  obtain ⟨T, hT⟩ : ∃ T : ByteArray, T = ⟨(dL (m.tdiv 1000000)).toArray⟩ := ⟨_, rfl⟩
  have hTl : T.data.toList = dL (m.tdiv 1000000) := by rw [hT]
  obtain ⟨U, hU⟩ : ∃ U, strC 1 (clampI (m.tdiv 1000000 * 1000000)) ⟨#[]⟩ = U := ⟨_, rfl⟩
  have hbk : inK S.data.toList ≠ 1 := by unfold inK; split <;> decide
  have wb : g = true → -4611686018427 ≤ m.tdiv 1000000 ∧ m.tdiv 1000000 ≤ 4611686018427 := fun h => by
    have := hm h; unfold OkN at this
    have e := Int.natAbs_tdiv m 1000000
    have e2 : (m.tdiv 1000000).natAbs ≤ 4611686018427 := by
      rw [e]; show m.natAbs / 1000000 ≤ _; omega
    generalize m.tdiv 1000000 = q at *
    omega
  refine printed_in k n s0 s S T U g (T.toList == U.toList) m (m.tdiv 1000000) (clampI (m.tdiv 1000000 * 1000000)) (inK S.data.toList) (inN S.data.toList) (numC (inK S.data.toList) (inN S.data.toList) S) w (Lib.hid G.1) (Lib.hid fun W G => J.live_any W G) (Lib.hid fun W hb => G.2.next hb) C1 (Lib.hid G1)
    (fun h => Lib.hid fun W a h0 h1 h2 GW => ?_) (fun h => Lib.hid fun W a h0 h1 h2 GW => ?_) (fun h => Lib.hid fun W => ?_) (fun h => Lib.hid fun W GW => ?_) (fun h => Lib.hid fun W => ?_) (fun h => Lib.hid fun W => ?_) (fun h => Lib.hid fun W => ?_) (fun h => Lib.hid fun W GW => ?_) (fun h => Lib.hid fun W => ?_) rfl ?_ ?_
  · have hz := hsz h
    have e := printS (vaC k n s) (by show (strC k n s).data.toList.length ≤ 4000; rw [← hSl]; simp; omega)
    have hv : (vaC k n s).s = S.data.toList := hSl.symm
    rw [hv] at e
    refine (fprint_any ⟨#[37, 115]⟩ S (some ⟨a, 0, none⟩) 1 [⟨k, n, s⟩] W (by decide) (by show 1 ≤ 1000; decide) (by show 1 ≤ 1; decide) (ce_one W a k n s h0 h1 h2) (by intro c hc; simp at hc; rw [hc]; exact ⟨good_okn (hg.1 h), by show s.size ≤ 1000; omega⟩) GW (by show _ = (printL [37, 115] [] [vaC k n s]).1; rw [e])).mono fun e' w' ⟨h1, h2⟩ => ⟨?_, h2⟩
    rw [h1]
    show Ending.returned (.tuple #[.string S, .int .i64 (printL [37, 115] [] [vaC k n s]).2]) = _
    rw [e]
  · have e := printD (vaC k n s) (by show ((numC k n s).tdiv 1000000).natAbs < _; rw [hme]; have := wb h; omega)
    have hv : (vaC k n s).n = m := hme
    rw [hv, ← hTl] at e
    refine (fprint_any ⟨#[37, 100]⟩ T (some ⟨a, 0, none⟩) 1 [⟨k, n, s⟩] W (by decide) (by show 1 ≤ 1000; decide) (by show 1 ≤ 1; decide) (ce_one W a k n s h0 h1 h2) (by intro c hc; simp at hc; rw [hc]; exact ⟨good_okn (hg.1 h), by show s.size ≤ 1000; omega⟩) GW (by show _ = (printL [37, 100] [] [vaC k n s]).1; rw [e])).mono fun e' w' ⟨h1, h2⟩ => ⟨?_, h2⟩
    rw [h1]
    show Ending.returned (.tuple #[.string T, .int .i64 (printL [37, 100] [] [vaC k n s]).2]) = _
    rw [e]
  · have hz := hsz h
    exact input_any S W (by omega)
  · have hz := hsz h
    have := cstr_any k n s W (hone h) (by rw [hS]; omega) GW
    rw [hS] at this; exact this
  · have := cnum_any k n s W (by omega)
    rw [hme] at this; exact this
  · exact whole_any m W (hm h)
  · exact cint_any _ W (by have := wb h; omega)
  · have hk := clamp_ok (m.tdiv 1000000 * 1000000)
    have hz : (strC 1 (clampI (m.tdiv 1000000 * 1000000)) ⟨#[]⟩).size ≤ 100 := strC_size 1 _ ⟨#[]⟩ (by decide) (fun _ => hk) ptext_len
    have := cstr_any 1 (clampI (m.tdiv 1000000 * 1000000)) ⟨#[]⟩ W (fun _ => hk) (by omega) GW
    rw [hU] at this; exact this
  · have hz := hsz h
    exact cnum_any _ _ S W (by omega)
  · intro h hf
    refine Classical.byContradiction fun hw => ?_
    have hk : clampI (m.tdiv 1000000 * 1000000) = m.tdiv 1000000 * 1000000 := clamp_id (by have := wb h; unfold OkN; omega)
    have : T = U := WideShapes.bytes_inj (by
      rw [hTl, dL_text _ hw, ← hU, hk]
      unfold strC
      rw [if_pos rfl])
    rw [this] at hf
    simp at hf
  · rintro h rfl
    have ha := hone h rfl
    have hSt : S.data.toList = textL n := by rw [hSl]; unfold strC; rw [if_pos rfl]
    have hlk := looks_text n ha
    have h3 : inK S.data.toList = 3 := by unfold inK; rw [hSt, hlk]; rfl
    have h4 : inN S.data.toList = n := by unfold inN; rw [hSt, hlk]; rfl
    rw [h3, h4]
    exact ⟨rfl, rfl⟩
end Go.Proofs.YtfelmclcjaggeaaGreatDoor
