/-
  THE WALK of the law LexSigns: whatever the list of numbers, it returns true and writes to nothing that was there.
-/
import Derived.Test.YtfmjajmdkndknaaLxStringsW
import Derived.Test.YtfmjajmdkndknaaLxBlanksW
namespace Go.Proofs.Ytfmjajmdkndknaa
open Go.RowKit

def allS : List (List UInt8) := [[43, 61], [45, 61], [42, 61], [37, 61], [61, 61], [60, 61], [62, 61], [33, 61], [43, 43], [45, 45], [38, 38], [124, 124], [62, 62], [33, 126], [123], [125], [40], [41], [91], [93], [59], [44], [43], [45], [42], [37], [33], [62], [60], [124], [63], [58], [126], [36], [61]]
def isSg (rx : Bool) (l : List UInt8) : Bool := match stepL rx l with
  | .tok k t z => decide (k = 8 ∧ t = l ∧ z = l.length)
  | _ => false
theorem isSg_step {rx : Bool} {l : List UInt8} (h : isSg rx l = true) : stepL rx l = .tok 8 l l.length := by
  unfold isSg at h
  cases hs : stepL rx l with
  | eof => rw [hs] at h; cases h
  | bad o => rw [hs] at h; cases h
  | tok k t z => rw [hs] at h; simp at h; obtain ⟨rfl, rfl, rfl⟩ := h; rfl
theorem allS_ok : ∀ x ∈ allS, isSg true x = true ∧ isSg false x = true ∧ blankL x = 0 ∧ 0 < x.length ∧ x.length ≤ 2 := by decide
theorem allS_step {x : List UInt8} (hx : x ∈ allS) (rx : Bool) : stepL rx x = .tok 8 x x.length := by
  obtain ⟨h1, h2, _⟩ := allS_ok x hx
  cases rx
  · exact isSg_step h2
  · exact isSg_step h1
def sgS (l : List (List UInt8)) : List UInt8 := l.flatMap (fun x => x ++ [32])
def sgT : Nat → List (List UInt8) → List Tok
  | _, [] => []
  | p, x :: l => ⟨8, x, p⟩ :: sgT (p + x.length + 1) l
theorem sgS_snoc (l : List (List UInt8)) (x : List UInt8) : sgS (l ++ [x]) = sgS l ++ (x ++ [32]) := by unfold sgS; simp
theorem sgT_snoc : ∀ (l : List (List UInt8)) (p : Nat) (x : List UInt8), sgT p (l ++ [x]) = sgT p l ++ [⟨8, x, p + (sgS l).length⟩]
  | [], p, x => by simp [sgT, sgS]
  | y :: l, p, x => by
    rw [List.cons_append, sgT, sgT, sgT_snoc l, List.cons_append]
    rw [show p + y.length + 1 + (sgS l).length = p + (sgS (y :: l)).length from by unfold sgS; simp; omega]
theorem sgT_len : ∀ (l : List (List UInt8)) (p : Nat), (sgT p l).length = l.length
  | [], _ => rfl
  | _ :: l, _ => by rw [sgT, List.length_cons, sgT_len l, List.length_cons]
theorem lexF_sg (N : Nat) : ∀ (l : List (List UInt8)) (rx : Bool) (p : Nat), (∀ x ∈ l, x ∈ allS) → (32 :: sgS l).length < N → lexF N rx p (32 :: sgS l) = .ok (sgT (p + 1) l)
  | [], rx, p, _, _ => by
    rw [lexF_eof (by rfl)]; rfl
  | x :: l, rx, p, h, hN => by
    have hx := h x (List.mem_cons_self ..)
    obtain ⟨_, _, h3, h4, _⟩ := allS_ok x hx
    have e : 32 :: sgS (x :: l) = (32 :: x) ++ 32 :: sgS l := by unfold sgS; simp
    have hb : blankL (32 :: x) = 1 := by rw [blank_cons, if_pos (.inl rfl), h3]
    rw [e] at hN ⊢
    have hs : stepL rx ((32 :: x).drop (blankL (32 :: x))) = .tok 8 x x.length := by rw [hb]; exact allS_step hx rx
    rw [lexF_step_app (.inl rfl) hs hN, hb, show (32 :: x).drop (1 + x.length) = [] from List.drop_eq_nil_of_le (by simp; omega), List.nil_append,
      lexF_sg N l _ _ (fun y hy => h y (List.mem_cons_of_mem _ hy)) (by simp at hN ⊢; omega)]
    rfl
theorem lex_sg (l : List (List UInt8)) (h : ∀ x ∈ l, x ∈ allS) : lexL (sgS l) = .ok (sgT 0 l) := by
  cases l with
  | nil => rfl
  | cons x l =>
    have hx := h x (List.mem_cons_self ..)
    obtain ⟨_, _, h3, h4, _⟩ := allS_ok x hx
    have e : sgS (x :: l) = x ++ 32 :: sgS l := by unfold sgS; simp
    unfold lexL
    rw [e]
    have hs : stepL true (x.drop (blankL x)) = .tok 8 x x.length := by rw [h3]; exact allS_step hx true
    rw [lexF_step_app (.inl rfl) hs (Nat.lt_succ_self _), h3, show x.drop (0 + x.length) = [] from List.drop_eq_nil_of_le (by omega), List.nil_append,
      lexF_sg _ l _ _ (fun y hy => h y (List.mem_cons_of_mem _ hy)) (by rw [List.length_append, List.length_cons]; simp; omega)]
    simp [Except.map, sgT]
theorem sgS_len : ∀ (l : List (List UInt8)), (∀ x ∈ l, x ∈ allS) → (sgS l).length ≤ 3 * l.length
  | [], _ => by simp [sgS]
  | x :: l, h => by
    have ih := sgS_len l (fun y hy => h y (List.mem_cons_of_mem _ hy))
    have := (allS_ok x (h x (List.mem_cons_self ..))).2.2.2.2
    have e : sgS (x :: l) = x ++ 32 :: sgS l := by unfold sgS; simp
    rw [e]; simp; omega
/-- The row of signs. -/
def allV : Array Value := (allS.map (fun x => Value.string ⟨x.toArray⟩)).toArray
theorem allV_at {j : Nat} (hj : j < allS.length) : allV[j]? = some (.string ⟨(allS[j]).toArray⟩) := by
  unfold allV
  rw [List.getElem?_toArray, List.getElem?_map, List.getElem?_eq_getElem hj]; rfl
def IntsAt (w : World) (v : Value) (ks : List Int) : Prop :=
  ∃ p c, v = .slice p ks.length c ∧ (ks.length : Int) ≤ 9223372036854775807 ∧ ∀ i (hi : i < ks.length), ∃ a, p = some a ∧ a.block < w.heap.size ∧ w.cell? (a.add i) = some (.int .i64 ks[i])
theorem add_block (a : Addr) (i : Nat) : (a.add i).block = a.block := by unfold Addr.add; split <;> rfl
/-- What the loop has. -/
structure SgR (w : World) (p : Option Addr) (ks : List Int) (l : List (List UInt8)) (S : ByteArray) (v : Value) (wr : World) : Prop where
  all : wr.heap[w.heap.size]? = some (.cells allV 9 (0, 0))
  ins : ∀ i (hi : i < ks.length), ∃ a, p = some a ∧ a.block < w.heap.size ∧ wr.cell? (a.add i) = some (.int .i64 ks[i])
  row : wr.ownsRow (w.heap.size + 1) 36 3 v l.length (tokRow (sgT 0 l))
  mem : ∀ x ∈ l, x ∈ allS
  str : S.data.toList = sgS l
  below : Below w.heap.size w wr
theorem SgR.step {w : World} {p : Option Addr} {ks : List Int} {l : List (List UInt8)} {S : ByteArray} {v : Value} {wr wx : World} (h : SgR w p ks l S v wr) {o : Obj} {v' : Value} (hg : (wr.alloc o).grownBy wx v.ownBlock) {j : Nat} (hj : j < allS.length) (hr : wx.ownsRow (w.heap.size + 1) 36 3 v' (l.length + 1) (tokRow (sgT 0 l) ++ Tok.vals ⟨8, allS[j], S.size⟩)) {S' : ByteArray} (hS : S' = S ++ (⟨(allS[j]).toArray⟩ ++ ⟨#[32]⟩)) :
    SgR w p ks (l ++ [allS[j]]) S' v' wx := by
  have hA : w.heap.size < wr.heap.size := block_lt h.all
  have hb : Below (w.heap.size + 1) wr wx := ((Below.refl (w.heap.size + 1) wr).alloc hA o).grown hg (by simp; omega) (fun g e => (own_base h.row g e).1)
  refine ⟨(hb.block _ (Nat.lt_succ_self _)).trans h.all, ?_, ?_, ?_, ?_, h.below.trans (hb.mono (Nat.le_succ _))⟩
  · intro i hi
    obtain ⟨a, h1, h2, h3⟩ := h.ins i hi
    exact ⟨a, h1, h2, (hb.cell (p := a.add i) (by rw [add_block]; omega)).trans h3⟩
  · rw [sgT_snoc, tokRow_append, List.length_append, Nat.zero_add, ← h.str, ba_sz]
    simpa [tokRow] using hr
  · intro x hx
    rcases List.mem_append.1 hx with hx | hx
    · exact h.mem x hx
    · rw [List.mem_singleton.1 hx]; exact List.getElem_mem hj
  · rw [sgS_snoc, ← h.str, hS]; simp
theorem sgn_new {b : Nat} (w : World) (t : Tok) (hb : w.heap.size = b) : ∀ (j : Nat) (u : Value), t.vals[j]? = some u → (w.alloc (.cells #[.int .i64 t.k, .string ⟨t.t.toArray⟩, .int .i64 t.a] 36)).cell? (Addr.add ⟨b, 0, none⟩ j) = some u := tok_new w t hb
theorem own_tat {w : World} {B g c n : Nat} {l : List Tok} (hn : l.length = n) (h : w.ownsRow B 36 3 (.slice (some ⟨g, 0, none⟩) n c) n (tokRow l)) : TAt w g l := by
  refine ⟨(own_base h g rfl).2, fun i hi => ?_, fun i hi => ?_, fun i hi => ?_⟩
  · rw [h.cellAt (i * 3) (by omega), show i * 3 = i * 3 + 0 from rfl, tokRow_get _ i 0 hi (by omega)]; rfl
  · rw [h.cellAt (i * 3 + 1) (by omega), tokRow_get _ i 1 hi (by omega)]; rfl
  · rw [h.cellAt (i * 3 + 2) (by omega), tokRow_get _ i 2 hi (by omega)]; rfl
set_option maxHeartbeats 8000000 in
set_option maxRecDepth 100000 in
theorem signs_walk (v : Value) (ks : List Int) (w : World) (hv : IntsAt w v ks) :
    Calls Try.prog 8 #[v] w fun e w' => e = .returned (.bool true) ∧ Below w.heap.size w w' := by
  obtain ⟨p, c, rfl, hkl, hks⟩ := hv
  have AW := Lib.hid fun W => awake_any W
  have hB2 : Below w.heap.size w ((w.alloc (.cells allV 9)).alloc (.cells #[] 36)) := ((Below.refl _ w).alloc (Nat.le_refl _) _).alloc (by simp) _
  have H0 : Hid (SgR w p ks [] ⟨#[]⟩ (.slice (some ⟨w.heap.size + 1, 0, none⟩) 0 0) ((w.alloc (.cells allV 9)).alloc (.cells #[] 36))) := Lib.hid
    ⟨by rw [((Below.refl (w.heap.size + 1) (w.alloc (.cells allV 9))).alloc (by simp) _).block _ (Nat.lt_succ_self _)]; exact heap_alloc_new w _,
     fun i hi => by
      obtain ⟨a, h1, h2, h3⟩ := hks i hi
      exact ⟨a, h1, h2, (hB2.cell (p := a.add i) (by rw [add_block]; omega)).trans h3⟩,
     by
      have := World.ownsRow_made (w.alloc (.cells allV 9)) #[] 0 (base := w.heap.size + 1) (e := 36) (size := 3) (by simp) (by decide) rfl
      simpa [tokRow, sgT] using this,
     by simp, by simp [sgS], hB2⟩
  obtain ⟨i0, hi, hz0, hz1, hz2⟩ := info_parts Try.infoTok
  go_enter Try.func8, Try.ntmps8
  go_wp2_with fail
  change Code.wp _ _ _ _ ((w.alloc (.cells allV 9)).alloc (.cells #[] 36))
  generalize (w.alloc (.cells allV 9)).alloc (.cells #[] 36) = W0 at *
  go_loopw [4, 5, 6] (fun sv tv iv wr => ∃ (k : Nat) (l : List (List UInt8)) (S : ByteArray), k ≤ ks.length ∧ k ≤ 40 ∧ l.length ≤ k ∧ sv = .string S ∧ iv = .int .i64 k ∧ Hid (SgR w p ks l S tv wr)) (fun _ _ iv _ => 40 - (intOf iv).toNat)
  case atStart => exact ⟨0, [], ⟨#[]⟩, Nat.zero_le _, Nat.zero_le _, Nat.le_refl _, rfl, rfl, H0⟩
  case round =>
    obtain ⟨k, l, S, hk, hk40, hlk, rfl, rfl, HX⟩ := hrel
    by_cases hc : k < ks.length ∧ k < 40
    · obtain ⟨hc1, hc2⟩ := hc
      obtain ⟨a, rfl, ha, ca⟩ := HX.out.ins k hc1
      have hc2' : (k : Int) < 40 := by omega
      obtain ⟨x, hx⟩ : ∃ x, ks[k] = x := ⟨_, rfl⟩
      rw [hx] at ca
      have HKX := Lib.hid hx
      clear hx
      rcases (show x < 0 ∨ 35 ≤ x ∨ (0 ≤ x ∧ x < 35) from by omega) with h1 | h1 | ⟨h1, h2⟩
      · go_wp2_with fail
        go_roundw
        case rel => exact ⟨k + 1, l, S, by omega, by omega, by omega, rfl, by go_num, HX⟩
        case measure => simp [intOf]; omega
      · have n1 : ¬ x < 0 := by omega
        go_wp2_with fail
        go_roundw
        case rel => exact ⟨k + 1, l, S, by omega, by omega, by omega, rfl, by go_num, HX⟩
        case measure => simp [intOf]; omega
      · obtain ⟨j, rfl⟩ : ∃ j : Nat, x = j := ⟨x.toNat, by omega⟩
        have hj : j < allS.length := by show j < 35; omega
        have n1 : ¬ (j : Int) < 0 := by omega
        have n2 : ¬ (35 : Int) ≤ (j : Int) := by omega
        have cs : wr.cell? ⟨w.heap.size, j, none⟩ = some (.string ⟨(allS[j]).toArray⟩) := (block_cell HX.out.all).trans (allV_at hj)
        have hsz : S.size ≤ 120 := by
          have := sgS_len l HX.out.mem
          rw [← HX.out.str, ba_sz] at this; omega
        have hsg : (⟨(allS[j]).toArray⟩ : ByteArray).size ≤ 2 := by
          rw [← ba_sz]; simpa using (allS_ok _ (List.getElem_mem hj)).2.2.2.2
        have NEW := Lib.hid (tok_new wr ⟨8, allS[j], S.size⟩ rfl)
        have STEP := Lib.hid (fun o wx v' hg hr => HX.out.step (o := o) (wx := wx) (v' := v') hg hj hr rfl)
        have VALS : ∀ sj : ByteArray, (⟨(allS[j]).toArray⟩ : ByteArray) = sj → Tok.vals ⟨8, allS[j], S.size⟩ = [.int .i64 8, .string sj, .int .i64 S.size] := fun sj h => by unfold Tok.vals; rw [h]; rfl
        generalize hsj : (⟨(allS[j]).toArray⟩ : ByteArray) = sj at *
        have VL := Lib.hid (VALS sj rfl)
        clear VALS hsj
        go_wp2_with (at_builtin; refine wpList_append_own _ rfl (.tmp 37) (.tmp 48) 23 rfl (w.heap.size + 1) 36 i0 (.agg #[.int .i64 0, .string ⟨#[]⟩, .int .i64 0]) 3 32 Try.underlying23 hi hz0 hz1 hz2 rfl (by decide) _ l.length (tokRow (sgT 0 l)) rfl (HX.out.row.alloc _) ⟨wr.heap.size, 0, none⟩ 1 1 [.int .i64 8, .string sj, .int .i64 S.size] rfl rfl ?c1 ?c2 ?c3 ?c4 ?c5 ?_)
        case c2 => simp [Value.oneCell']
        case c3 => unfold maxLen; omega
        case c4 => omega
        case c5 => have := HX.out.below.size; have := block_lt HX.out.all; simp; omega
        intro v9 w9 hown9 hgrow9 _
        have HS9 := Lib.hid (STEP.out _ _ _ hgrow9 (by rw [VL.out]; exact hown9))
        obtain ⟨a9, ea, _, ca9⟩ := HS9.out.ins k hc1
        cases ea
        rw [HKX.out] at ca9
        have cs9 : w9.cell? ⟨w.heap.size, j, none⟩ = some (.string sj) := by
          have h := (block_cell HS9.out.all (i := j)).trans (allV_at hj)
          rw [h]
          have h2 := VL.out
          unfold Tok.vals at h2
          simp only [List.cons.injEq] at h2
          exact congrArg some h2.2.1
        clear HX STEP NEW VL hown9 hgrow9 cs ca
        go_wp2_with fail
        go_roundw
        case rel => exact ⟨k + 1, l ++ [allS[j]], S ++ (sj ++ ⟨#[32]⟩), by omega, by omega, by simp; omega, rfl, by go_num, HS9⟩
        case measure => simp [intOf]; omega
    · have hsz : S.size ≤ 120 := by
        have := sgS_len l HX.out.mem
        rw [← HX.out.str, ba_sz] at this; omega
      have C2 := Lib.hid fun W => lex_ok S (sgT 0 l) W (by omega) (by rw [HX.out.str]; exact lex_sg l HX.out.mem)
      have hTl := sgT_len l 0
      have hrow := HX.out.row
      have HB := Lib.hid HX.out.below
      have hnc : ¬ (k < ks.length ∧ k < 40) := hc
      have hck : (decide ((k : Int) < (ks.length : Int)) && decide ((k : Int) < 40)) = false := by
        rw [Bool.and_eq_false_iff]
        by_cases h : k < ks.length
        · exact .inr (decide_eq_false (by omega))
        · exact .inl (decide_eq_false (by omega))
      rcases hrow.2 with ⟨rfl, h0⟩ | ⟨g, cap, cur, rfl, hr2⟩
      · obtain rfl : l = [] := List.eq_nil_of_length_eq_zero h0
        have hT0 : sgT 0 [] = [] := rfl
        rw [hT0] at C2
        clear hrow HX hTl hT0
        rcases (show (k : Int) < (ks.length : Int) ∧ ¬ (k : Int) < 40 ∨ ¬ (k : Int) < (ks.length : Int) from by omega) with ⟨q1, q2⟩ | q1
        all_goals
          go_wp2_with fail
          refine (C2.out _).mono ?_
          rintro e w2 ⟨g2, c2, rfl, -, hb2⟩
          have HB3 := Lib.hid (HB.out.trans (hb2.mono HB.out.size))
          clear hb2 HB
          go_wp2_with fail
          go_loopw [78] (fun iv wx => iv = .int .i64 0 ∧ Hid (Below w.heap.size w wx)) (fun iv _ => 0)
          case atStart => exact ⟨by first | rfl | trivial, HB3⟩
          case round =>
            obtain ⟨rfl, HB3⟩ := hrel
            go_wp2_with fail
            refine (AW.out _).mono ?_
            rintro e w4 ⟨rfl, hb4⟩
            have HB4 := Lib.hid (HB3.out.trans (hb4.mono HB3.out.size))
            clear hb4 HB3
            go_wp2_with fail
            go_ret
            exact ⟨rfl, HB4.out⟩
      · have HT := Lib.hid (own_tat hTl hrow)
        clear hrow hr2 HX
        rcases (show (k : Int) < (ks.length : Int) ∧ ¬ (k : Int) < 40 ∨ ¬ (k : Int) < (ks.length : Int) from by omega) with ⟨q1, q2⟩ | q1
        all_goals
          go_wp2_with fail
          refine (C2.out _).mono ?_
          rintro e w2 ⟨g2, c2, rfl, t2, hb2⟩
          rw [hTl]
          have HI2 := Lib.hid (And.intro (HT.out.below hb2 (Nat.le_refl _)) (And.intro t2 (HB.out.trans (hb2.mono HB.out.size))))
          clear hb2 HB t2 HT
          go_wp2_with fail
          go_loopw [78] (fun iv wx => ∃ i : Nat, i ≤ l.length ∧ iv = .int .i64 i ∧ Hid (TAt wx g (sgT 0 l) ∧ TAt wx g2 (sgT 0 l ++ [endT S.size]) ∧ Below w.heap.size w wx)) (fun iv _ => l.length - (intOf iv).toNat)
          case atStart => exact ⟨0, Nat.zero_le _, by first | rfl | trivial, HI2⟩
          case round =>
            obtain ⟨i, hi, rfl, HY⟩ := hrel
            by_cases hil : i < l.length
            · have hit : i < (sgT 0 l).length := by omega
              obtain ⟨d0, d1, d2⟩ := HY.out.2.1.tok i hit
              have e0 := HY.out.1.k i hit
              have e1 := HY.out.1.t i hit
              have e2 := HY.out.1.a i hit
              generalize (((sgT 0 l)[i]'hit).k : Int) = kk at *
              generalize (((sgT 0 l)[i]'hit).a : Int) = aa at *
              generalize (⟨((sgT 0 l)[i]'hit).t.toArray⟩ : ByteArray) = tt at *
              go_wp2_with fail
              go_quiet (fail)
              go_wp2_with fail
              go_roundw
              case rel => exact ⟨i + 1, by omega, by go_num, Lib.hid ⟨HY.out.1.drewN _, HY.out.2.1.drewN _, HY.out.2.2.trans ⟨rfl, rfl, rfl, Nat.le_refl _, fun _ _ => rfl⟩⟩⟩
              case measure => simp [intOf]; omega
            · obtain rfl : i = l.length := by omega
              have HB3 := Lib.hid HY.out.2.2
              clear HY HI2
              go_wp2_with fail
              refine (AW.out _).mono ?_
              rintro e w4 ⟨rfl, hb4⟩
              have HB4 := Lib.hid (HB3.out.trans (hb4.mono HB3.out.size))
              clear hb4 HB3
              go_wp2_with fail
              go_ret
              exact ⟨rfl, HB4.out⟩
end Go.Proofs.Ytfmjajmdkndknaa
