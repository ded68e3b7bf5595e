/-
  CONTRACT of layer 9's print: a text with a tree's behind it.
-/
import Derived.Test.YtpcnlojlfbgaoaaRgH
import Derived.WalkMore
import Derived.ScopeJumps
import Derived.Deep.RegionHeld3
import Derived.Lib.MinMax
namespace Go.Proofs.Ytpcnlojlfbgaoaa
open Go.RowKit

theorem RowR.start {base n : Nat} {L : List UInt8} {v : Value} {w : World} (h : w.ownsRow base 5 1 v n (Lib.byteCells L)) : RowR base v.ownBlock w n L v w :=
  ⟨h, Grw.refl _ _, .inl rfl⟩
theorem RowR.below {base n : Nat} {row : Option Nat} {L : List UInt8} {v : Value} {u w w1 : World} (h : RowR base row u n L v w) (hb : Below w.heap.size w w1) : RowR base row u n L v w1 :=
  ⟨rg_own_kept h.own (fun g hg => hb.block g (rg_own_base h.own g hg).2), h.grw.below hb, h.blk⟩
/-- Two rows' growings one behind the other. -/
theorem RowR.next {base n n' : Nat} {row : Option Nat} {L L' : List UInt8} {v v' : Value} {u w w1 w' : World} (h : RowR base row u n L v w) (hb : Below w.heap.size w w1) (h2 : RowR base v.ownBlock w1 n' L' v' w') : RowR base row u n' L' v' w' := by
  have h1 := h.grw.below hb
  refine ⟨h2.own, h1.trans h2.grw h.blk, ?_⟩
  rcases h2.blk with e | e
  · rw [e]; exact h.blk
  · have := h1.size
    exact .inr fun k hk => Nat.le_trans this (e k hk)
theorem Grw.lt {r : Option Nat} {u w : World} (h : Grw r u w) {k : Nat} (hk : k < u.heap.size) : k < w.heap.size := Nat.lt_of_lt_of_le hk h.size
theorem BlkN.grw {r : Option Nat} {u w : World} {g : Nat} {a : Nd} (hb : BlkN u g a) (h : Grw r u w) (hr : r ≠ some g) : BlkN w g a := (h.block g hb.lt hr).trans hb
theorem TreesN.grw {r : Option Nat} {u w : World} {B : Nat → Prop} {ks : List RT} {nds : List Nd} (h : TreesN u B ks nds) (hg : Grw r u w) (hB : ∀ g, B g → r ≠ some g) : TreesN w (fun g => g < u.heap.size ∧ B g) ks nds :=
  TreesN.kept (fun g hb hl => hg.block g hl (hB g hb)) (fun _ hb hl => ⟨hl, hb⟩) ks nds h
theorem TreesN.get {w : World} {B : Nat → Prop} : ∀ {ks : List RT} {nds : List Nd}, TreesN w B ks nds → ∀ (k : Nat) (t : RT), ks[k]? = some t → ∃ x : Nd, nds[k]? = some x ∧ TreeN w B t x
  | [], _, _, k, t, hk => by simp at hk
  | a :: l, nds, h, k, t, hk => by
    unfold TreesN at h
    obtain ⟨nd, rest, rfl, h2, h3⟩ := h
    cases k with
    | zero =>
      obtain rfl : a = t := by simpa using hk
      exact ⟨nd, rfl, h2⟩
    | succ k =>
      obtain ⟨x, hx⟩ := h3.get k t (by simpa using hk)
      exact ⟨x, by simpa using hx.1, hx.2⟩
theorem kid_all {w : World} {g c n : Nat} {nds : List Nd} (h : w.ownsRow 0 28 6 (.slice (some ⟨g, 0, none⟩) n c) n (ndRow nds)) (hn : nds.length = n) (k : Nat) (hk : k < n) (x : Nd) (hx : nds[k]? = some x) :
    w.cell? ⟨g, k * 6, none⟩ = some (.int .i64 x.op) ∧ w.cell? ⟨g, k * 6 + 1, none⟩ = some (.int .u64 x.set.a) ∧ w.cell? ⟨g, k * 6 + 2, none⟩ = some (.int .u64 x.set.b) ∧ w.cell? ⟨g, k * 6 + 3, none⟩ = some (.int .u64 x.set.c) ∧ w.cell? ⟨g, k * 6 + 4, none⟩ = some (.int .u64 x.set.d) ∧ w.cell? ⟨g, k * 6 + 5, none⟩ = some (.slice x.kp x.kn x.kc) := by
  have hl : k < nds.length := by omega
  have he : nds[k] = x := by rw [List.getElem?_eq_getElem hl] at hx; exact Option.some.inj hx
  have q : ∀ j, j < 6 → w.cell? ⟨g, k * 6 + j, none⟩ = x.vals[j]? := fun j hj => by
    rw [h.cellAt (k * 6 + j) (by omega), ndRow_get _ k j hl hj, he]
  exact ⟨q 0 (by omega), q 1 (by omega), q 2 (by omega), q 3 (by omega), q 4 (by omega), q 5 (by omega)⟩
abbrev signS : ByteArray := { data := #[101, 49, 38, 124, 42, 43, 63, 94, 36] }
def signG (op : Nat) : UInt8 := signS.data.toList.getD (min op 8) 0
def wordsL : List Int → List UInt8
  | [] => []
  | x :: l => hexD x ++ wordsL l
def hex4 (st : W4) : List UInt8 := wordsL [st.a, st.b, st.c, st.d]
def setL (op : Nat) (st : W4) : List UInt8 := if op = 1 then hex4 st else []
mutual
/-- A tree as a text. -/
def printL : RT → List UInt8
  | .mk op st ks => signG op :: (setL op st ++ kidsL ks)
def kidsL : List RT → List UInt8
  | [] => []
  | t :: ts => 40 :: (printL t ++ 41 :: kidsL ts)
end
theorem printL_eq (op : Nat) (st : W4) (ks : List RT) : printL (.mk op st ks) = signG op :: (setL op st ++ kidsL ks) := by rw [printL]
theorem kidsL_append : ∀ a b : List RT, kidsL (a ++ b) = kidsL a ++ kidsL b
  | [], b => by rw [kidsL]; rfl
  | t :: ts, b => by
    show kidsL (t :: (ts ++ b)) = _
    rw [kidsL, kidsL, kidsL_append ts b]
    simp
theorem kidsL_one (t : RT) : kidsL [t] = 40 :: (printL t ++ [41]) := by rw [kidsL, kidsL]
theorem kidsL_snoc (ks : List RT) (k : Nat) (t : RT) (h : ks[k]? = some t) : kidsL (ks.take (k + 1)) = kidsL (ks.take k) ++ 40 :: (printL t ++ [41]) := by
  rw [List.take_add_one, h, kidsL_append]
  show kidsL (ks.take k) ++ kidsL [t] = _
  rw [kidsL_one]
theorem kidsL_le (ks : List RT) (k : Nat) : (kidsL (ks.take k)).length ≤ (kidsL ks).length := by
  have := congrArg List.length (kidsL_append (ks.take k) (ks.drop k))
  rw [List.take_append_drop, List.length_append] at this
  omega
theorem kidsL_ge : ∀ ks : List RT, ks.length ≤ (kidsL ks).length
  | [] => Nat.zero_le _
  | t :: ts => by
    have := kidsL_ge ts
    rw [kidsL]
    simp
    omega
theorem hexD_len (x : Int) : (hexD x).length = 16 := by simp [hexD]
theorem signG_at (op : Nat) (k : Nat) (hk : k = min op 8) (hz : k < signS.size) : signS[k] = signG op := by
  subst hk
  unfold signG
  rw [List.getD_eq_getElem?_getD, rg_at signS _ hz]
  rfl
/-- A word of a set, by its number. -/
theorem run_idx4 (a b c d : Int) (w : World) : (Instr.index 25 (.agg #[.int .u64 a, .int .u64 b, .int .u64 c, .int .u64 d]) (.int .i64 0)).run Try.prog w = .ok (.int .u64 a) w ∧ (Instr.index 25 (.agg #[.int .u64 a, .int .u64 b, .int .u64 c, .int .u64 d]) (.int .i64 1)).run Try.prog w = .ok (.int .u64 b) w ∧ (Instr.index 25 (.agg #[.int .u64 a, .int .u64 b, .int .u64 c, .int .u64 d]) (.int .i64 2)).run Try.prog w = .ok (.int .u64 c) w ∧ (Instr.index 25 (.agg #[.int .u64 a, .int .u64 b, .int .u64 c, .int .u64 d]) (.int .i64 3)).run Try.prog w = .ok (.int .u64 d) w := by
  have hu : Try.prog.underlying 25 = some (.array 4 23) := by kernel_rfl
  have h0 : (Try.prog.info? 23).map (fun i => i.size) = some 1 := by kernel_rfl
  obtain ⟨i, hi, hs⟩ : ∃ i, Try.prog.info? 23 = some i ∧ i.size = 1 := by
    cases h : Try.prog.info? 23 with
    | none => rw [h] at h0; cases h0
    | some i => rw [h] at h0; exact ⟨i, rfl, by simpa using h0⟩
  have hu2 : Try.prog.underlying 23 = some (.int .u64) := by kernel_rfl
  refine ⟨?_, ?_, ?_, ?_⟩ <;> simp [Instr.index, run_underlying hu, sizeOf, typeInfo, hi, hs, part, isAgg, run_underlying hu2, asIntOf, go_sem]
/-- What print does to a tree. -/
def PrOk (t : RT) : Prop := ∀ (nd : Nd) (base n : Nat) (L : List UInt8) (p : Option Addr) (c : Nat) (w : World) (B : Nat → Prop), TreeN w B t nd → (∀ g, B g → (Value.slice p n c).ownBlock ≠ some g) → n + (printL t).length ≤ 1000000 → w.ownsRow base 5 1 (.slice p n c) n (Lib.byteCells L) → base ≤ w.heap.size →
    Calls Try.prog 14 #[nd.val, .slice p n c] w (rowPost base (n + (printL t).length) (L ++ printL t) (Value.slice p n c).ownBlock w)
set_option maxHeartbeats 4000000 in
theorem rprint_one (op : Nat) (st : W4) (ks : List RT) (ih : ∀ t, t ∈ ks → PrOk t) : PrOk (.mk op st ks) := by
  intro nd base n L p c w B ht hB hn ho hb
  obtain ⟨i0, hi, hz0, hz1, hz2⟩ := info_parts Try.infoB
  obtain ⟨ndop, ⟨sa, sb, sc, sd⟩, kp, kn, kc⟩ := nd
  unfold TreeN at ht
  obtain ⟨rfl, rfl, nds, h3, h4, h5⟩ := ht
  obtain ⟨_, _, ekn, _⟩ := rg_own_form h3
  obtain rfl : kn = ks.length := by simp only [Nd.kids, Value.slice.injEq] at ekn; exact ekn.2.1
  clear ekn
  rw [printL_eq] at hn ⊢
  obtain ⟨b1, hb1⟩ : ∃ b1, signG op = b1 := ⟨_, rfl⟩
  rw [hb1] at hn ⊢
  obtain ⟨m, hm⟩ : ∃ m : Nat, m = min op 8 := ⟨_, rfl⟩
  have hmz : m < signS.size := by show m < 9; omega
  have hsg := signG_at op m hm hmz
  rw [hb1] at hsg
  have hmx : max (op : Int) 0 = (op : Int) := by omega
  have hmn : min (op : Int) 8 = (m : Int) := by omega
  have hnl : n + 1 + (setL op ⟨sa, sb, sc, sd⟩).length + (kidsL ks).length ≤ 1000000 := by simp at hn; omega
  have hn1 : n ≤ 999999 := by omega
  have hkb : ks.length ≤ 1000000 := by have := kidsL_ge ks; omega
  have HN := Lib.hid hnl
  have HB := Lib.hid hB
  have HBS := Lib.hid hb
  obtain ⟨bx, hbx⟩ : ∃ bx : Obj, (.cells #[.int .i64 op, .int .u64 sa, .int .u64 sb, .int .u64 sc, .int .u64 sd, .slice kp ks.length kc] 28) = bx := ⟨_, rfl⟩
  have hBel : Below w.heap.size w (w.alloc bx) := (Below.refl _ _).alloc (Nat.le_refl _) _
  have hu0 := RowR.start ho
  have HU := Lib.hid (RowR.start (ho.alloc bx))
  obtain ⟨row, hrow⟩ : ∃ row, (Value.slice p n c).ownBlock = row := ⟨_, rfl⟩
  rw [hrow] at hu0 ⊢
  have hrb : row ≠ some w.heap.size := fun e => by
    have := (rg_own_base ho w.heap.size (hrow.trans e)).2
    omega
  have HEND : Hid (∀ n' L' v' w', RowR base row (w.alloc bx) n' L' v' w' → RowR base row w n' L' v' w') := Lib.hid fun n' L' v' w' hh => hu0.next hBel (by rw [hrow]; exact hh)
  have HBX : Hid (∀ W, Grw row (w.alloc bx) W → BlkN W w.heap.size ⟨op, ⟨sa, sb, sc, sd⟩, kp, ks.length, kc⟩) := Lib.hid fun W hW => BlkN.grw (u := w.alloc bx) (by subst hbx; exact heap_alloc_new w _) hW hrb
  have HKID : Hid (∀ W, Grw row (w.alloc bx) W → W.ownsRow 0 28 6 (.slice kp ks.length kc) ks.length (ndRow nds) ∧ TreesN W (fun g => g < w.heap.size ∧ row ≠ some g) ks nds) := Lib.hid fun W hW => by
    have hw : Grw row w W := ((Grw.refl row w).alloc bx).trans hW (.inl rfl)
    refine ⟨rg_own_kept h3 (fun g hg => hw.block g (rg_own_base h3 g hg).2 ?_), ?_⟩
    · rw [← hrow]; exact hB g (h4 g hg)
    · exact TreesN.kept (fun g hb2 hl => hw.block g hl (by rw [← hrow]; exact hB g hb2)) (fun g hb2 hl => ⟨hl, by rw [← hrow]; exact hB g hb2⟩) ks nds h5
  have HNL := Lib.hid h5.len
  have HROW := Lib.hid hrow
  have HIH := Lib.hid ih
  have HUB : Hid (base ≤ (w.alloc bx).heap.size) := Lib.hid (by simp; omega)
  clear hn hB hb h5 h4 h3 ho hm hb1 hnl hu0 hrow hBel hrb ih
  subst hbx
  go_enter Try.func14, Try.ntmps14
  simp only [Nd.val]
  go_wp2_with (at_builtin; refine wpList_append_own_at _ rfl (.tmp 9) (.tmp 15) 49 rfl base 5 i0 (.int .u8 0) 1 1 Try.underlying49 hi hz0 hz1 hz2 rfl (by decide) (.slice p n c) n (Lib.byteCells L) rfl (HU.out.own.alloc _) ⟨w.heap.size + 1, 0, none⟩ 1 1 [.int .u8 (b1.toNat : Int)] rfl rfl ?c1 ?c2 ?c3 ?c4 ?c5 ?_)
  case c1 =>
    have := cell_one_new (w.alloc (.cells #[.int .i64 op, .int .u64 sa, .int .u64 sb, .int .u64 sc, .int .u64 sd, .slice kp ks.length kc] 28)) (.int .u8 (b1.toNat : Int)) 5
    simpa using this
  case c2 => simp [Value.oneCell']
  case c3 => unfold maxLen; omega
  case c4 => omega
  case c5 => have := HUB.out; simp at this ⊢; omega
  intro v1 w1 hown1 hgrow1 _ hat1
  obtain ⟨g1, c1, rfl, hc1⟩ := rg_own_succ hown1
  have hR1 := HU.out.step hown1 hgrow1 (by simpa using hat1)
  rw [HROW.out] at hR1
  obtain ⟨x0, x1, x2, x3, x4, x5, _, _, _, _, _, _⟩ := (HBX.out w1 hR1.grw).cells
  have HR := Lib.hid hR1
  clear hown1 hgrow1 hat1 hR1 HU
  by_cases hop : op = 1
  · have hopi : (op : Int) = 1 := by omega
    have hop3 : ((op : Int) == 1) = true := by simpa using hopi
    clear hopi
    have HSL : Hid (setL op ⟨sa, sb, sc, sd⟩ = wordsL [sa, sb, sc, sd]) := Lib.hid (by unfold setL; rw [if_pos hop]; rfl)
    have hwl : (wordsL [sa, sb, sc, sd]).length = 64 := by simp [wordsL, hexD_len]
    have HN2 : Hid (n + 65 + (kidsL ks).length ≤ 1000000) := Lib.hid (by have := HN.out; rw [HSL.out, hwl] at this; omega)
    have HSL1 : Hid (setL 1 ⟨sa, sb, sc, sd⟩ = wordsL [sa, sb, sc, sd]) := Lib.hid (by unfold setL; rw [if_pos rfl]; rfl)
    clear hwl
    go_wp2_with fail
    go_loopw [1, 22] (fun ov iv wr => ∃ (k : Nat) (p' : Option Addr) (c' : Nat), k ≤ 4 ∧ ov = .slice p' (n + 1 + 16 * k) c' ∧ iv = .int .i64 (k : Int) ∧ Hid (RowR base row (w.alloc (.cells #[.int .i64 op, .int .u64 sa, .int .u64 sb, .int .u64 sc, .int .u64 sd, .slice kp ks.length kc] 28)) (n + 1 + 16 * k) (L ++ [b1] ++ wordsL ([sa, sb, sc, sd].take k)) (.slice p' (n + 1 + 16 * k) c') wr)) (fun _ iv _ => 4 - (intOf iv).toNat)
    case atStart => exact ⟨0, _, _, Nat.zero_le _, rfl, rfl, Lib.hid (by simpa [wordsL] using HR.out)⟩
    case round =>
      obtain ⟨k, p', c', hk, rfl, rfl, HO⟩ := hrel
      clear HR x0 x1 x2 x3 x4 x5
      obtain rfl | rfl | rfl | rfl | rfl : k = 0 ∨ k = 1 ∨ k = 2 ∨ k = 3 ∨ k = 4 := by omega

      · have HW : Hid (Calls Try.prog 21 #[.slice p' (n + 1 + 0) c', .int .u64 sa] wr (rowPost base (n + 1 + 0 + 16) (L ++ [b1] ++ wordsL [] ++ hexD sa) row (w.alloc (.cells #[.int .i64 op, .int .u64 sa, .int .u64 sb, .int .u64 sc, .int .u64 sd, .slice kp ks.length kc] 28)))) := Lib.hid (rhexd_any base (n + 1 + 0) (L ++ [b1] ++ wordsL []) row p' c' sa (w.alloc (.cells #[.int .i64 op, .int .u64 sa, .int .u64 sb, .int .u64 sc, .int .u64 sd, .slice kp ks.length kc] 28)) wr (by have := HN2.out; omega) HO.out HUB.out)
        obtain ⟨j0, j1, j2, j3⟩ := run_idx4 sa sb sc sd wr
        go_wp2_with (with_reducible refine (HW.out).mono ?_)
        rintro e w3 ⟨p3, c3, rfl, hR3⟩
        have HR3 := Lib.hid hR3
        clear hR3 HW HO
        go_wp2_with fail
        go_round
        case measure => simp [intOf]
        case rel =>
          refine ⟨1, p3, c3, by omega, rfl, by simp, Lib.hid ?_⟩
          have := HR3.out
          simpa [wordsL] using this
      · have HW : Hid (Calls Try.prog 21 #[.slice p' (n + 1 + 16) c', .int .u64 sb] wr (rowPost base (n + 1 + 16 + 16) (L ++ [b1] ++ wordsL [sa] ++ hexD sb) row (w.alloc (.cells #[.int .i64 op, .int .u64 sa, .int .u64 sb, .int .u64 sc, .int .u64 sd, .slice kp ks.length kc] 28)))) := Lib.hid (rhexd_any base (n + 1 + 16) (L ++ [b1] ++ wordsL [sa]) row p' c' sb (w.alloc (.cells #[.int .i64 op, .int .u64 sa, .int .u64 sb, .int .u64 sc, .int .u64 sd, .slice kp ks.length kc] 28)) wr (by have := HN2.out; omega) HO.out HUB.out)
        obtain ⟨j0, j1, j2, j3⟩ := run_idx4 sa sb sc sd wr
        go_wp2_with (with_reducible refine (HW.out).mono ?_)
        rintro e w3 ⟨p3, c3, rfl, hR3⟩
        have HR3 := Lib.hid hR3
        clear hR3 HW HO
        go_wp2_with fail
        go_round
        case measure => simp [intOf]
        case rel =>
          refine ⟨2, p3, c3, by omega, rfl, by simp, Lib.hid ?_⟩
          have := HR3.out
          simpa [wordsL] using this
      · have HW : Hid (Calls Try.prog 21 #[.slice p' (n + 1 + 32) c', .int .u64 sc] wr (rowPost base (n + 1 + 32 + 16) (L ++ [b1] ++ wordsL [sa, sb] ++ hexD sc) row (w.alloc (.cells #[.int .i64 op, .int .u64 sa, .int .u64 sb, .int .u64 sc, .int .u64 sd, .slice kp ks.length kc] 28)))) := Lib.hid (rhexd_any base (n + 1 + 32) (L ++ [b1] ++ wordsL [sa, sb]) row p' c' sc (w.alloc (.cells #[.int .i64 op, .int .u64 sa, .int .u64 sb, .int .u64 sc, .int .u64 sd, .slice kp ks.length kc] 28)) wr (by have := HN2.out; omega) HO.out HUB.out)
        obtain ⟨j0, j1, j2, j3⟩ := run_idx4 sa sb sc sd wr
        go_wp2_with (with_reducible refine (HW.out).mono ?_)
        rintro e w3 ⟨p3, c3, rfl, hR3⟩
        have HR3 := Lib.hid hR3
        clear hR3 HW HO
        go_wp2_with fail
        go_round
        case measure => simp [intOf]
        case rel =>
          refine ⟨3, p3, c3, by omega, rfl, by simp, Lib.hid ?_⟩
          have := HR3.out
          simpa [wordsL] using this
      · have HW : Hid (Calls Try.prog 21 #[.slice p' (n + 1 + 48) c', .int .u64 sd] wr (rowPost base (n + 1 + 48 + 16) (L ++ [b1] ++ wordsL [sa, sb, sc] ++ hexD sd) row (w.alloc (.cells #[.int .i64 op, .int .u64 sa, .int .u64 sb, .int .u64 sc, .int .u64 sd, .slice kp ks.length kc] 28)))) := Lib.hid (rhexd_any base (n + 1 + 48) (L ++ [b1] ++ wordsL [sa, sb, sc]) row p' c' sd (w.alloc (.cells #[.int .i64 op, .int .u64 sa, .int .u64 sb, .int .u64 sc, .int .u64 sd, .slice kp ks.length kc] 28)) wr (by have := HN2.out; omega) HO.out HUB.out)
        obtain ⟨j0, j1, j2, j3⟩ := run_idx4 sa sb sc sd wr
        go_wp2_with (with_reducible refine (HW.out).mono ?_)
        rintro e w3 ⟨p3, c3, rfl, hR3⟩
        have HR3 := Lib.hid hR3
        clear hR3 HW HO
        go_wp2_with fail
        go_round
        case measure => simp [intOf]
        case rel =>
          refine ⟨4, p3, c3, by omega, rfl, by simp, Lib.hid ?_⟩
          have := HR3.out
          simpa [wordsL] using this
      · obtain ⟨x0, x1, x2, x3, x4, x5, _, _, _, _, _, _⟩ := (HBX.out wr HO.out.grw).cells
        simp only at x0 x1 x2 x3 x4 x5
        have HR : Hid (RowR base row (w.alloc (.cells #[.int .i64 op, .int .u64 sa, .int .u64 sb, .int .u64 sc, .int .u64 sd, .slice kp ks.length kc] 28)) (n + 65) (L ++ [b1] ++ wordsL [sa, sb, sc, sd]) (.slice p' (n + 65) c') wr) := Lib.hid HO.out
        clear HO
        go_wp2_with fail
        go_loopw [1, 32] (fun ov iv wr => ∃ (k m : Nat) (p' : Option Addr) (c' : Nat), k ≤ ks.length ∧ ov = .slice p' m c' ∧ iv = .int .i64 (k : Int) ∧ Hid (m = (n + 65) + (kidsL (ks.take k)).length) ∧ Hid (RowR base row (w.alloc (.cells #[.int .i64 op, .int .u64 sa, .int .u64 sb, .int .u64 sc, .int .u64 sd, .slice kp ks.length kc] 28)) m ((L ++ [b1] ++ wordsL [sa, sb, sc, sd]) ++ kidsL (ks.take k)) (.slice p' m c') wr)) (fun _ iv _ => ks.length - (intOf iv).toNat)
        case atStart => exact ⟨0, _, _, _, Nat.zero_le _, rfl, rfl, Lib.hid (by simp [kidsL]), Lib.hid (by simpa [kidsL] using HR.out)⟩
        case round =>
          obtain ⟨k, m, p', c', hk, rfl, rfl, HM, HO⟩ := hrel
          clear HR
          by_cases hlt : k < ks.length
          · have hki : (k : Int) < (ks.length : Int) := by omega
            have hk0 : 0 ≤ (k : Int) := by omega
            obtain ⟨t, htk⟩ : ∃ t, ks[k]? = some t := ⟨_, List.getElem?_eq_getElem hlt⟩
            have hmem : t ∈ ks := List.mem_of_getElem? htk
            obtain ⟨hkr, hkt⟩ := HKID.out wr HO.out.grw
            obtain ⟨⟨xop, ⟨xa, xb, xc, xd⟩, xkp, xkn, xkc⟩, hx, hxt⟩ := hkt.get k t htk
            obtain ⟨kg, kcc, ekg⟩ : ∃ g c, Value.slice kp ks.length kc = .slice (some ⟨g, 0, none⟩) ks.length c := by
              rcases hkr.2 with ⟨_, h0⟩ | ⟨g, cap, cur, e, _⟩
              · omega
              · exact ⟨_, _, e⟩
            simp only [Value.slice.injEq] at ekg
            obtain ⟨rfl, _, rfl⟩ := ekg
            obtain ⟨y0, y1, y2, y3, y4, y5⟩ := kid_all hkr HNL.out k hlt _ hx
            have hsn := kidsL_snoc ks k t htk
            have hle := kidsL_le ks (k + 1)
            rw [hsn] at hle
            have hmm : m + 2 + (printL t).length ≤ 1000000 := by have h1 := HM.out; have h2 := HN2.out; simp at hle; omega
            have HSN := Lib.hid hsn
            have HMM := Lib.hid hmm
            have hm1 : m ≤ 999990 + 8 := by omega
            have HXT := Lib.hid hxt
            have HPR := Lib.hid (HIH.out t hmem)
            clear hkr hkt hx hxt hsn hle hmm hmem htk
            simp only at y0 y1 y2 y3 y4 y5
            have HX := Lib.hid (HO.out.below ((Below.refl _ _).alloc (Nat.le_refl _) (.cells #[.int .i64 xop, .int .u64 xa, .int .u64 xb, .int .u64 xc, .int .u64 xd, .slice xkp xkn xkc] 28)))
            have HBW : Hid (base ≤ wr.heap.size) := Lib.hid (by have h1 := HO.out.grw.size; have h2 := HBS.out; simp at h1; omega)
            go_wp2_with (at_builtin; refine wpList_append_own_at _ rfl (.tmp 36) (.tmp 37) 49 rfl base 5 i0 (.int .u8 0) 1 1 Try.underlying49 hi hz0 hz1 hz2 rfl (by decide) (.slice p' m c') m (Lib.byteCells ((L ++ [b1] ++ wordsL [sa, sb, sc, sd]) ++ kidsL (ks.take k))) rfl (HX.out.own.alloc _) ⟨wr.heap.size + 1, 0, none⟩ 1 1 [.int .u8 40] rfl rfl ?c1 ?c2 ?c3 ?c4 ?c5 ?_)
            case c1 =>
              have := cell_one_new (wr.alloc (.cells #[.int .i64 xop, .int .u64 xa, .int .u64 xb, .int .u64 xc, .int .u64 xd, .slice xkp xkn xkc] 28)) (.int .u8 40) 5
              simpa using this
            case c2 => simp [Value.oneCell']
            case c3 => unfold maxLen; omega
            case c4 => omega
            case c5 => have := HBW.out; simp; omega
            intro v2 w2 hown2 hgrow2 _ hat2
            obtain ⟨g2, c2, rfl, hc2⟩ := rg_own_succ hown2
            have hR2 := HX.out.step (b := 40) (by simpa using hown2) hgrow2 (by simpa using hat2)
            have hz : BlkN w2 wr.heap.size ⟨xop, ⟨xa, xb, xc, xd⟩, xkp, xkn, xkc⟩ := by
              refine (hgrow2.block wr.heap.size (by simp; omega) (fun e => ?_)).trans ((Below.heap_alloc _ _ _ (by simp)).trans (heap_alloc_new wr _))
              have := (rg_own_base HO.out.own wr.heap.size e.symm).2
              omega
            obtain ⟨z0, z1, z2, z3, z4, z5, _, _, _, _, _, _⟩ := hz.cells
            simp only at z0 z1 z2 z3 z4 z5
            obtain ⟨m3, hm3⟩ : ∃ m3, m + 1 + (printL t).length = m3 := ⟨_, rfl⟩
            have HC : Hid (Calls Try.prog 14 #[.agg #[.int .i64 xop, .int .u64 xa, .int .u64 xb, .int .u64 xc, .int .u64 xd, .slice xkp xkn xkc], .slice (some ⟨g2, 0, none⟩) (m + 1) c2] w2 (rowPost base m3 ((((L ++ [b1] ++ wordsL [sa, sb, sc, sd]) ++ kidsL (ks.take k)) ++ [40]) ++ printL t) (Value.slice (some ⟨g2, 0, none⟩) (m + 1) c2).ownBlock w2)) := Lib.hid (by
              rw [← hm3]
              refine HPR.out ⟨xop, ⟨xa, xb, xc, xd⟩, xkp, xkn, xkc⟩ base (m + 1) _ (some ⟨g2, 0, none⟩) c2 w2 (fun g => g < w.heap.size ∧ row ≠ some g) ?_ (fun g hg => ?_) (by have := HMM.out; omega) hR2.own (Nat.le_trans HBS.out (by have := hR2.grw.size; simp at this; omega))
              · refine TreeN.kept (fun g hg hl => ?_) (fun g hg _ => hg) t _ HXT.out
                have h1 := HO.out.grw.size
                simp at h1
                refine (hgrow2.block g (by simp; omega) (fun e => ?_)).trans ((Below.heap_alloc _ _ g (by simp; omega)).trans (Below.heap_alloc wr _ g hl))
                rcases HO.out.blk with e2 | e2
                · exact hg.2 (e2.symm.trans e.symm)
                · have := e2 g e.symm
                  have h3 := hg.1
                  simp at this
                  omega
              · rcases hR2.blk with e2 | e2
                · rw [e2]; exact hg.2
                · intro e
                  have := e2 g e
                  have h3 := hg.1
                  simp at this
                  omega)
            have HR2 := Lib.hid hR2
            have hm4 : m3 ≤ 999999 := by have := HMM.out; omega
            have HM3 := Lib.hid hm3
            clear hown2 hgrow2 hat2 hR2 hz hm3 HX HPR HXT
            go_wp2_with (with_reducible refine (HC.out).mono ?_)
            rintro e w3 ⟨p3, c3, rfl, hR3⟩
            clear HC
            have HR3 := Lib.hid (HR2.out.next (Below.refl _ _) hR3)
            clear hR3 HR2
            go_wp2_with (at_builtin; refine wpList_append_own_at _ rfl (.tmp 42) (.tmp 43) 49 rfl base 5 i0 (.int .u8 0) 1 1 Try.underlying49 hi hz0 hz1 hz2 rfl (by decide) (.slice p3 m3 c3) m3 _ rfl (HR3.out.own.alloc _) ⟨w3.heap.size, 0, none⟩ 1 1 [.int .u8 41] rfl rfl ?d1 ?d2 ?d3 ?d4 ?d5 ?_)
            case d1 => exact cell_one_new _ _ _
            case d2 => simp [Value.oneCell']
            case d3 => unfold maxLen; omega
            case d4 => omega
            case d5 => have h1 := HR3.out.grw.size; have h2 := HBS.out; simp at h1 ⊢; omega
            intro v4 w4 hown4 hgrow4 _ hat4
            obtain ⟨g4, c4, rfl, hc4⟩ := rg_own_succ hown4
            have HR4 := Lib.hid (HR3.out.step (b := 41) (by simpa using hown4) hgrow4 (by simpa using hat4))
            clear hown4 hgrow4 hat4 HR3
            go_wp2_with fail
            go_round
            case measure => simp [intOf]; omega
            case rel =>
              (repeat apply Exists.intro)
              refine ⟨?_, rfl⟩
              refine ⟨k + 1, m3 + 1, _, _, by omega, rfl, by simp, Lib.hid ?_, Lib.hid ?_⟩
              · rw [HSN.out]
                have h1 := HM.out
                have h2 := HM3.out
                simp
                omega
              · rw [HSN.out]
                have := HR4.out
                simpa using this
          · obtain rfl : k = ks.length := by omega
            have hki : ¬ (ks.length : Int) < (ks.length : Int) := by omega
            go_wp2
            go_ret
            have h1 := HEND.out _ _ _ _ HO.out
            have h2 := HM.out
            rw [List.take_length] at h1 h2
            first | rw [HSL.out] | rw [HSL1.out]
            subst h2
            have hwl : (wordsL [sa, sb, sc, sd]).length = 64 := by simp [wordsL, hexD_len]
            have e : n + 65 + (kidsL ks).length = n + ((wordsL [sa, sb, sc, sd]).length + (kidsL ks).length + 1) := by omega
            refine ⟨p', c', ?_, ?_⟩
            · rw [← e]; rfl
            · rw [← e]; simpa using h1
  · have hop2 : ¬ (op : Int) = 1 := by omega
    have hop3 : ((op : Int) == 1) = false := by simpa using hop2
    have HSL : Hid (setL op ⟨sa, sb, sc, sd⟩ = []) := Lib.hid (by unfold setL; rw [if_neg hop])
    have HN2 : Hid (n + 1 + (kidsL ks).length ≤ 1000000) := Lib.hid (by have := HN.out; omega)
    go_wp2_with fail
    go_loopw [1, 32] (fun ov iv wr => ∃ (k m : Nat) (p' : Option Addr) (c' : Nat), k ≤ ks.length ∧ ov = .slice p' m c' ∧ iv = .int .i64 (k : Int) ∧ Hid (m = (n + 1) + (kidsL (ks.take k)).length) ∧ Hid (RowR base row (w.alloc (.cells #[.int .i64 op, .int .u64 sa, .int .u64 sb, .int .u64 sc, .int .u64 sd, .slice kp ks.length kc] 28)) m ((L ++ [b1]) ++ kidsL (ks.take k)) (.slice p' m c') wr)) (fun _ iv _ => ks.length - (intOf iv).toNat)
    case atStart => exact ⟨0, _, _, _, Nat.zero_le _, rfl, rfl, Lib.hid (by simp [kidsL]), Lib.hid (by simpa [kidsL] using HR.out)⟩
    case round =>
      obtain ⟨k, m, p', c', hk, rfl, rfl, HM, HO⟩ := hrel
      clear HR
      by_cases hlt : k < ks.length
      · have hki : (k : Int) < (ks.length : Int) := by omega
        have hk0 : 0 ≤ (k : Int) := by omega
        obtain ⟨t, htk⟩ : ∃ t, ks[k]? = some t := ⟨_, List.getElem?_eq_getElem hlt⟩
        have hmem : t ∈ ks := List.mem_of_getElem? htk
        obtain ⟨hkr, hkt⟩ := HKID.out wr HO.out.grw
        obtain ⟨⟨xop, ⟨xa, xb, xc, xd⟩, xkp, xkn, xkc⟩, hx, hxt⟩ := hkt.get k t htk
        obtain ⟨kg, kcc, ekg⟩ : ∃ g c, Value.slice kp ks.length kc = .slice (some ⟨g, 0, none⟩) ks.length c := by
          rcases hkr.2 with ⟨_, h0⟩ | ⟨g, cap, cur, e, _⟩
          · omega
          · exact ⟨_, _, e⟩
        simp only [Value.slice.injEq] at ekg
        obtain ⟨rfl, _, rfl⟩ := ekg
        obtain ⟨y0, y1, y2, y3, y4, y5⟩ := kid_all hkr HNL.out k hlt _ hx
        have hsn := kidsL_snoc ks k t htk
        have hle := kidsL_le ks (k + 1)
        rw [hsn] at hle
        have hmm : m + 2 + (printL t).length ≤ 1000000 := by have h1 := HM.out; have h2 := HN2.out; simp at hle; omega
        have HSN := Lib.hid hsn
        have HMM := Lib.hid hmm
        have hm1 : m ≤ 999990 + 8 := by omega
        have HXT := Lib.hid hxt
        have HPR := Lib.hid (HIH.out t hmem)
        clear hkr hkt hx hxt hsn hle hmm hmem htk
        simp only at y0 y1 y2 y3 y4 y5
        have HX := Lib.hid (HO.out.below ((Below.refl _ _).alloc (Nat.le_refl _) (.cells #[.int .i64 xop, .int .u64 xa, .int .u64 xb, .int .u64 xc, .int .u64 xd, .slice xkp xkn xkc] 28)))
        have HBW : Hid (base ≤ wr.heap.size) := Lib.hid (by have h1 := HO.out.grw.size; have h2 := HBS.out; simp at h1; omega)
        go_wp2_with (at_builtin; refine wpList_append_own_at _ rfl (.tmp 36) (.tmp 37) 49 rfl base 5 i0 (.int .u8 0) 1 1 Try.underlying49 hi hz0 hz1 hz2 rfl (by decide) (.slice p' m c') m (Lib.byteCells ((L ++ [b1]) ++ kidsL (ks.take k))) rfl (HX.out.own.alloc _) ⟨wr.heap.size + 1, 0, none⟩ 1 1 [.int .u8 40] rfl rfl ?c1 ?c2 ?c3 ?c4 ?c5 ?_)
        case c1 =>
          have := cell_one_new (wr.alloc (.cells #[.int .i64 xop, .int .u64 xa, .int .u64 xb, .int .u64 xc, .int .u64 xd, .slice xkp xkn xkc] 28)) (.int .u8 40) 5
          simpa using this
        case c2 => simp [Value.oneCell']
        case c3 => unfold maxLen; omega
        case c4 => omega
        case c5 => have := HBW.out; simp; omega
        intro v2 w2 hown2 hgrow2 _ hat2
        obtain ⟨g2, c2, rfl, hc2⟩ := rg_own_succ hown2
        have hR2 := HX.out.step (b := 40) (by simpa using hown2) hgrow2 (by simpa using hat2)
        have hz : BlkN w2 wr.heap.size ⟨xop, ⟨xa, xb, xc, xd⟩, xkp, xkn, xkc⟩ := by
          refine (hgrow2.block wr.heap.size (by simp; omega) (fun e => ?_)).trans ((Below.heap_alloc _ _ _ (by simp)).trans (heap_alloc_new wr _))
          have := (rg_own_base HO.out.own wr.heap.size e.symm).2
          omega
        obtain ⟨z0, z1, z2, z3, z4, z5, _, _, _, _, _, _⟩ := hz.cells
        simp only at z0 z1 z2 z3 z4 z5
        obtain ⟨m3, hm3⟩ : ∃ m3, m + 1 + (printL t).length = m3 := ⟨_, rfl⟩
        have HC : Hid (Calls Try.prog 14 #[.agg #[.int .i64 xop, .int .u64 xa, .int .u64 xb, .int .u64 xc, .int .u64 xd, .slice xkp xkn xkc], .slice (some ⟨g2, 0, none⟩) (m + 1) c2] w2 (rowPost base m3 ((((L ++ [b1]) ++ kidsL (ks.take k)) ++ [40]) ++ printL t) (Value.slice (some ⟨g2, 0, none⟩) (m + 1) c2).ownBlock w2)) := Lib.hid (by
          rw [← hm3]
          refine HPR.out ⟨xop, ⟨xa, xb, xc, xd⟩, xkp, xkn, xkc⟩ base (m + 1) _ (some ⟨g2, 0, none⟩) c2 w2 (fun g => g < w.heap.size ∧ row ≠ some g) ?_ (fun g hg => ?_) (by have := HMM.out; omega) hR2.own (Nat.le_trans HBS.out (by have := hR2.grw.size; simp at this; omega))
          · refine TreeN.kept (fun g hg hl => ?_) (fun g hg _ => hg) t _ HXT.out
            have h1 := HO.out.grw.size
            simp at h1
            refine (hgrow2.block g (by simp; omega) (fun e => ?_)).trans ((Below.heap_alloc _ _ g (by simp; omega)).trans (Below.heap_alloc wr _ g hl))
            rcases HO.out.blk with e2 | e2
            · exact hg.2 (e2.symm.trans e.symm)
            · have := e2 g e.symm
              have h3 := hg.1
              simp at this
              omega
          · rcases hR2.blk with e2 | e2
            · rw [e2]; exact hg.2
            · intro e
              have := e2 g e
              have h3 := hg.1
              simp at this
              omega)
        have HR2 := Lib.hid hR2
        have hm4 : m3 ≤ 999999 := by have := HMM.out; omega
        have HM3 := Lib.hid hm3
        clear hown2 hgrow2 hat2 hR2 hz hm3 HX HPR HXT
        go_wp2_with (with_reducible refine (HC.out).mono ?_)
        rintro e w3 ⟨p3, c3, rfl, hR3⟩
        clear HC
        have HR3 := Lib.hid (HR2.out.next (Below.refl _ _) hR3)
        clear hR3 HR2
        go_wp2_with (at_builtin; refine wpList_append_own_at _ rfl (.tmp 42) (.tmp 43) 49 rfl base 5 i0 (.int .u8 0) 1 1 Try.underlying49 hi hz0 hz1 hz2 rfl (by decide) (.slice p3 m3 c3) m3 _ rfl (HR3.out.own.alloc _) ⟨w3.heap.size, 0, none⟩ 1 1 [.int .u8 41] rfl rfl ?d1 ?d2 ?d3 ?d4 ?d5 ?_)
        case d1 => exact cell_one_new _ _ _
        case d2 => simp [Value.oneCell']
        case d3 => unfold maxLen; omega
        case d4 => omega
        case d5 => have h1 := HR3.out.grw.size; have h2 := HBS.out; simp at h1 ⊢; omega
        intro v4 w4 hown4 hgrow4 _ hat4
        obtain ⟨g4, c4, rfl, hc4⟩ := rg_own_succ hown4
        have HR4 := Lib.hid (HR3.out.step (b := 41) (by simpa using hown4) hgrow4 (by simpa using hat4))
        clear hown4 hgrow4 hat4 HR3
        go_wp2_with fail
        go_round
        case measure => simp [intOf]; omega
        case rel =>
          refine ⟨k + 1, m3 + 1, _, _, by omega, rfl, by simp, Lib.hid ?_, Lib.hid ?_⟩
          · rw [HSN.out]
            have h1 := HM.out
            have h2 := HM3.out
            simp
            omega
          · rw [HSN.out]
            have := HR4.out
            simpa using this
      · obtain rfl : k = ks.length := by omega
        have hki : ¬ (ks.length : Int) < (ks.length : Int) := by omega
        go_wp2
        go_ret
        have h1 := HEND.out _ _ _ _ HO.out
        have h2 := HM.out
        rw [List.take_length] at h1 h2
        rw [HSL.out]
        subst h2
        have e : n + 1 + (kidsL ks).length = n + (([] : List UInt8).length + (kidsL ks).length + 1) := by simp; omega
        refine ⟨p', c', ?_, ?_⟩
        · rw [← e]; rfl
        · rw [← e]; simpa using h1
end Go.Proofs.Ytpcnlojlfbgaoaa
