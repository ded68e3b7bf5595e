/-
  CONTRACTS of layer 7's parts of a number's printing (char, places, digits): what each hands back; nothing that was there is written. Conditions: the library's tables of powers of ten and of trailing zeros are as they were laid; its MaxLen holds some int.
-/
import Derived.Test.YtipcanbeegladaaGreatDoorFmtW2
namespace Go.Proofs.YtipcanbeegladaaGreatDoor
open Go.RowKit

/-! char -/
def charB (kk nn : Int) (s : ByteArray) : List UInt8 := if kk = 1 then [UInt8.ofNat ((nn.tdiv 1000000) % 256).toNat] else s.data.toList.take 1
theorem u8_wrap (x : Int) : IntKind.u8.wrap x = ((UInt8.ofNat (x % 256).toNat).toNat : Int) := by
  have h1 : IntKind.u8.wrap x = x % 256 := by simp [IntKind.wrap, IntKind.signed, IntKind.bits]
  rw [h1, UInt8.toNat_ofNat_of_lt' (by show (x % 256).toNat < 256; omega)]
  omega
set_option maxRecDepth 100000 in
set_option maxHeartbeats 1000000 in
theorem char_any (kk nn : Int) (s R : ByteArray) (w : World) (hn : kk = 1 → OkN nn) (hs : s.size ≤ 1000000) (G : Gf w) (hR : R.data.toList = charB kk nn s) :
    Calls Tryz.prog 27 #[cv kk nn s] w fun e w' => e = .returned (.string R) ∧ Below w.heap.size w w' := by
  unfold charB at hR
  by_cases h1 : kk = 1
  · subst h1
    rw [if_pos rfl] at hR
    have hw := u8_wrap (nn.tdiv 1000000)
    have C1 := Lib.hid fun W => whole_any nn W (hn rfl)
    generalize nn.tdiv 1000000 = x at *
    generalize UInt8.ofNat (x % 256).toNat = c at *
    have HR := Lib.hid hR
    clear hR hn G
    have hconv : (convert 39 9 (.slice (some ⟨w.heap.size + 1, 0, none⟩) 1 1)).run Tryz.prog ((w.alloc (.cells #[.int .i64 1, .int .i64 nn, .string s] 36)).alloc (.cells #[.int .u8 (c.toNat : Int)] 5)) = .ok (.string R) ((w.alloc (.cells #[.int .i64 1, .int .i64 nn, .string s] 36)).alloc (.cells #[.int .u8 (c.toNat : Int)] 5)) := by
      have h := run_convert_bytes_back (P := Tryz.prog) ((w.alloc (.cells #[.int .i64 1, .int .i64 nn, .string s] 36)).alloc (.cells #[.int .u8 (c.toNat : Int)] 5)) 39 9 5 ⟨w.heap.size + 1, 0, none⟩ 1 [c] Tryz.underlying39 Tryz.underlying5 Tryz.underlying9 (fun j hj => by
        match j, hj with
        | 0, _ => simp [Addr.add, go_sem])
      rw [show R = ⟨[c].toArray⟩ from ba_of _ _ HR.out]
      exact h
    unfold cv
    go_enter Tryz.func27, Tryz.ntmps27
    go_wp2_with ((with_reducible refine (C1.out _).mono ?_); rintro e w' ⟨rfl, rfl⟩)
    go_wp2_with fail
    go_ret
    exact ⟨rfl, ((Below.refl _ _).alloc (Nat.le_refl _) _).alloc (by simp) _⟩
  · rw [if_neg h1] at hR
    have C1 := Lib.hid fun W G => cstr_any kk nn s W hn (show (strC kk nn s).size ≤ 1000000 by unfold strC; rw [if_neg h1]; exact hs) G
    rw [show strC kk nn s = s from by unfold strC; rw [if_neg h1]] at C1
    have HG := Lib.hid G
    obtain ⟨m, hm⟩ : ∃ m, min 1 s.size = m := ⟨_, rfl⟩
    have e1 : min (1 : Int) (s.size : Int) = (m : Int) := by omega
    have hmt : m ≤ s.size := by omega
    have hsi : (s.size : Int) ≤ 1000000 := by omega
    have HR : Hid (R.data.toList = s.data.toList.take m) := Lib.hid (by
      rw [hR, ← hm]
      rcases Nat.le_total 1 s.size with h | h
      · rw [Nat.min_eq_left h]
      · have := ba_sz s
        rw [Nat.min_eq_right h, List.take_of_length_le (by omega), List.take_of_length_le (by omega)])
    clear hR hm G hn
    have h1' : (kk == 1) = false := by simpa using h1
    unfold cv at C1 ⊢
    go_enter Tryz.func27, Tryz.ntmps27
    go_wp2_with fail
    (with_reducible refine (C1.out _ (HG.out.gl.next ((Below.refl _ _).alloc (Nat.le_refl _) _))).mono ?_)
    rintro e w1 ⟨rfl, hb1⟩
    have HB1 := Lib.hid (below_new hb1)
    clear hb1
    go_wp2_with fail
    go_ret
    refine ⟨ret_s (WideShapes.bytes_inj ?_), HB1.out⟩
    rw [HR.out, ext0]

/-! places -/
def wholeL (n : Int) : List UInt8 := Lib.decDigits (n.natAbs / 1000000)
def partL (n : Int) : List UInt8 := if n.natAbs % 1000000 = 0 then [] else trimRightS (six (n.natAbs % 1000000)) [48]
where trimRightS := Lib.trimRightS
theorem whole_no46 (n : Int) : (46 : UInt8) ∉ wholeL n := fun h => by
  have := dec_isD _ _ h; exact absurd this (by decide)
theorem trim_dash (n : Int) : Lib.trimPrefix (textL n) [45] = wholeL n ++ fracL (n.natAbs % 1000000) := by
  unfold Lib.trimPrefix textL wholeL
  rw [hp_one]
  by_cases h : n < 0
  · rw [if_pos h]; simp
  · rw [if_neg h, List.nil_append, if_neg]
    cases hd : Lib.decDigits (n.natAbs / 1000000) with
    | nil => exact absurd hd (dec_ne _)
    | cons c l =>
      have : isD c = true := dec_isD (n.natAbs / 1000000) c (by rw [hd]; simp)
      simp
      rintro rfl; exact absurd this (by decide)
theorem cut_dot (n : Int) : Lib.cut (wholeL n ++ fracL (n.natAbs % 1000000)) [46] = (wholeL n, partL n, decide (n.natAbs % 1000000 ≠ 0)) := by
  unfold fracL partL partL.trimRightS
  by_cases h : n.natAbs % 1000000 = 0
  · rw [if_pos h, if_pos h, List.append_nil, cut1_no _ _ (whole_no46 _)]; simp [h]
  · rw [if_neg h, if_neg h, cut1_at _ _ _ (whole_no46 _)]; simp [h]
/-- With noughts behind, the places are the six. -/
theorem part_pad (n : Int) (k : Nat) : ((partL n ++ List.replicate (k - (partL n).length) 48).take k) = (six (n.natAbs % 1000000) ++ List.replicate (k - 6) 48).take k := by
  have hm : n.natAbs % 1000000 < 1000000 := Nat.mod_lt _ (by decide)
  have h6 := six_len _ hm
  obtain ⟨j, hj, e⟩ : ∃ j, (partL n).length + j = 6 ∧ six (n.natAbs % 1000000) = partL n ++ List.replicate j 48 := by
    unfold partL partL.trimRightS
    split
    · rename_i h; rw [h]; exact ⟨6, rfl, by decide +kernel⟩
    · obtain ⟨z, hz, ha⟩ := trimR_split (six (n.natAbs % 1000000)) [48]
      have hzl : z = List.replicate z.length 48 := by
        refine List.eq_replicate_iff.2 ⟨rfl, fun c hc => ?_⟩
        have := List.all_eq_true.1 ha c hc
        simpa using this
      refine ⟨z.length, ?_, ?_⟩
      · have := congrArg List.length hz; rw [List.length_append, h6] at this; omega
      · conv => lhs; rw [hz]
        rw [← hzl]
  rw [e]
  apply List.ext_getElem?
  intro i
  by_cases hi : i < k
  · rw [List.getElem?_take_of_lt hi, List.getElem?_take_of_lt hi, List.append_assoc]
    by_cases h1 : i < (partL n).length
    · rw [List.getElem?_append_left h1, List.getElem?_append_left h1]
    · rw [List.getElem?_append_right (by omega), List.getElem?_append_right (by omega), List.replicate_append_replicate]
      rw [List.getElem?_replicate, List.getElem?_replicate, if_pos (by omega), if_pos (by omega)]
  · rw [List.getElem?_eq_none (by rw [List.length_take]; omega), List.getElem?_eq_none (by rw [List.length_take]; omega)]
theorem part_len (n : Int) : (partL n).length ≤ 6 := by
  have hm : n.natAbs % 1000000 < 1000000 := Nat.mod_lt _ (by decide)
  unfold partL partL.trimRightS
  split
  · simp
  · obtain ⟨z, hz, _⟩ := trimR_split (six (n.natAbs % 1000000)) [48]
    have := congrArg List.length hz
    rw [six_len _ hm, List.length_append] at this; omega
def placesI (pc : Bool) (pr : Nat) (n : Int) : List UInt8 :=
  Lib.decDigits (n.natAbs / 1000000) ++ (if (if pc then pr else 6) = 0 then [] else 46 :: ((six (n.natAbs % 1000000) ++ List.replicate ((if pc then pr else 6) - 6) 48).take (if pc then pr else 6)))
set_option maxRecDepth 100000 in
set_option maxHeartbeats 2000000 in
/-- places, how many are wanted having been named. -/
theorem places_walk (l z p bl : Bool) (wd : Int) (pr : Nat) (pc : Bool) (k n : Int) (q : Nat) (X Y W0 P0 Z R : ByteArray) (t : Bool) (w : World) (hq : q = if pc then pr else 6) (hqb : q ≤ 1001) (HG : Hid (Gf w))
    (c1 : Hid (∀ W, Gf W → Calls Tryz.prog 53 #[.int .i64 n] W fun e w' => e = .returned (.string X) ∧ Below W.heap.size W w'))
    (c2 : Hid (∀ W, Calls Tryz.prog 52 #[.string X, .string ⟨#[45]⟩] W fun e w' => e = .returned (.string Y) ∧ w' = W))
    (c3 : Hid (∀ W, Gf W → Calls Tryz.prog 51 #[.string Y, .string ⟨#[46]⟩] W fun e w' => e = .returned (.tuple #[.string W0, .string P0, .bool t]) ∧ Below W.heap.size W w'))
    (c4 : Hid (∀ W, Calls Tryz.prog 48 #[.string ⟨#[48]⟩, .int .i64 ((q - P0.size : Nat) : Int)] W fun e w' => e = .returned (.string Z) ∧ Below W.heap.size W w'))
    (hW : W0.size ≤ 100) (hP : P0.size ≤ 6) (hZ : Z.size = q - P0.size)
    (hR : Hid (R.data.toList = if q = 0 then W0.data.toList else W0.data.toList ++ 46 :: (P0.data.toList ++ Z.data.toList).take q)) :
    Calls Tryz.prog 30 #[cva l z p bl wd pr pc k, .int .i64 n] w fun e w' => e = .returned (.string R) ∧ Below w.heap.size w w' := by
  have e1 : max ((q : Int) - (P0.size : Int)) 0 = ((q - P0.size : Nat) : Int) := by omega
  obtain ⟨m, hm⟩ : ∃ m, q - P0.size = m := ⟨_, rfl⟩
  rw [hm] at e1 c4 hZ
  have hPi : (P0.size : Int) ≤ 6 := by omega
  have hWi : (W0.size : Int) ≤ 100 := by omega
  have hZi : (Z.size : Int) ≤ 1001 := by omega
  have hle : q ≤ P0.size + Z.size := by omega
  have hlei : (q : Int) ≤ (P0.size : Int) + (Z.size : Int) := by omega
  have h46 : (⟨#[46]⟩ : ByteArray).size = 1 := rfl
  clear hm hZ
  unfold cva
  by_cases h0 : q = 0
  · have hR' : Hid (R = W0) := Lib.hid (WideShapes.bytes_inj (by rw [hR.out, if_pos h0]))
    cases pc
    · rw [h0] at hq; cases hq
    · have hpr : pr = 0 := by rw [h0] at hq; exact hq.symm
      subst hpr
      clear hq h0 e1 hle hlei c4 hR
      go_enter Tryz.func30, Tryz.ntmps30
      go_wp2_with fail
      (with_reducible refine (c1.out _ (HG.out.next ((Below.refl _ _).alloc (Nat.le_refl _) _))).mono ?_)
      rintro e w1 ⟨rfl, hb1⟩
      have HB1 := Lib.hid (below_new hb1)
      clear hb1
      go_wp2_with fail
      refine (c2.out _).mono ?_
      rintro e w' ⟨rfl, rfl⟩
      go_wp2_with fail
      (with_reducible refine (c3.out _ (HG.out.next HB1.out)).mono ?_)
      rintro e w2 ⟨rfl, hb2⟩
      have HB2 := Lib.hid (HB1.out.trans (hb2.mono HB1.out.size))
      clear hb2 HB1
      go_wp2_with fail
      go_ret
      exact ⟨ret_s hR'.out.symm, HB2.out⟩
  · have hR' : Hid (R.data.toList = W0.data.toList ++ 46 :: (P0.data.toList ++ Z.data.toList).take q) := Lib.hid (by rw [hR.out, if_neg h0])
    have hq1 : 1 ≤ q := by omega
    cases pc
    · have hq6 : q = 6 := hq
      subst hq6
      have e1' : max (6 - (P0.size : Int)) 0 = (m : Int) := e1
      clear hq h0 hR e1
      go_enter Tryz.func30, Tryz.ntmps30
      go_wp2_with fail
      (with_reducible refine (c1.out _ (HG.out.next ((Below.refl _ _).alloc (Nat.le_refl _) _))).mono ?_)
      rintro e w1 ⟨rfl, hb1⟩
      have HB1 := Lib.hid (below_new hb1)
      clear hb1
      go_wp2_with fail
      refine (c2.out _).mono ?_
      rintro e w' ⟨rfl, rfl⟩
      go_wp2_with fail
      (with_reducible refine (c3.out _ (HG.out.next HB1.out)).mono ?_)
      rintro e w2 ⟨rfl, hb2⟩
      have HB2 := Lib.hid (HB1.out.trans (hb2.mono HB1.out.size))
      clear hb2 HB1
      go_wp2_with fail
      (with_reducible refine (c4.out _).mono ?_)
      rintro e w3 ⟨rfl, hb3⟩
      have HB3 := Lib.hid (HB2.out.trans (hb3.mono HB2.out.size))
      clear hb3 HB2
      go_wp2_with fail
      go_ret
      refine ⟨ret_s (WideShapes.bytes_inj ?_), HB3.out⟩
      rw [hR'.out]
      simp [List.take_append]
    · have hqp : q = pr := hq
      subst hqp
      have hq1i : (1 : Int) ≤ (q : Int) := by omega
      clear hq h0 hR
      go_enter Tryz.func30, Tryz.ntmps30
      go_wp2_with fail
      (with_reducible refine (c1.out _ (HG.out.next ((Below.refl _ _).alloc (Nat.le_refl _) _))).mono ?_)
      rintro e w1 ⟨rfl, hb1⟩
      have HB1 := Lib.hid (below_new hb1)
      clear hb1
      go_wp2_with fail
      refine (c2.out _).mono ?_
      rintro e w' ⟨rfl, rfl⟩
      go_wp2_with fail
      (with_reducible refine (c3.out _ (HG.out.next HB1.out)).mono ?_)
      rintro e w2 ⟨rfl, hb2⟩
      have HB2 := Lib.hid (HB1.out.trans (hb2.mono HB1.out.size))
      clear hb2 HB1
      go_wp2_with fail
      (with_reducible refine (c4.out _).mono ?_)
      rintro e w3 ⟨rfl, hb3⟩
      have HB3 := Lib.hid (HB2.out.trans (hb3.mono HB2.out.size))
      clear hb3 HB2
      go_wp2_with fail
      go_ret
      refine ⟨ret_s (WideShapes.bytes_inj ?_), HB3.out⟩
      rw [hR'.out]
      simp [List.take_append]
theorem text_len40 (n : Int) (h : OkN n) : (textL n).length ≤ 40 := by
  unfold OkN at h
  have hd := dec_len20 (n.natAbs / 1000000) (by omega)
  have hp := part_len n
  unfold partL partL.trimRightS at hp
  unfold textL fracL
  rw [List.length_append, List.length_append]
  have h1 : (if n < 0 then [(45 : UInt8)] else []).length ≤ 1 := by split <;> simp
  have h2 : (if n.natAbs % 1000000 = 0 then [] else (46 : UInt8) :: Lib.trimRightS (six (n.natAbs % 1000000)) [48]).length ≤ 7 := by
    split
    · simp
    · rename_i h; rw [if_neg h] at hp; simp; omega
  omega
theorem places_any (l z p bl : Bool) (wd : Int) (pr : Nat) (pc : Bool) (k n : Int) (R : ByteArray) (w : World) (hn : OkN n) (hp : pr ≤ 1001) (G : Gf w) (hR : R.data.toList = placesI pc pr n) :
    Calls Tryz.prog 30 #[cva l z p bl wd pr pc k, .int .i64 n] w fun e w' => e = .returned (.string R) ∧ Below w.heap.size w w' := by
  obtain ⟨q, hq⟩ : ∃ q, q = (if pc then pr else 6) := ⟨_, rfl⟩
  have hqb : q ≤ 1001 := by rw [hq]; split <;> omega
  obtain ⟨W0, hW, hWs⟩ := has_ba (wholeL n)
  obtain ⟨P0, hP, hPs⟩ := has_ba (partL n)
  obtain ⟨Z, hZ, hZs⟩ := has_ba (List.replicate (q - P0.size) (48 : UInt8))
  obtain ⟨Y, hY, hYs⟩ := has_ba (wholeL n ++ fracL (n.natAbs % 1000000))
  have hnb : n.natAbs / 1000000 < 18446744073709551616 := by unfold OkN at hn; omega
  have hpl := part_len n
  have hwl : (wholeL n).length ≤ 20 := dec_len20 _ hnb
  have hyl : Y.size ≤ 40 := by
    have h40 := text_len40 n hn
    unfold textL at h40; rw [List.length_append] at h40
    have : (wholeL n ++ fracL (n.natAbs % 1000000)).length ≤ 40 := by unfold wholeL; omega
    omega
  refine places_walk l z p bl wd pr pc k n q ⟨(textL n).toArray⟩ Y W0 P0 Z R (decide (n.natAbs % 1000000 ≠ 0)) w hq hqb (Lib.hid G)
    (Lib.hid fun W G => text_any n W hn G.gl) (Lib.hid fun W => ?_) (Lib.hid fun W G => ?_) (Lib.hid fun W => rep_any 48 _ rfl _ Z hZ W (by omega)) (by omega) (by omega) (by rw [hZs]; simp) (Lib.hid ?_)
  · refine (Tryz.strings_TrimPrefix _ _ W).mono ?_
    rintro e w' ⟨rfl, rfl⟩
    refine ⟨ret_s (ba_of _ _ ?_).symm, rfl⟩
    rw [hY, ba_ls]
    exact (trim_dash n).symm
  · obtain ⟨m, hm⟩ := G.ml
    refine (Tryz.strings_Cut Y ⟨#[46]⟩ m W (by omega) hm).mono ?_
    rintro e w' ⟨rfl, k, rfl⟩
    refine ⟨?_, rfl, rfl, rfl, Nat.le_refl _, fun _ _ => rfl⟩
    have hc : Lib.cut Y.data.toList (⟨#[46]⟩ : ByteArray).data.toList = (wholeL n, partL n, decide (n.natAbs % 1000000 ≠ 0)) := by rw [hY]; exact cut_dot n
    rw [hc]
    rw [ba_of W0 _ hW, ba_of P0 _ hP]
  · rw [hR, hW, hP, hZ]
    unfold placesI
    rw [← hq]
    show wholeL n ++ _ = _
    by_cases h0 : q = 0
    · rw [if_pos h0, if_pos h0, List.append_nil]
    · rw [if_neg h0, if_neg h0, hPs, part_pad]

/-! digits -/
def natI (k : Int) (n : Nat) : List UInt8 := if n = 0 then [] else if k = 120 then hexL n else Lib.decDigits n
def digitsI (pc : Bool) (pr : Nat) (k n : Int) : List UInt8 := List.replicate ((if pc then pr else 1) - (natI k n.natAbs).length) 48 ++ natI k n.natAbs
set_option maxRecDepth 100000 in
set_option maxHeartbeats 2000000 in
theorem digits_walk (l z p bl : Bool) (wd : Int) (pr : Nat) (pc : Bool) (k n : Int) (b : Int) (u q : Nat) (S Z R : ByteArray) (w : World) (hk : (k = 120 ∧ b = 16) ∨ (k ≠ 120 ∧ b = 10)) (hq : q = if pc then pr else 1) (hqb : q ≤ 1001) (HG : Hid (Gf w))
    (hu : n.natAbs = u) (hub : u ≤ 9223372036854775807) (hS : S.size ≤ 100) (hZ : Z.size = q - S.size)
    (c1 : Hid (u ≠ 0 → ∀ W, Gf W → Calls Tryz.prog 54 #[.int .u64 (u : Int), .int .i64 b] W fun e w' => e = .returned (.string S) ∧ Below W.heap.size W w'))
    (hS0 : u = 0 → S = ⟨#[]⟩)
    (c4 : Hid (∀ W, Calls Tryz.prog 48 #[.string ⟨#[48]⟩, .int .i64 ((q - S.size : Nat) : Int)] W fun e w' => e = .returned (.string Z) ∧ Below W.heap.size W w'))
    (hR : Hid (R.data.toList = Z.data.toList ++ S.data.toList)) :
    Calls Tryz.prog 32 #[cva l z p bl wd pr pc k, .int .i64 n] w fun e w' => e = .returned (.string R) ∧ Below w.heap.size w w' := by
  have e1 : max ((q : Int) - (S.size : Int)) 0 = ((q - S.size : Nat) : Int) := by omega
  obtain ⟨m, hm⟩ : ∃ m, q - S.size = m := ⟨_, rfl⟩
  rw [hm] at e1 c4 hZ
  have hSi : (S.size : Int) ≤ 100 := by omega
  have hZi : (Z.size : Int) ≤ 1001 := by omega
  have e2 : max n (-n) = (u : Int) := by omega
  have e3 : IntKind.u64.wrap (u : Int) = (u : Int) := by rw [IntKind.wrap_u64]; omega
  have hn1 : -9223372036854775807 ≤ n := by omega
  have hn2 : n ≤ 9223372036854775807 := by omega
  have hm0 := Lib.hid hm
  clear hm hZ
  unfold cva
  by_cases h0 : u = 0
  · obtain rfl := hS0 h0
    have hn0 : n = 0 := by omega
    subst hn0
    have hmq : q = m := by have h : q - 0 = m := hm0.out; simpa using h
    subst hmq
    have e5 : max (q : Int) 0 = (q : Int) := by omega
    clear hu e2 e3 hS0 c1 h0 hub hn1 hn2 e1
    rcases hk with ⟨rfl, rfl⟩ | ⟨hk, rfl⟩
    · cases pc
      · have hq1 : q = 1 := hq
        subst hq1
        clear hq
        rw [show ((1 : Nat) : Int) = max 1 0 from rfl] at c4
        clear e5
        go_enter Tryz.func32, Tryz.ntmps32
        go_wp2_with fail
        (with_reducible refine (c4.out _).mono ?_)
        rintro e w3 ⟨rfl, hb3⟩
        have HB3 := Lib.hid (below_new hb3)
        clear hb3
        go_wp2_with fail
        go_ret
        exact ⟨ret_s (WideShapes.bytes_inj (by rw [hR.out]; simp)), HB3.out⟩
      · have hq1 : q = pr := hq
        subst hq1
        clear hq
        go_enter Tryz.func32, Tryz.ntmps32
        go_wp2_with fail
        (with_reducible refine (c4.out _).mono ?_)
        rintro e w3 ⟨rfl, hb3⟩
        have HB3 := Lib.hid (below_new hb3)
        clear hb3
        go_wp2_with fail
        go_ret
        exact ⟨ret_s (WideShapes.bytes_inj (by rw [hR.out]; simp)), HB3.out⟩
    · have hk' : (k == 120) = false := by simpa using hk
      cases pc
      · have hq1 : q = 1 := hq
        subst hq1
        clear hq
        rw [show ((1 : Nat) : Int) = max 1 0 from rfl] at c4
        clear e5
        go_enter Tryz.func32, Tryz.ntmps32
        go_wp2_with fail
        (with_reducible refine (c4.out _).mono ?_)
        rintro e w3 ⟨rfl, hb3⟩
        have HB3 := Lib.hid (below_new hb3)
        clear hb3
        go_wp2_with fail
        go_ret
        exact ⟨ret_s (WideShapes.bytes_inj (by rw [hR.out]; simp)), HB3.out⟩
      · have hq1 : q = pr := hq
        subst hq1
        clear hq
        go_enter Tryz.func32, Tryz.ntmps32
        go_wp2_with fail
        (with_reducible refine (c4.out _).mono ?_)
        rintro e w3 ⟨rfl, hb3⟩
        have HB3 := Lib.hid (below_new hb3)
        clear hb3
        go_wp2_with fail
        go_ret
        exact ⟨ret_s (WideShapes.bytes_inj (by rw [hR.out]; simp)), HB3.out⟩
  · have C1 := Lib.hid (c1.out h0)
    have hn0 : (n == 0) = false := by simp; omega
    have hn0' : ¬ n = 0 := by omega
    clear hS0 c1 hu h0
    rcases hk with ⟨rfl, rfl⟩ | ⟨hk, rfl⟩
    · cases pc
      · have hq1 : q = 1 := hq
        subst hq1
        clear hq
        have e1' : max (1 - (S.size : Int)) 0 = (m : Int) := e1
        clear e1
        go_enter Tryz.func32, Tryz.ntmps32
        go_wp2_with fail
        (with_reducible refine (C1.out _ (HG.out.next ((Below.refl _ _).alloc (Nat.le_refl _) _))).mono ?_)
        rintro e w2 ⟨rfl, hb2⟩
        have HB2 := Lib.hid (below_new hb2)
        clear hb2
        go_wp2_with fail
        (with_reducible refine (c4.out _).mono ?_)
        rintro e w3 ⟨rfl, hb3⟩
        have HB3 := Lib.hid (HB2.out.trans (hb3.mono HB2.out.size))
        clear hb3
        go_wp2_with fail
        go_ret
        exact ⟨ret_s (WideShapes.bytes_inj (by rw [hR.out]; simp)), HB3.out⟩
      · have hq1 : q = pr := hq
        subst hq1
        clear hq
        go_enter Tryz.func32, Tryz.ntmps32
        go_wp2_with fail
        (with_reducible refine (C1.out _ (HG.out.next ((Below.refl _ _).alloc (Nat.le_refl _) _))).mono ?_)
        rintro e w2 ⟨rfl, hb2⟩
        have HB2 := Lib.hid (below_new hb2)
        clear hb2
        go_wp2_with fail
        (with_reducible refine (c4.out _).mono ?_)
        rintro e w3 ⟨rfl, hb3⟩
        have HB3 := Lib.hid (HB2.out.trans (hb3.mono HB2.out.size))
        clear hb3
        go_wp2_with fail
        go_ret
        exact ⟨ret_s (WideShapes.bytes_inj (by rw [hR.out]; simp)), HB3.out⟩
    · have hk' : (k == 120) = false := by simpa using hk
      cases pc
      · have hq1 : q = 1 := hq
        subst hq1
        clear hq
        have e1' : max (1 - (S.size : Int)) 0 = (m : Int) := e1
        clear e1
        go_enter Tryz.func32, Tryz.ntmps32
        go_wp2_with fail
        (with_reducible refine (C1.out _ (HG.out.next ((Below.refl _ _).alloc (Nat.le_refl _) _))).mono ?_)
        rintro e w2 ⟨rfl, hb2⟩
        have HB2 := Lib.hid (below_new hb2)
        clear hb2
        go_wp2_with fail
        (with_reducible refine (c4.out _).mono ?_)
        rintro e w3 ⟨rfl, hb3⟩
        have HB3 := Lib.hid (HB2.out.trans (hb3.mono HB2.out.size))
        clear hb3
        go_wp2_with fail
        go_ret
        exact ⟨ret_s (WideShapes.bytes_inj (by rw [hR.out]; simp)), HB3.out⟩
      · have hq1 : q = pr := hq
        subst hq1
        clear hq
        go_enter Tryz.func32, Tryz.ntmps32
        go_wp2_with fail
        (with_reducible refine (C1.out _ (HG.out.next ((Below.refl _ _).alloc (Nat.le_refl _) _))).mono ?_)
        rintro e w2 ⟨rfl, hb2⟩
        have HB2 := Lib.hid (below_new hb2)
        clear hb2
        go_wp2_with fail
        (with_reducible refine (c4.out _).mono ?_)
        rintro e w3 ⟨rfl, hb3⟩
        have HB3 := Lib.hid (HB2.out.trans (hb3.mono HB2.out.size))
        clear hb3
        go_wp2_with fail
        go_ret
        exact ⟨ret_s (WideShapes.bytes_inj (by rw [hR.out]; simp)), HB3.out⟩
theorem digits_any (l z p bl : Bool) (wd : Int) (pr : Nat) (pc : Bool) (k n : Int) (R : ByteArray) (w : World) (hn : n.natAbs ≤ 9223372036854775807) (hp : pr ≤ 1001) (G : Gf w) (hR : R.data.toList = digitsI pc pr k n) :
    Calls Tryz.prog 32 #[cva l z p bl wd pr pc k, .int .i64 n] w fun e w' => e = .returned (.string R) ∧ Below w.heap.size w w' := by
  obtain ⟨q, hq⟩ : ∃ q, q = (if pc then pr else 1) := ⟨_, rfl⟩
  have hqb : q ≤ 1001 := by rw [hq]; split <;> omega
  obtain ⟨S, hS, hSs⟩ := has_ba (natI k n.natAbs)
  obtain ⟨Z, hZ, hZs⟩ := has_ba (List.replicate (q - S.size) (48 : UInt8))
  have hsl : S.size ≤ 100 := by
    rw [hSs]; unfold natI
    split
    · simp
    · split
      · have := hexN_len 17 n.natAbs; unfold hexL; omega
      · have := dec_len20 n.natAbs (by omega); omega
  refine digits_walk l z p bl wd pr pc k n (if k = 120 then 16 else 10) n.natAbs q S Z R w (by by_cases h : k = 120 <;> simp [h]) hq hqb (Lib.hid G) rfl hn hsl (by rw [hZs]; simp) (Lib.hid fun h0 W G => ?_) (fun h0 => ?_) (Lib.hid fun W => rep_any 48 _ rfl _ Z hZ W (by omega)) (Lib.hid ?_)
  · by_cases h : k = 120
    · rw [if_pos h, ba_of S _ hS]
      unfold natI; rw [if_neg h0, if_pos h]
      exact hex_any _ W (by omega) G.dz
    · rw [if_neg h, ba_of S _ hS]
      unfold natI; rw [if_neg h0, if_neg h]
      exact uint_any _ W (by omega) G.gl
  · refine nil_ba _ ?_
    rw [hS]; unfold natI; rw [if_pos h0]
  · rw [hR, hZ, hS]; unfold digitsI; rw [← hq, hSs]
end Go.Proofs.YtipcanbeegladaaGreatDoor
