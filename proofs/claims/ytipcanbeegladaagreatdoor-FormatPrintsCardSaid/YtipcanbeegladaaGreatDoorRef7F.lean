/-
  CONTRACT of the document's own answer for layer 7: One by the mathematics of a format: its text is oneL.
-/
import Derived.Test.YtipcanbeegladaaGreatDoorRef7C
import Derived.Test.YtipcanbeegladaaGreatDoorRef7E
import Derived.Test.YtipcanbeegladaaGreatDoorFmtL
namespace Go.Proofs.YtipcanbeegladaaGreatDoor
open Go.RowKit

theorem wide_is (c : Cv) (F : ByteArray) (pr nx : Int) (v : UInt8) (sg bd R : ByteArray) (nb : Bool) (hF : F.size ≤ 100000) (h45 : F.data.toList.contains 45 = c.left) (h48 : F.data.toList.contains 48 = c.noughts) (hw : c.width ≤ 1000) (hs : sg.size ≤ 10) (hb : bd.size ≤ 10000) (hnb : nb = takesN c) (hR : R.data.toList = fillL c sg.data.toList bd.data.toList) (W : World) :
    Calls Tryz.prog 39 #[spv F (c.width : Int) pr v nx, .string sg, .string bd, .bool nb] W fun e w' => e = .returned (.string R) ∧ Below W.heap.size W w' := by
  refine (rwide_any F (c.width : Int) pr v nx sg bd nb W hF (by omega) (by omega) hs hb).mono ?_
  rintro e w' ⟨rfl, hB⟩
  refine ⟨?_, hB⟩
  rw [h45, h48, wide_fill c nb _ _ hnb, ← hR]
theorem has_is {F : ByteArray} {wd pr nx : Int} {v d : UInt8} {b : Bool} (hF : F.size ≤ 100000) (h : F.data.toList.contains d = b) (n : Int) (hn : n = (d.toNat : Int)) (W : World) :
    Calls Tryz.prog 35 #[spv F wd pr v nx, .int .u8 n] W fun e w' => e = .returned (.bool b) ∧ Below W.heap.size W w' := by
  subst hn; rw [← h]; exact rhas_any F wd pr v nx d W hF
theorem many_is {n : Int} {B : ByteArray} (h1 : n ≤ 100000) (h0 : -100000 ≤ n) (hB : B.data.toList = List.replicate n.toNat 48) (W : World) :
    Calls Tryz.prog 40 #[.int .u8 48, .int .i64 n] W fun e w' => e = .returned (.string B) ∧ Below W.heap.size W w' := by
  rw [show B = ⟨(List.replicate n.toNat (48 : UInt8)).toArray⟩ from WideShapes.bytes_inj (by rw [hB])]
  exact rmany_any 48 n W h1 h0
theorem digs_is {n : Nat} {B : ByteArray} (h : n < 18446744073709551616) (hB : B.data.toList = Lib.decDigits n) (W : World) :
    Calls Tryz.prog 37 #[.int .u64 (n : Int)] W fun e w' => e = .returned (.string B) ∧ Below W.heap.size W w' := by
  rw [show B = ⟨(Lib.decDigits n).toArray⟩ from WideShapes.bytes_inj (by rw [hB])]
  exact refdigits_any n W h
theorem hex_is {n : Nat} {B : ByteArray} (h : n ≤ 4611686018427387903) (hB : B.data.toList = hexL n) (W : World) :
    Calls Tryz.prog 38 #[.int .u64 (n : Int)] W fun e w' => e = .returned (.string B) ∧ Below W.heap.size W w' := by
  rw [show B = ⟨(hexL n).toArray⟩ from WideShapes.bytes_inj (by rw [hB])]
  exact rhex_any n W h
theorem sgB_list (c : Cv) (b : Bool) (sg : ByteArray) (h : (if b = true then ⟨#[45]⟩ else sgB c.blank c.plus : ByteArray) = sg) : sg.data.toList = signL c b := by
  subst h
  unfold signL sgB
  cases b <;> cases c.plus <;> cases c.blank <;> rfl
theorem sgB_sz (c : Cv) (b : Bool) (sg : ByteArray) (h : (if b = true then ⟨#[45]⟩ else sgB c.blank c.plus : ByteArray) = sg) : sg.size ≤ 1 := by
  subst h
  unfold sgB
  cases b <;> cases c.plus <;> cases c.blank <;> decide
theorem take_pad (s : List UInt8) (p : Nat) (h : s.length = 6) : (s ++ List.replicate p 48).take p = (s ++ List.replicate (p - 6) 48).take p := by
  rw [List.take_append, List.take_append, h, List.take_replicate, List.take_replicate]
  congr 2; omega
theorem hexL_zero : hexL 0 = [48] := by decide
theorem hexN_pos (f u : Nat) : 0 < (hexN (f + 1) u).length := by
  unfold hexN; split
  · simp
  · rw [List.length_append]; simp
/-- The whole digits of a number, as both say them. -/
theorem whole_eq (c : Cv) (m : Int) (pr : Int) (X : List UInt8) (D : Nat → List UInt8) (hD0 : D 0 = [48]) (hDn : ∀ n, 0 < (D n).length) (hnat : ∀ n, n ≠ 0 → natL c n = D n) (hpr : pr = if c.precise then (c.prec : Int) else -1)
    (hX : X = if pr = 0 ∧ m.natAbs / 1000000 = 0 then [] else D (m.natAbs / 1000000)) : List.replicate (pr - (X.length : Int)).toNat 48 ++ X = digitsL c (m.tdiv 1000000) := by
  have ha : (m.tdiv 1000000).natAbs = m.natAbs / 1000000 := by rw [Int.natAbs_tdiv]; rfl
  unfold digitsL
  rw [ha]
  obtain ⟨a, hae⟩ : ∃ a, m.natAbs / 1000000 = a := ⟨_, rfl⟩
  rw [hae] at hX ⊢
  by_cases h0 : a = 0
  · subst h0
    have hn0 : natL c 0 = [] := by unfold natL; rfl
    rw [hn0]
    cases hp : c.precise
    · rw [hp] at hpr
      simp only [Bool.false_eq_true, if_false] at hpr ⊢
      rw [hX, if_neg (by omega), hD0, hpr]; rfl
    · rw [hp] at hpr
      simp only [if_true] at hpr ⊢
      by_cases hz : c.prec = 0
      · rw [hX, if_pos ⟨by omega, rfl⟩, hpr, hz]; rfl
      · rw [hX, if_neg (by omega), hD0, hpr]
        rw [show ((c.prec : Int) - ([48] : List UInt8).length).toNat = c.prec - 1 by simp, ← List.replicate_succ', show c.prec - 1 + 1 = c.prec by omega]
        simp
  · rw [hnat a h0]
    rw [if_neg (by omega)] at hX
    have hpos := hDn a
    rw [hX]
    cases hp : c.precise
    · rw [hp] at hpr
      simp only [Bool.false_eq_true, if_false] at hpr ⊢
      rw [hpr, show (-1 - ((D a).length : Int)).toNat = 0 by omega, show 1 - (D a).length = 0 by omega]
    · rw [hp] at hpr
      simp only [if_true] at hpr ⊢
      rw [hpr, show ((c.prec : Int) - ((D a).length : Int)).toNat = c.prec - (D a).length by omega]
theorem below_sign (m : Int) : decide (m.tdiv 1000000 < 0) = decide (m ≤ -1000000) := by
  rw [decide_eq_decide]
  constructor
  · intro h
    by_cases h0 : 0 ≤ m
    · have := Int.tdiv_nonneg h0 (show (0 : Int) ≤ 1000000 by decide); omega
    · have e : m.tdiv 1000000 = -((-m).tdiv 1000000) := by rw [Int.neg_tdiv]; omega
      rw [e, Int.tdiv_eq_ediv_of_nonneg (by omega)] at h
      omega
  · intro h
    have e : m.tdiv 1000000 = -((-m).tdiv 1000000) := by rw [Int.neg_tdiv]; omega
    rw [e, Int.tdiv_eq_ediv_of_nonneg (by omega)]
    omega
set_option maxHeartbeats 1000000 in
theorem rone_any (c : Cv) (F : ByteArray) (pr nx kk nn : Int) (s R : ByteArray) (w : World) (hF : F.size ≤ 100000) (h45 : F.data.toList.contains 45 = c.left) (h48 : F.data.toList.contains 48 = c.noughts) (h43 : F.data.toList.contains 43 = c.plus) (h32 : F.data.toList.contains 32 = c.blank)
    (hw : c.width ≤ 1000) (hp : c.prec ≤ 1000) (hpr : pr = if c.precise then (c.prec : Int) else -1) (hn : OkN nn) (hs : (strC kk nn s).size ≤ 1000) (hss : s.size ≤ 1000) (hk : c.kind ∈ kindL) (h37 : c.kind ≠ 37) (hR : R.data.toList = oneL c (vaC kk nn s)) :
    Calls Tryz.prog 15 #[spi F (c.width : Int) pr (c.kind.toNat : Int) nx, .agg #[.int .i64 kk, .int .i64 nn, .string s]] w fun e w' => e = .returned (.string R) ∧ Below w.heap.size w w' := by
  have hN := numC_ok (kk := kk) (s := s) hn
  have hNb : (numC kk nn s).natAbs ≤ 4611686018427387903 := by unfold OkN at hN; omega
  have hsz := ba_sz (strC kk nn s)
  have hpb : pr ≤ 1000 ∧ -1 ≤ pr := by rw [hpr]; split <;> omega
  have CN := Lib.hid fun W => rnum_any kk nn s W (by omega)
  have CS := Lib.hid fun W => rstr_any kk nn s W (fun _ => hn)
  have key : ∀ v : UInt8, c.kind = v → Hid (Calls Tryz.prog 15 #[spv F (c.width : Int) pr v nx, .agg #[.int .i64 kk, .int .i64 nn, .string s]] w fun e w' => e = .returned (.string R) ∧ Below w.heap.size w w') → Calls Tryz.prog 15 #[spi F (c.width : Int) pr (c.kind.toNat : Int) nx, .agg #[.int .i64 kk, .int .i64 nn, .string s]] w fun e w' => e = .returned (.string R) ∧ Below w.heap.size w w' := fun v h H => by
    rw [h]; exact H.out
  have H32 : ∀ v, Hid (∀ W, Calls Tryz.prog 35 #[spv F (c.width : Int) pr v nx, .int .u8 32] W fun e w' => e = .returned (.bool c.blank) ∧ Below W.heap.size W w') := fun v => Lib.hid fun W => has_is hF h32 32 rfl W
  have H43 : ∀ v, Hid (∀ W, Calls Tryz.prog 35 #[spv F (c.width : Int) pr v nx, .int .u8 43] W fun e w' => e = .returned (.bool c.plus) ∧ Below W.heap.size W w') := fun v => Lib.hid fun W => has_is hF h43 43 rfl W
  have CZ : Hid (∀ W, Calls Tryz.prog 36 #[.int .i64 (numC kk nn s)] W fun e w' => e = .returned (.int .u64 ((numC kk nn s).natAbs : Int)) ∧ W = w') := Lib.hid fun W => rsize_any _ W (by unfold OkN at hN; omega) (by unfold OkN at hN; omega)
  unfold oneL at hR
  obtain ⟨DS, hDS, hDSs⟩ := has_ba (Lib.decDigits ((numC kk nn s).natAbs / 1000000))
  have hDS20 : DS.size ≤ 20 := by rw [hDSs]; exact dec_len20 _ (by omega)
  have D1 : Hid (∀ W, Calls Tryz.prog 37 #[.int .u64 (((numC kk nn s).natAbs / 1000000 : Nat) : Int)] W fun e w' => e = .returned (.string DS) ∧ Below W.heap.size W w') := Lib.hid fun W => digs_is (by omega) hDS W
  by_cases h1 : c.kind = 115
  · rw [if_pos h1] at hR
    refine key 115 h1 (Lib.hid ?_)
    obtain ⟨T, hT, hTs⟩ := has_ba (strL c (vaC kk nn s))
    have hTl : T.size ≤ 1000 := by rw [hTs]; unfold strL vaC; split <;> simp <;> omega
    refine rone_s F _ pr nx kk nn s c.blank c.plus _ R w (strC kk nn s) T hF hpb.1 hpb.2 CN (H32 115) (H43 115) CS ?_ hs (Lib.hid fun W => wide_is c F pr nx 115 ⟨#[]⟩ T R false hF h45 h48 hw (by decide) (by omega) ?_ ?_ W)
    · unfold strL vaC at hT
      cases hpp : c.precise
      · rw [hpp] at hT hpr
        exact .inl ⟨.inl (by rw [hpr]; simp), WideShapes.bytes_inj hT⟩
      · rw [hpp] at hT hpr
        simp only [if_true] at hT hpr
        by_cases hle : (strC kk nn s).size ≤ c.prec
        · exact .inl ⟨.inr (by omega), WideShapes.bytes_inj (by rw [hT, List.take_of_length_le (by omega)])⟩
        · refine .inr ⟨⟨by omega, by omega⟩, WideShapes.bytes_inj ?_⟩
          rw [hT, hpr, Int.toNat_natCast, ByteArray.data_extract, Array.toList_extract, List.extract_eq_take_drop]; simp
    · unfold takesN; rw [if_pos h1]
    · rw [hR, hT]
  · rw [if_neg h1] at hR
    by_cases h2 : c.kind = 99
    · rw [if_pos h2] at hR
      refine key 99 h2 (Lib.hid ?_)
      obtain ⟨T, hT, hTs⟩ := has_ba (charL (vaC kk nn s))
      have hTl : T.size ≤ 1 := by rw [hTs]; unfold charL; split <;> simp <;> omega
      have hq8 : ((UInt8.ofNat ((nn.tdiv 1000000) % 256).toNat).toNat : Int) = (nn.tdiv 1000000) % 256 := by
        rw [UInt8.toNat_ofNat_of_lt' (by show _ < 256; omega)]; omega
      have hqa : (nn.tdiv 1000000).natAbs ≤ 5000000000000 := by rw [Int.natAbs_tdiv]; show nn.natAbs / 1000000 ≤ _; unfold OkN at hn; omega
      refine rone_c F _ pr nx kk nn s c.blank c.plus _ R w (strC kk nn s) T (nn.tdiv 1000000) (UInt8.ofNat ((nn.tdiv 1000000) % 256).toNat) hF hpb.1 hpb.2 CN (H32 99) (H43 99) CS ?_ hs (Lib.hid fun W => wide_is c F pr nx 99 ⟨#[]⟩ T R false hF h45 h48 hw (by decide) (by omega) ?_ ?_ W)
      · unfold charL vaC at hT
        by_cases hk1 : kk = 1
        · refine .inl ⟨hk1, WideShapes.bytes_inj ?_, rfl, by rw [IntKind.wrap_u8', hq8], by omega, by omega⟩
          rw [hT]; subst hk1; simp [numC]
        · refine .inr ⟨hk1, ?_⟩
          simp only [hk1, decide_false, Bool.false_eq_true, if_false] at hT
          by_cases hle : (strC kk nn s).size ≤ 1
          · exact .inl ⟨hle, WideShapes.bytes_inj (by rw [hT, List.take_of_length_le (by omega)])⟩
          · refine .inr ⟨by omega, WideShapes.bytes_inj ?_⟩
            rw [hT, ByteArray.data_extract, Array.toList_extract, List.extract_eq_take_drop]; simp
      · unfold takesN; rw [if_neg h1, if_pos h2]
      · rw [hR, hT]
    · rw [if_neg h2] at hR
      by_cases h3 : c.kind = 102
      · rw [if_pos h3] at hR
        refine key 102 h3 (Lib.hid ?_)
        have hm6 : (numC kk nn s).natAbs % 1000000 < 1000000 := Nat.mod_lt _ (by decide)
        obtain ⟨DP, hDP, hDPs⟩ := has_ba (Lib.decDigits (1000000 + (numC kk nn s).natAbs % 1000000))
        have hDP7 : DP.size = 7 := by rw [hDPs, six_one _ hm6]; simp [six_len _ hm6]
        have hwp : wantP c ≤ 1000 := by unfold wantP; split <;> omega
        obtain ⟨MS, hMS, hMSs⟩ := has_ba (List.replicate (wantP c) (48 : UInt8))
        rw [List.length_replicate] at hMSs
        have hPT : (DP.extract 1 DP.size).data.toList = six ((numC kk nn s).natAbs % 1000000) := by rw [extk, hDP]; rfl
        obtain ⟨BD, hBD, hBDs⟩ := has_ba (placesL c (numC kk nn s))
        have hBDl : BD.size ≤ 2000 := by
          rw [hBDs]
          have := placesL_len c (numC kk nn s) (by omega)
          omega
        obtain ⟨sg, hsg⟩ : ∃ sg, (if decide (numC kk nn s < 0) = true then ⟨#[45]⟩ else sgB c.blank c.plus : ByteArray) = sg := ⟨_, rfl⟩
        have hsgl := sgB_list c _ sg hsg
        have hsgs := sgB_sz c _ sg hsg
        refine rone_f F _ pr nx kk nn s c.blank c.plus (numC kk nn s) R w (numC kk nn s).natAbs (wantP c) DS DP MS BD sg hF hpb.1 hpb.2 CN (H32 102) (H43 102) CZ hNb (by omega) (by omega) hDS20 ?_ ?_ (by omega) ?_ D1 (Lib.hid fun W => digs_is (by omega) hDP W) (Lib.hid fun W => many_is (by omega) (by omega) (by rw [hMS]; rfl) W) ?_ (Lib.hid fun W => wide_is c F pr nx 102 sg BD R true hF h45 h48 hw (by omega) (by omega) ?_ ?_ W)
        · unfold wantP
          cases hpp : c.precise
          · rw [hpp] at hpr; exact .inl ⟨by rw [hpr]; simp, rfl⟩
          · rw [hpp] at hpr; exact .inr hpr
        · rw [← hsg]; simp
        · rw [ByteArray.size_append, ByteArray.size_extract]; omega
        · unfold placesL at hBD
          by_cases hz : wantP c = 0
          · rw [if_pos hz, List.append_nil] at hBD
            exact .inl ⟨hz, WideShapes.bytes_inj (by rw [hBD, hDS])⟩
          · rw [if_neg hz] at hBD
            refine .inr ⟨by omega, WideShapes.bytes_inj ?_⟩
            rw [hBD, ba_app, ba_app, hDS, ByteArray.data_extract (a := DP.extract 1 DP.size ++ MS), Array.toList_extract, List.extract_eq_take_drop, ba_app, hPT, hMS, List.drop_zero, Nat.sub_zero, take_pad _ _ (six_len _ hm6)]
            rfl
        · unfold takesN; rw [if_neg h1, if_neg h2, if_pos h3]
        · rw [hR, hBD, hsgl]; rfl
      · rw [if_neg h3] at hR
        have ha : ((numC kk nn s).tdiv 1000000).natAbs = (numC kk nn s).natAbs / 1000000 := by rw [Int.natAbs_tdiv]; rfl
        obtain ⟨sg, hsg⟩ : ∃ sg, (if decide ((numC kk nn s).tdiv 1000000 < 0) = true then ⟨#[45]⟩ else sgB c.blank c.plus : ByteArray) = sg := ⟨_, rfl⟩
        have hsgl := sgB_list c _ sg hsg
        have hsgs := sgB_sz c _ sg hsg
        have hsg2 : (if numC kk nn s ≤ -1000000 then ⟨#[45]⟩ else sgB c.blank c.plus : ByteArray) = sg := by rw [← hsg, below_sign]; simp
        have hnb : decide (pr < 0) = takesN c := by
          unfold takesN; rw [if_neg h1, if_neg h2, if_neg h3, hpr]
          cases c.precise
          · simp
          · simp
        have hdx : c.kind = 100 ∨ c.kind = 105 ∨ c.kind = 120 := by
          have : c.kind = 100 ∨ c.kind = 105 ∨ c.kind = 120 ∨ c.kind = 102 ∨ c.kind = 115 ∨ c.kind = 99 ∨ c.kind = 37 := by simpa [kindL] using hk
          rcases this with h | h | h | h | h | h | h
          · exact .inl h
          · exact .inr (.inl h)
          · exact .inr (.inr h)
          · exact absurd h h3
          · exact absurd h h1
          · exact absurd h h2
          · exact absurd h h37
        by_cases h4 : c.kind = 120
        · refine key 120 h4 (Lib.hid ?_)
          obtain ⟨HS, hHS, hHSs⟩ := has_ba (hexL ((numC kk nn s).natAbs / 1000000))
          have hHS17 : HS.size ≤ 17 := by rw [hHSs]; exact hexN_len 17 _
          obtain ⟨X, hX⟩ : ∃ X, (if pr = 0 ∧ (numC kk nn s).natAbs / 1000000 = 0 then ⟨#[]⟩ else HS : ByteArray) = X := ⟨_, rfl⟩
          have hXl : X.data.toList = if pr = 0 ∧ (numC kk nn s).natAbs / 1000000 = 0 then [] else hexL ((numC kk nn s).natAbs / 1000000) := by rw [← hX]; split <;> first | rfl | exact hHS
          have hXs : X.size ≤ 20 := by rw [← hX]; split <;> first | decide | omega
          obtain ⟨MS, hMS, hMSs⟩ := has_ba (List.replicate (pr - (X.size : Int)).toNat (48 : UInt8))
          rw [List.length_replicate] at hMSs
          have hw0 := whole_eq c (numC kk nn s) pr X.data.toList hexL hexL_zero (fun n => hexN_pos 16 n) (fun n h => by unfold natL; rw [if_neg h, if_pos h4]) hpr hXl
          rw [ba_sz] at hw0
          refine rone_x F _ pr nx kk nn s c.blank c.plus (numC kk nn s) R w (numC kk nn s).natAbs DS HS MS X sg hF hpb.1 hpb.2 CN (H32 120) (H43 120) CZ hNb hDS20 hsg2 hX hXs (by omega) D1 (Lib.hid fun W => hex_is (by omega) hHS W) (Lib.hid fun W => many_is (by omega) (by omega) hMS W) (Lib.hid fun W => wide_is c F pr nx 120 sg (MS ++ X) R _ hF h45 h48 hw (by omega) (by rw [ByteArray.size_append]; omega) hnb ?_ W)
          rw [hR, ba_app, hMS, hw0, hsgl]; rfl
        · obtain ⟨X, hX⟩ : ∃ X, (if pr = 0 ∧ (numC kk nn s).natAbs / 1000000 = 0 then ⟨#[]⟩ else DS : ByteArray) = X := ⟨_, rfl⟩
          have hXl : X.data.toList = if pr = 0 ∧ (numC kk nn s).natAbs / 1000000 = 0 then [] else Lib.decDigits ((numC kk nn s).natAbs / 1000000) := by rw [← hX]; split <;> first | rfl | exact hDS
          have hXs : X.size ≤ 20 := by rw [← hX]; split <;> first | decide | omega
          obtain ⟨MS, hMS, hMSs⟩ := has_ba (List.replicate (pr - (X.size : Int)).toNat (48 : UInt8))
          rw [List.length_replicate] at hMSs
          have hw0 := whole_eq c (numC kk nn s) pr X.data.toList Lib.decDigits (by decide +kernel) (fun n => by rw [Lib.decDigits_length]; exact Lib.nDigits_pos n) (fun n h => by unfold natL; rw [if_neg h, if_neg h4]) hpr hXl
          rw [ba_sz] at hw0
          rcases hdx with h5 | h5 | h5
          · refine key 100 h5 (Lib.hid ?_)
            refine rone_d F _ pr nx kk nn s c.blank c.plus (numC kk nn s) R w (numC kk nn s).natAbs DS MS X sg hF hpb.1 hpb.2 CN (H32 100) (H43 100) CZ hNb hDS20 hsg2 hX hXs (by omega) D1 (Lib.hid fun W => many_is (by omega) (by omega) hMS W) (Lib.hid fun W => wide_is c F pr nx 100 sg (MS ++ X) R _ hF h45 h48 hw (by omega) (by rw [ByteArray.size_append]; omega) hnb ?_ W)
            rw [hR, ba_app, hMS, hw0, hsgl]; rfl
          · refine key 105 h5 (Lib.hid ?_)
            refine rone_i F _ pr nx kk nn s c.blank c.plus (numC kk nn s) R w (numC kk nn s).natAbs DS MS X sg hF hpb.1 hpb.2 CN (H32 105) (H43 105) CZ hNb hDS20 hsg2 hX hXs (by omega) D1 (Lib.hid fun W => many_is (by omega) (by omega) hMS W) (Lib.hid fun W => wide_is c F pr nx 105 sg (MS ++ X) R _ hF h45 h48 hw (by omega) (by rw [ByteArray.size_append]; omega) hnb ?_ W)
            rw [hR, ba_app, hMS, hw0, hsgl]; rfl
          · exact absurd h5 h4
end Go.Proofs.YtipcanbeegladaaGreatDoor
