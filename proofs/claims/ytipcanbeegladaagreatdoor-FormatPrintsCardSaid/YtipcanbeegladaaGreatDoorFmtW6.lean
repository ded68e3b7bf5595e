/-
  CONTRACTS of layer 7's readConversion and print, whole: by the mathematics of a conversion and of a value's text.
-/
import Derived.Test.YtipcanbeegladaaGreatDoorFmtW5b
namespace Go.Proofs.YtipcanbeegladaaGreatDoor
open Go.RowKit

theorem index_mem (l : List UInt8) (c : UInt8) : (0 : Int) ≤ Lib.indexByte l c ↔ c ∈ l := by
  induction l with
  | nil => simp [Lib.indexByte]
  | cons b l ih =>
    unfold Lib.indexByte
    by_cases h : b = c
    · simp [h]
    · have hb : (b == c) = false := by simpa using h
      have hcb : ¬ c = b := fun e => h e.symm
      rw [hb]
      by_cases hl : c ∈ l
      · have := ih.2 hl
        have h1 : ¬ Lib.indexByte l c = -1 := by omega
        simp [hl, h1]; omega
      · have h1 : Lib.indexByte l c = -1 := by
          have := Lib.indexByte_ge l c
          have h2 : ¬ 0 ≤ Lib.indexByte l c := fun h => hl (ih.1 h)
          omega
        simp [h1, hl, hcb]
theorem cix_any (c : UInt8) (W : World) : Calls Tryz.prog 24 #[.string ⟨#[100, 105, 120, 102, 115, 99, 37]⟩, .int .u8 (c.toNat : Int)] W fun e w' => e = .returned (.int .i64 (Lib.indexByte kindL c)) ∧ w' = W := by
  refine (Tryz.strings_IndexByte ⟨#[100, 105, 120, 102, 115, 99, 37]⟩ (c.toNat : Int) W).mono ?_
  rintro e w' ⟨rfl, rfl⟩
  refine ⟨?_, rfl⟩
  rw [show ((c.toNat : Int).toNat.toUInt8) = c from by simp]; rfl
theorem get0_ba (R : ByteArray) (h : 0 < R.size) : R.data.toList.head? = some R[0] ∧ R.data.toList.headD 0 = R[0] := by
  have := at_list R 0 h
  cases hl : R.data.toList with
  | nil => rw [hl] at this; simp at this
  | cons a l => rw [hl] at this; simp at this; simp [this]
theorem Calls.below_nu {v : Nat} {s R : ByteArray} {w : World} (h : Calls Tryz.prog 22 #[.string s] w (NuPost v R w)) :
    Calls Tryz.prog 22 #[.string s] w fun e w' => e = .returned (.tuple #[.int .i64 (v : Int), .string R]) ∧ Below w.heap.size w w' :=
  h.mono fun _ _ ⟨h1, h2⟩ => ⟨h1, h2.below⟩
def RcPost (l : List UInt8) (T : ByteArray) (w : World) (e : Ending) (w' : World) : Prop :=
  (if cvE l = 0 then e = .returned (.tuple #[cva (cvOf l).left (cvOf l).noughts (cvOf l).plus (cvOf l).blank ((cvOf l).width : Int) ((cvOf l).prec : Int) (cvOf l).precise ((cvOf l).kind.toNat : Int), .string T, .int .i64 0])
   else e = .returned (.tuple #[cva false false false false 0 0 false 0, .string ⟨#[]⟩, .int .i64 (cvE l)])) ∧ Below w.heap.size w w'
theorem conv_any (s T : ByteArray) (w : World) (hs : s.size ≤ 1000000) (hT : T.data.toList = cvT s.data.toList) :
    Calls Tryz.prog 12 #[.string s] w (RcPost s.data.toList T w) := by
  have hsl := ba_sz s
  obtain ⟨R0, h0, h0s⟩ := has_ba (restF s.data.toList)
  obtain ⟨R1, h1, h1s⟩ := has_ba (cR1 s.data.toList)
  obtain ⟨R2, h2, h2s⟩ := has_ba (cR2 s.data.toList)
  obtain ⟨R1b, hb, hbs⟩ := has_ba ((cR1 s.data.toList).drop 1)
  have l0 : (restF s.data.toList).length ≤ s.data.toList.length := dropW_len _ _
  have l1 := cR1_len s.data.toList
  have l2 := cR2_len s.data.toList
  have lb : R1b.size ≤ R1.size := by rw [hbs, h1s, List.length_drop]; omega
  have C1 : Hid (∀ W b, CvAt W b false false false false 0 0 false 0 → Calls Tryz.prog 21 #[.pointer (some ⟨b, 0, none⟩), .string s] W fun e w' => e = .returned (.string R0) ∧ CvAt w' b (hasF s.data.toList 45) (hasF s.data.toList 48) (hasF s.data.toList 43) (hasF s.data.toList 32) 0 0 false 0 ∧ Only b W w') :=
    Lib.hid fun W b h => flags_any b s R0 0 0 false 0 W h (by omega) h0
  have C2 : Hid (∀ W, Calls Tryz.prog 22 #[.string R0] W fun e w' => e = .returned (.tuple #[.int .i64 (cW s.data.toList : Int), .string R1]) ∧ Below W.heap.size W w') :=
    Lib.hid fun W => Calls.below_nu (number_any R0 R1 (cW s.data.toList) W (by omega) (by rw [h0]; rfl) (by rw [h0, h1]; rfl))
  have hk : ∀ h : 0 < R2.size, (cvOf s.data.toList).kind = R2[0] ∧ ((cR2 s.data.toList).head?.any (kindL.contains ·) = decide ((0 : Int) ≤ Lib.indexByte kindL R2[0])) := by
    intro h
    obtain ⟨g1, g2⟩ := get0_ba R2 h
    rw [h2] at g1 g2
    refine ⟨g2, ?_⟩
    rw [g1, Bool.eq_iff_iff, decide_eq_true_iff]
    show _ ↔ (0 : Int) ≤ Lib.indexByte kindL R2[0]
    rw [index_mem]; simp
  have hTR : T = R2.extract 1 R2.size := WideShapes.bytes_inj (by rw [extk, h2, hT]; rfl)
  cases hd : dotL (cR1 s.data.toList) with
  | true =>
    have C3 : Hid (∀ W, Calls Tryz.prog 23 #[.string R1, .string ⟨#[46]⟩] W fun e w' => e = .returned (.bool true) ∧ w' = W) := Lib.hid (hp_is R1 46 true (by rw [h1]; exact hd))
    have hne : 1 ≤ R1.size := by
      rw [h1s]
      cases hq : cR1 s.data.toList with
      | nil => rw [hq] at hd; simp [dotL] at hd
      | cons a l => simp
    have he : R1.extract 1 R1.size = R1b := WideShapes.bytes_inj (by rw [extk, h1, hb])
    have eP : cP s.data.toList = num1 (((cR1 s.data.toList).drop 1).takeWhile isD) := by unfold cP; rw [hd]; rfl
    have e2 : cR2 s.data.toList = ((cR1 s.data.toList).drop 1).dropWhile isD := by unfold cR2; rw [hd]; rfl
    have C4 : Hid (∀ W, Calls Tryz.prog 22 #[.string R1b] W fun e w' => e = .returned (.tuple #[.int .i64 (cP s.data.toList : Int), .string R2]) ∧ Below W.heap.size W w') :=
      Lib.hid fun W => Calls.below_nu (number_any R1b R2 (cP s.data.toList) W (by omega) (by rw [hb, eP]) (by rw [hb, h2, e2]))
    by_cases h12 : 1000 < cW s.data.toList ∨ 1000 < cP s.data.toList
    · have hE : cvE s.data.toList = 12 := by unfold cvE; rw [if_pos h12]
      refine (conv_12d s R0 R1 R1b R2 T _ _ _ _ _ _ w (by omega) C1 C2 C3 he hne (by omega) C4 h12).mono ?_
      rintro e w' ⟨rfl, hB⟩
      exact ⟨by rw [if_neg (by rw [hE]; decide), hE], hB⟩
    · by_cases hz : R2.size = 0
      · have hn : R2.data.toList = [] := List.length_eq_zero_iff.1 (by rw [ba_sz, hz])
        have hE : cvE s.data.toList = 16 := by unfold cvE; rw [if_neg h12, ← h2, hn]; rfl
        refine (conv_16ed s R0 R1 R1b R2 T _ _ _ _ _ _ w (by omega) C1 C2 C3 he hne (by omega) C4 (by omega) (by omega) (by rw [toList_data', hn])).mono ?_
        rintro e w' ⟨rfl, hB⟩
        exact ⟨by rw [if_neg (by rw [hE]; decide), hE], hB⟩
      · have hz : 0 < R2.size := by omega
        obtain ⟨k1, k2⟩ := hk hz
        by_cases hi : (0 : Int) ≤ Lib.indexByte kindL R2[0]
        · have hE : cvE s.data.toList = 0 := by unfold cvE; rw [if_neg h12, k2, decide_eq_true hi]; rfl
          refine (conv_okd s R0 R1 R1b R2 T _ _ _ _ _ _ w (by omega) C1 C2 C3 he hne (by omega) C4 (by omega) (by omega) hz (by omega) _ hi (Lib.hid (cix_any _)) (Lib.hid hTR)).mono ?_
          rintro e w' ⟨rfl, hB⟩
          refine ⟨?_, hB⟩
          rw [if_pos hE, k1]
          unfold cvOf
          simp only [hd]
        · have hE : cvE s.data.toList = 16 := by unfold cvE; rw [if_neg h12, k2, decide_eq_false hi]; rfl
          refine (conv_16kd s R0 R1 R1b R2 T _ _ _ _ _ _ w (by omega) C1 C2 C3 he hne (by omega) C4 (by omega) (by omega) hz _ (by omega) (Lib.hid (cix_any _))).mono ?_
          rintro e w' ⟨rfl, hB⟩
          exact ⟨by rw [if_neg (by rw [hE]; decide), hE], hB⟩
  | false =>
    have C3 : Hid (∀ W, Calls Tryz.prog 23 #[.string R1, .string ⟨#[46]⟩] W fun e w' => e = .returned (.bool false) ∧ w' = W) := Lib.hid (hp_is R1 46 false (by rw [h1]; exact hd))
    have eP : cP s.data.toList = 0 := by unfold cP; rw [hd]; rfl
    have e2 : R2 = R1 := WideShapes.bytes_inj (by rw [h2, h1]; unfold cR2; rw [hd]; rfl)
    subst e2
    by_cases h12 : 1000 < cW s.data.toList
    · have hE : cvE s.data.toList = 12 := by unfold cvE; rw [if_pos (.inl h12)]
      refine (conv_12 s R0 R2 T _ _ _ _ _ w (by omega) C1 C2 C3 h12).mono ?_
      rintro e w' ⟨rfl, hB⟩
      exact ⟨by rw [if_neg (by rw [hE]; decide), hE], hB⟩
    · have h12' : ¬ (1000 < cW s.data.toList ∨ 1000 < cP s.data.toList) := by rw [eP]; omega
      by_cases hz : R2.size = 0
      · have hn : R2.data.toList = [] := List.length_eq_zero_iff.1 (by rw [ba_sz, hz])
        have hE : cvE s.data.toList = 16 := by unfold cvE; rw [if_neg h12', ← h2, hn]; rfl
        refine (conv_16e s R0 R2 T _ _ _ _ _ w (by omega) C1 C2 C3 (by omega) (by rw [toList_data', hn])).mono ?_
        rintro e w' ⟨rfl, hB⟩
        exact ⟨by rw [if_neg (by rw [hE]; decide), hE], hB⟩
      · have hz : 0 < R2.size := by omega
        obtain ⟨k1, k2⟩ := hk hz
        by_cases hi : (0 : Int) ≤ Lib.indexByte kindL R2[0]
        · have hE : cvE s.data.toList = 0 := by unfold cvE; rw [if_neg h12', k2, decide_eq_true hi]; rfl
          refine (conv_ok s R0 R2 T _ _ _ _ _ w (by omega) C1 C2 C3 (by omega) hz (by omega) _ hi (Lib.hid (cix_any _)) (Lib.hid hTR)).mono ?_
          rintro e w' ⟨rfl, hB⟩
          refine ⟨?_, hB⟩
          rw [if_pos hE, k1]
          unfold cvOf
          simp only [hd, eP]
          rfl
        · have hE : cvE s.data.toList = 16 := by unfold cvE; rw [if_neg h12', k2, decide_eq_false hi]; rfl
          refine (conv_16k s R0 R2 T _ _ _ _ _ w (by omega) C1 C2 C3 (by omega) hz _ (by omega) (Lib.hid (cix_any _))).mono ?_
          rintro e w' ⟨rfl, hB⟩
          exact ⟨by rw [if_neg (by rw [hE]; decide), hE], hB⟩

/-! A value, printed. -/
def vaC (kk nn : Int) (s : ByteArray) : Va := ⟨decide (kk = 1), numC kk nn s, (strC kk nn s).data.toList⟩
theorem prefix_okN (l : List UInt8) : OkN (prefixL l).1 := by
  have key : ∀ (A : Prop) [Decidable A] (b : Bool) (v k : Nat), OkN (if A then ((0 : Int), (0 : Nat)) else (sgnI b (min mostN v), k)).1 := by
    intro A _ b v k
    split
    · unfold OkN; omega
    · unfold OkN sgnI mostN; simp only; split <;> omega
  exact key _ _ _ _
theorem numC_ok {kk nn : Int} {s : ByteArray} (h : OkN nn) : OkN (numC kk nn s) := by
  unfold numC; split
  · exact prefix_okN _
  · exact h
theorem u8k (c : UInt8) (n : Nat) (hn : n < 256) : (c.toNat : Int) = (n : Int) ↔ c = UInt8.ofNat n := by
  constructor
  · intro h
    apply UInt8.toNat_inj.1
    rw [UInt8.toNat_ofNat_of_lt' hn]; omega
  · rintro rfl
    rw [UInt8.toNat_ofNat_of_lt' hn]
theorem takes_eq (c : Cv) : takesI (c.kind.toNat : Int) c.precise = takesN c := by
  unfold takesI takesN
  have h1 := u8k c.kind 115 (by decide)
  have h2 := u8k c.kind 99 (by decide)
  have h3 := u8k c.kind 102 (by decide)
  simp only [show ((115 : Nat) : Int) = 115 from rfl, show ((99 : Nat) : Int) = 99 from rfl, show ((102 : Nat) : Int) = 102 from rfl] at h1 h2 h3
  rw [show (UInt8.ofNat 115) = 115 from rfl] at h1
  rw [show (UInt8.ofNat 99) = 99 from rfl] at h2
  rw [show (UInt8.ofNat 102) = 102 from rfl] at h3
  simp only [h1, h2, h3]
theorem sign_eq (c : Cv) (b : Bool) : (signB b c.plus c.blank).data.toList = signL c b := by
  unfold signB signL
  cases b <;> cases c.plus <;> cases c.blank <;> rfl
theorem fill_eq (c : Cv) (sg bd : List UInt8) : fillI c.left c.noughts (takesN c) c.width sg bd = fillL c sg bd := rfl
theorem digits_eq (c : Cv) (n : Int) : digitsI c.precise c.prec (c.kind.toNat : Int) n = digitsL c n := by
  have h : natI (c.kind.toNat : Int) n.natAbs = natL c n.natAbs := by
    unfold natI natL
    have h1 := u8k c.kind 120 (by decide)
    rw [show (UInt8.ofNat 120) = 120 from rfl, show ((120 : Nat) : Int) = 120 from rfl] at h1
    simp only [h1]
  unfold digitsI digitsL; rw [h]
theorem sgn_sz (b p bl : Bool) : (signB b p bl).size ≤ 1 := by cases b <;> cases p <;> cases bl <;> decide
set_option maxHeartbeats 1000000 in
theorem print_any (c : Cv) (kk nn : Int) (s R : ByteArray) (w : World) (hw : c.width ≤ 1000) (hp : c.prec ≤ 1000) (hn : OkN nn) (hs : (strC kk nn s).size ≤ 100000) (hss : s.size ≤ 100000) (_h37 : c.kind ≠ 37) (G : Gf w) (hR : R.data.toList = oneL c (vaC kk nn s)) :
    Calls Tryz.prog 13 #[cva c.left c.noughts c.plus c.blank (c.width : Int) (c.prec : Int) c.precise (c.kind.toNat : Int), cv kk nn s] w fun e w' => e = .returned (.string R) ∧ Below w.heap.size w w' := by
  have hN := numC_ok (kk := kk) (s := s) hn
  have hNb : (numC kk nn s).natAbs ≤ 4611686018427387903 := by unfold OkN at hN; omega
  have hsz := ba_sz (strC kk nn s)
  have hk : ∀ n : Nat, n < 256 → c.kind = UInt8.ofNat n → (c.kind.toNat : Int) = (n : Int) := fun n hn h => (u8k c.kind n hn).2 h
  unfold oneL at hR
  by_cases h1 : c.kind = 115
  · rw [if_pos h1] at hR
    rw [hk 115 (by decide) h1]
    obtain ⟨T, hT, hTs⟩ := has_ba (strL c (vaC kk nn s))
    have hTl : T.size ≤ 100000 := by rw [hTs]; unfold strL vaC; split <;> simp <;> omega
    refine print_s c.left c.noughts c.plus c.blank (c.width : Int) (c.prec : Int) c.precise kk nn s T R w (Lib.hid G) (Lib.hid fun W G => ?_) (Lib.hid fun W => ?_)
    · exact ftext_any c.left c.noughts c.plus c.blank (c.width : Int) c.prec c.precise 115 kk nn s T W (fun _ => hn) (by omega) (by omega) G hT
    · refine fill_any c.left c.noughts c.plus c.blank c.width (c.prec : Int) c.precise 115 ⟨#[]⟩ T R W (by omega) (by decide) (by omega) ?_
      rw [hR, hT, show (115 : Int) = (c.kind.toNat : Int) from (hk 115 (by decide) h1).symm, takes_eq]; rfl
  · rw [if_neg h1] at hR
    by_cases h2 : c.kind = 99
    · rw [if_pos h2] at hR
      rw [hk 99 (by decide) h2]
      obtain ⟨T, hT, hTs⟩ := has_ba (charL (vaC kk nn s))
      have hTl : T.size ≤ 1 := by rw [hTs]; unfold charL; split <;> simp <;> omega
      refine print_c c.left c.noughts c.plus c.blank (c.width : Int) (c.prec : Int) c.precise kk nn s T R w (Lib.hid G) (Lib.hid fun W G => ?_) (Lib.hid fun W => ?_)
      · refine char_any kk nn s T W (fun _ => hn) (by omega) G ?_
        rw [hT]; unfold charL charB vaC numC strC
        by_cases hk1 : kk = 1
        · subst hk1; simp
        · simp [hk1]
      · refine fill_any c.left c.noughts c.plus c.blank c.width (c.prec : Int) c.precise 99 ⟨#[]⟩ T R W (by omega) (by decide) (by omega) ?_
        rw [hR, hT, show (99 : Int) = (c.kind.toNat : Int) from (hk 99 (by decide) h2).symm, takes_eq]; rfl
    · rw [if_neg h2] at hR
      by_cases h3 : c.kind = 102
      · rw [if_pos h3] at hR
        rw [hk 102 (by decide) h3]
        obtain ⟨T, hT, hTs⟩ := has_ba (placesL c (numC kk nn s))
        have hTl : T.size ≤ 2000 := by
          rw [hTs]
          have := placesL_len c (numC kk nn s) (by omega)
          have hq : wantP c ≤ 1000 := by unfold wantP; split <;> omega
          omega
        have hsg := sgn_sz (decide (numC kk nn s < 0)) c.plus c.blank
        refine print_f c.left c.noughts c.plus c.blank (c.width : Int) (c.prec : Int) c.precise kk nn (numC kk nn s) s (signB (decide (numC kk nn s < 0)) c.plus c.blank) T R (decide (numC kk nn s < 0)) w rfl (Lib.hid G) (Lib.hid fun W => ?_) (Lib.hid fun W => ?_) (Lib.hid fun W G => ?_) (Lib.hid fun W => ?_)
        · exact cnum_any kk nn s W (by omega)
        · exact sign_any _ _ _ _ _ _ _ _ _ W
        · exact places_any _ _ _ _ _ c.prec _ _ _ T W hN (by omega) G (by rw [hT]; rfl)
        · refine fill_any c.left c.noughts c.plus c.blank c.width (c.prec : Int) c.precise 102 _ T R W (by omega) (by omega) (by omega) ?_
          rw [hR, hT, show (102 : Int) = (c.kind.toNat : Int) from (hk 102 (by decide) h3).symm, takes_eq, sign_eq]; rfl
      · rw [if_neg h3] at hR
        have g1 : (c.kind.toNat : Int) ≠ 115 := fun h => h1 ((u8k c.kind 115 (by decide)).1 h)
        have g2 : (c.kind.toNat : Int) ≠ 99 := fun h => h2 ((u8k c.kind 99 (by decide)).1 h)
        have g3 : (c.kind.toNat : Int) ≠ 102 := fun h => h3 ((u8k c.kind 102 (by decide)).1 h)
        have hmb : ((numC kk nn s).tdiv 1000000).natAbs ≤ 4611686018427387903 := by rw [Int.natAbs_tdiv]; exact Nat.le_trans (Nat.div_le_self _ _) hNb
        obtain ⟨T, hT, hTs⟩ := has_ba (digitsL c ((numC kk nn s).tdiv 1000000))
        have hTl : T.size ≤ 2000 := by
          rw [hTs]; unfold digitsL
          have := natL_len c ((numC kk nn s).tdiv 1000000).natAbs (by omega)
          rw [List.length_append, List.length_replicate]
          have : (if c.precise then c.prec else 1) ≤ 1000 := by split <;> omega
          omega
        have hsg := sgn_sz (decide ((numC kk nn s).tdiv 1000000 < 0)) c.plus c.blank
        refine print_d c.left c.noughts c.plus c.blank (c.width : Int) (c.prec : Int) c.precise (c.kind.toNat : Int) kk nn (numC kk nn s) ((numC kk nn s).tdiv 1000000) s (signB (decide ((numC kk nn s).tdiv 1000000 < 0)) c.plus c.blank) T R (decide ((numC kk nn s).tdiv 1000000 < 0)) w g1 g2 g3 rfl (Lib.hid G) (Lib.hid fun W => ?_) (Lib.hid fun W => ?_) (Lib.hid fun W => ?_) (Lib.hid fun W G => ?_) (Lib.hid fun W => ?_)
        · exact cnum_any kk nn s W (by omega)
        · exact whole_any _ W hN
        · exact sign_any _ _ _ _ _ _ _ _ _ W
        · exact digits_any _ _ _ _ _ c.prec _ _ _ T W (by omega) (by omega) G (by rw [hT, digits_eq])
        · refine fill_any c.left c.noughts c.plus c.blank c.width (c.prec : Int) c.precise _ _ T R W (by omega) (by omega) (by omega) ?_
          rw [hR, hT, takes_eq, sign_eq]; rfl
end Go.Proofs.YtipcanbeegladaaGreatDoor
