/-
  THE WALK of scribelaw07.FormatWide: it returns true and writes to nothing that was there.
-/
import Derived.Test.YtciicmmfplnekaaGreatDoorFPlacesW
namespace Go.Proofs.YtciicmmfplnekaaGreatDoor
open Go.RowKit
open Go.Lib (decDigits)

theorem dec_print (wd : Nat) (s : List UInt8) : oneL (plainC 100) ⟨true, (wd : Int) * 1000000, s⟩ = decDigits wd := by
  have h1 : ((wd : Int) * 1000000).tdiv 1000000 = wd := Int.mul_tdiv_cancel _ (by decide)
  unfold oneL
  rw [if_neg (by show ¬ (100 : UInt8) = 115; decide), if_neg (by show ¬ (100 : UInt8) = 99; decide), if_neg (by show ¬ (100 : UInt8) = 102; decide)]
  show fillL (plainC 100) (signL (plainC 100) (decide (((wd : Int) * 1000000).tdiv 1000000 < 0))) (digitsL (plainC 100) (((wd : Int) * 1000000).tdiv 1000000)) = _
  rw [h1, decide_eq_false (by omega)]
  unfold fillL
  show List.replicate (0 - _ - _) 32 ++ _ ++ _ = _
  rw [show ∀ a b : Nat, 0 - a - b = 0 from fun a b => by omega]
  have hN : natL (plainC 100) ((wd : Int)).natAbs = if wd = 0 then [] else decDigits wd := by
    unfold natL
    rw [Int.natAbs_natCast]
    rfl
  unfold digitsL
  rw [hN]
  by_cases h0 : wd = 0
  · subst h0; decide +kernel
  · rw [if_neg h0]
    have : 1 ≤ (decDigits wd).length := by
      cases hd : decDigits wd with
      | nil => exact absurd hd (dec_ne _)
      | cons a l => simp
    show _ ++ (List.replicate (1 - (decDigits wd).length) 48 ++ decDigits wd) = _
    rw [show 1 - (decDigits wd).length = 0 by omega]
    simp [signL, plainC]
theorem beq_of {a b : Int} (h : a = b) : (a == b) = true := by simp [h]
def kinds6 : List UInt8 := [100, 105, 120, 102, 115, 99]
set_option maxRecDepth 100000 in
set_option maxHeartbeats 8000000 in
theorem wide_in (left zero : Bool) (n : Int) (wd : Nat) (hwn : n = (wd : Int)) (v : UInt8) (k nn : Int) (s : ByteArray) (hs : s.size ≤ maxLen) (hwd : wd ≤ 100) (w : World) (G : Gf w) (hg : goodB (Ce.cut ⟨k, nn, s⟩) = true) :
    Calls Tryz.prog 6 #[.bool left, .bool zero, .int .i64 n, .int .u8 (v.toNat : Int), cv k nn s] w fun e w' => e = .returned (.bool true) ∧ Below w.heap.size w w' := by
  have CA := Lib.hid fun W G => fawake_any W G
  have HG := Lib.hid G
  have CG : Hid (∀ W p, CeAt W p [⟨k, nn, s⟩] → Calls Tryz.prog 10 #[.slice p 1 1, .int .i64 1] W (GdPost (goodL [⟨k, nn, s⟩] 1) W)) :=
    Lib.hid fun W p hA => goodrow_any p 1 [⟨k, nn, s⟩] 1 W hA (by show 1 ≤ maxLen; decide) (by omega) (fun t ht => by rw [List.mem_singleton.1 ht]; exact hs)
  have HCE := Lib.hid (ce_alloc (w.alloc (.cells #[.int .i64 k, .int .i64 nn, .string s] 36)) [⟨k, nn, s⟩] #[.int .i64 k, .int .i64 nn, .string s] rfl)
  rw [World.size_alloc] at HCE
  have HB0 := Lib.hid (((Below.refl w.heap.size w).alloc (Nat.le_refl _) (.cells #[.int .i64 k, .int .i64 nn, .string s] 36)).alloc (by simp) (.cells #[.int .i64 k, .int .i64 nn, .string s] 36))
  rw [goodL_one, if_pos hg] at CG
  have hgc := (goodB_iff _).1 hg
  have hgs : (Ce.cut ⟨k, nn, s⟩).s.size ≤ 100 := cutB_size s 100
  generalize Ce.cut ⟨k, nn, s⟩ = d at *
  have ok := good_okN hgc
  have hsm := va_small ok hgs
  have CI := Lib.hid fun W => cint_any n W (by omega)
  rw [show clampI (n * 1000000) = n * 1000000 from clamp_id (by unfold OkN; omega)] at CI
  have hdp : ∀ l, oneL (plainC 100) ⟨true, n * 1000000, l⟩ = decDigits wd := fun l => by rw [hwn]; exact dec_print wd l
  obtain ⟨x, hx⟩ : ∃ x, n * 1000000 = x := ⟨_, rfl⟩
  rw [hx] at CI
  obtain ⟨D, hD, hDs⟩ := has_ba (decDigits wd)
  have hDl : D.size ≤ 20 := by rw [hDs]; exact dec_len20 wd (by omega)
  have hcn : OkN x := by unfold OkN; omega
  have PD : Hid (∀ W q c, CeAt W q [⟨1, x, ⟨#[]⟩⟩] → 1 ≤ c → Gf W → Calls Tryz.prog 11 #[.string ⟨#[37, 100]⟩, .slice q 1 c] W fun e w' => e = .returned (.tuple #[.string D, .int .i64 0]) ∧ Below W.heap.size W w') :=
    Lib.hid fun W q c hA hc G => gprint1 _ D ⟨1, x, ⟨#[]⟩⟩ (by decide) ⟨hcn, by show 0 ≤ 100; omega⟩ 0 (by
      rw [show (⟨#[37, 100]⟩ : ByteArray).data.toList = [37, 100] from rfl, plain_print 100 _ (by decide) (va_small hcn (by show 0 ≤ 100; omega)), hD]
      congr 1
      have := hdp (textL x)
      rw [hx] at this
      exact this) W q c hA hc G
  obtain ⟨F, hF⟩ : ∃ F : ByteArray, F.data.toList = 37 :: (flL left zero ++ (wdL wd ++ [v])) := ⟨⟨(37 :: (flL left zero ++ (wdL wd ++ [v]))).toArray⟩, by simp⟩
  obtain ⟨S, hS, hSs⟩ := has_ba (printL F.data.toList [] [d.va]).1
  obtain ⟨T, hT, hTs⟩ := has_ba (printL [37, v] [] [d.va]).1
  obtain ⟨E1, hE1⟩ : ∃ E, (printL F.data.toList [] [d.va]).2 = E := ⟨_, rfl⟩
  obtain ⟨E2, hE2⟩ : ∃ E, (printL [37, v] [] [d.va]).2 = E := ⟨_, rfl⟩
  have hFs : F.size ≤ 200 := by
    rw [← ba_sz, hF]
    have h1 : (flL left zero).length ≤ 2 := by cases left <;> cases zero <;> decide
    have h2 : (wdL wd).length ≤ 20 := by unfold wdL; split <;> first | (simp; done) | (rw [← hDs]; omega)
    simp; omega
  have P1 : Hid (∀ X : ByteArray, X.data.toList = 37 :: (flL left zero ++ (wdL wd ++ [v])) → ∀ W q c, CeAt W q [d] → 1 ≤ c → Gf W → Calls Tryz.prog 11 #[.string X, .slice q 1 c] W fun e w' => e = .returned (.tuple #[.string S, .int .i64 E1]) ∧ Below W.heap.size W w') :=
    Lib.hid fun X hX W q c hA hc G => by
      obtain rfl : X = F := WideShapes.bytes_inj (by rw [hX, hF])
      exact gprint1 X S d (by omega) ⟨ok, hgs⟩ E1 (by rw [hS, ← hE1]) W q c hA hc G
  have P2 : Hid (∀ W q c, CeAt W q [d] → 1 ≤ c → Gf W → Calls Tryz.prog 11 #[.string (⟨#[37]⟩ ++ ⟨#[v]⟩), .slice q 1 c] W fun e w' => e = .returned (.tuple #[.string T, .int .i64 E2]) ∧ Below W.heap.size W w') :=
    Lib.hid fun W q c hA hc G => gprint1 _ T d (by rw [ByteArray.size_append]; show 1 + 1 ≤ 2000; omega) ⟨ok, hgs⟩ E2 (by
      rw [show (⟨#[37]⟩ ++ ⟨#[v]⟩ : ByteArray).data.toList = [37, v] from by simp, hT, ← hE2]) W q c hA hc G
  have HKN : Hid (v ∈ kinds6 → E1 = 0 ∧ E2 = 0 ∧ (S.size : Int) = max n (T.size : Int)) := Lib.hid fun hv => by
    have w1 := wide_print left zero wd v d.va hwd hv hsm
    have w2 := plain_print v d.va hv hsm
    rw [← hF] at w1
    rw [w1] at hE1 hS
    rw [w2] at hE2 hT
    refine ⟨hE1.symm, hE2.symm, ?_⟩
    have := wide_len left zero wd v d.va
    have a1 : S.size = (oneL (wideC left zero wd v) d.va).length := by rw [← ba_sz, hS]
    have a2 : T.size = (oneL (plainC v) d.va).length := by rw [← ba_sz, hT]
    omega
  have HF := Lib.hid hF
  have HD := Lib.hid hD
  have HCV := fun W => conv_u8 v W 5
  have hwi : n ≤ 100 := by omega
  have hwj : 0 ≤ n := by omega
  have HW0 : Hid (n = 0 ↔ wd = 0) := Lib.hid (by omega)
  have hDi : (D.size : Int) ≤ 20 := by omega
  clear hx hdp hg hgc hgs hsm ok hcn hD hDs hF hFs hS hSs hT hTs hE1 hE2 hs
  unfold cv at CI ⊢
  have z1 : (⟨#[37]⟩ : ByteArray).size = 1 := rfl
  have z2 : (⟨#[v]⟩ : ByteArray).size = 1 := rfl
  have z3 : (⟨#[45]⟩ : ByteArray).size = 1 := rfl
  have z4 : (⟨#[48]⟩ : ByteArray).size = 1 := rfl
  clear hwn hwd
  cases left <;> cases zero
  all_goals
    by_cases h0 : n = 0
    all_goals
      first
        | (have HZ : Hid (wdL wd = []) := Lib.hid (by unfold wdL; rw [if_pos (HW0.out.1 h0)])
           subst h0)
        | (have h0b : (n == 0) = false := by simpa using h0
           have HZ : Hid (wdL wd = D.data.toList) := Lib.hid (by unfold wdL; rw [if_neg (fun h => h0 (HW0.out.2 h)), HD.out]))
      go_enter Tryz.func6, Tryz.ntmps6
      go_wp2_with fail
      (with_reducible refine (CG.out _ _ HCE.out).mono ?_)
      rintro e w1 ⟨g, c, rfl, hCe, hc, hb1⟩
      have HB1 := Lib.hid (HB0.out.trans (hb1.mono HB0.out.size))
      have HC := Lib.hid hCe
      have HL := Lib.hid (show 1 ≤ c from hc)
      clear hb1 hCe hc HCE HB0
      go_wp2_with fail
      (with_reducible refine (CI.out _).mono ?_)
      rintro e w2 ⟨rfl, hb2⟩
      have HB2 := Lib.hid (HB1.out.trans (hb2.mono HB1.out.size))
      have HC2 := Lib.hid (HC.out.below hb2 (Nat.le_refl _))
      have HCI := Lib.hid (ce_alloc w2 [⟨1, x, ⟨#[]⟩⟩] #[.int .i64 1, .int .i64 x, .string ⟨#[]⟩] rfl)
      clear hb2 HB1 HC
      go_wp2_with fail
      (with_reducible refine (PD.out _ _ _ HCI.out (Nat.le_refl _) (HG.out.next (HB2.out.alloc HB2.out.size _))).mono ?_)
      rintro e w3 ⟨rfl, hb3⟩
      have HB3 := Lib.hid ((HB2.out.alloc HB2.out.size _).trans (hb3.mono (by simp; have := HB2.out.size; omega)))
      have HC3 := Lib.hid (HC2.out.below (below_new hb3) (Nat.le_refl _))
      clear hb3 HB2 HC2 HCI
      go_wp2_with fail
      (with_reducible refine (P1.out _ ?hx _ _ _ (HC3.out.below ((Below.refl _ _).alloc (Nat.le_refl _) _) (Nat.le_refl _)) HL.out (HG.out.next (HB3.out.alloc HB3.out.size _))).mono ?_)
      case hx => rw [HZ.out]; simp [flL]
      rintro e w4 ⟨rfl, hb4⟩
      have HB4 := Lib.hid ((HB3.out.alloc HB3.out.size _).trans (hb4.mono (by simp; have := HB3.out.size; omega)))
      have HC4 := Lib.hid (HC3.out.below (below_new hb4) (Nat.le_refl _))
      clear hb4 HB3 HC3
      go_wp2_with fail
      (with_reducible refine (P2.out _ _ _ (HC4.out.below ((Below.refl _ _).alloc (Nat.le_refl _) _) (Nat.le_refl _)) HL.out (HG.out.next (HB4.out.alloc HB4.out.size _))).mono ?_)
      rintro e w5 ⟨rfl, hb5⟩
      have HB5 := Lib.hid ((HB4.out.alloc HB4.out.size _).trans (hb5.mono (by simp; have := HB4.out.size; omega)))
      clear hb5 HB4 HC4 P1 P2 PD CI CG
      by_cases hv : v ∈ kinds6
      · obtain ⟨e1, e2, e3⟩ := HKN.out hv
        have e4 := beq_of e3
        have HE3 := Lib.hid e3
        subst e1 e2
        clear e3 HKN HCV z2
        have hv' : v = 100 ∨ v = 105 ∨ v = 120 ∨ v = 102 ∨ v = 115 ∨ v = 99 := by simpa [kinds6] using hv
        clear hv
        rcases hv' with rfl | rfl | rfl | rfl | rfl | rfl
        all_goals
          go_wp2_with fail
          (with_reducible refine (CA.out _ (HG.out.next HB5.out)).mono ?_)
          rintro e w6 ⟨rfl, hb6⟩
          have HB6 := Lib.hid (HB5.out.trans (hb6.mono HB5.out.size))
          clear hb6
          go_wp2_with fail
          go_ret
          exact ⟨by simp [HE3.out], HB6.out⟩
      · have hvn : ∀ c : UInt8, c ∈ kinds6 → ((v.toNat : Int) == (c.toNat : Int)) = false := fun c hc => by
          rw [beq_eq_false_iff_ne]
          intro h
          rw [u8_of h] at hv; exact hv hc
        have v1 := hvn 100 (by decide)
        have v2 := hvn 105 (by decide)
        have v3 := hvn 120 (by decide)
        have v4 := hvn 102 (by decide)
        have v5 := hvn 115 (by decide)
        have v6 := hvn 99 (by decide)
        rw [show (((100 : UInt8).toNat : Nat) : Int) = 100 from rfl] at v1
        rw [show (((105 : UInt8).toNat : Nat) : Int) = 105 from rfl] at v2
        rw [show (((120 : UInt8).toNat : Nat) : Int) = 120 from rfl] at v3
        rw [show (((102 : UInt8).toNat : Nat) : Int) = 102 from rfl] at v4
        rw [show (((115 : UInt8).toNat : Nat) : Int) = 115 from rfl] at v5
        rw [show (((99 : UInt8).toNat : Nat) : Int) = 99 from rfl] at v6
        clear hvn hv HKN
        go_wp2_with fail
        (with_reducible refine (CA.out _ (HG.out.next HB5.out)).mono ?_)
        rintro e w6 ⟨rfl, hb6⟩
        have HB6 := Lib.hid (HB5.out.trans (hb6.mono HB5.out.size))
        clear hb6
        go_wp2_with fail
        go_ret
        exact ⟨rfl, HB6.out⟩
end Go.Proofs.YtciicmmfplnekaaGreatDoor
