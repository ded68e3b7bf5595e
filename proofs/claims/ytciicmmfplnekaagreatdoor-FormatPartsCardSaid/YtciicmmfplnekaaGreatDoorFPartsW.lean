/-
  THE WALK of scribelaw07.FormatParts: it returns true and writes to nothing that was there.
-/
import Derived.Test.YtciicmmfplnekaaGreatDoorFPlacesW
namespace Go.Proofs.YtciicmmfplnekaaGreatDoor
open Go.RowKit

/-- What is printed without an error isn't long. -/
theorem printG_lim : ∀ (f : Nat) (l out : List UInt8) (vs : List Va) (x : List UInt8), l.length < f → printG f l out vs = (x, 0) → x.length ≤ 4000
  | 0, l, _, _, _, h, _ => by omega
  | f + 1, [], out, vs, x, _, h => by
    simp only [printG] at h
    split at h
    · cases h
    · have := congrArg Prod.fst h
      simp only at this; rw [← this]; omega
  | f + 1, c :: r, out, vs, x, hl, h => by
    simp only [List.length_cons] at hl
    have hT := cvT_len r
    simp only [printG] at h
    split at h
    · exact printG_lim f _ _ _ _ (by omega) h
    · split at h
      · rename_i hE; exact absurd (congrArg Prod.snd h) hE
      · split at h
        · exact printG_lim f _ _ _ _ (by omega) h
        · split at h
          · cases h
          · exact printG_lim f _ _ _ _ (by omega) h
theorem print_lim (l : List UInt8) (vs : List Va) (x : List UInt8) (h : printL l [] vs = (x, 0)) : x.length ≤ 4000 := printG_lim _ _ _ _ _ (Nat.lt_succ_self _) h
/-- How many percent signs. -/
def cnt (l : List UInt8) : Nat := (l.filter (· == 37)).length
theorem cnt_snoc (s : ByteArray) (k : Nat) (h : k < s.size) : cnt (s.data.toList.take (k + 1)) = cnt (s.data.toList.take k) + if (s[k].toNat : Int) = 37 then 1 else 0 := by
  unfold cnt
  rw [take_snoc s k h, List.filter_append, List.length_append]
  congr 1
  by_cases h37 : (s[k].toNat : Int) = 37
  · rw [if_pos h37]
    have : s[k] = 37 := u8_of h37
    rw [this]; rfl
  · rw [if_neg h37]
    have : (s[k] == 37) = false := by rw [beq_eq_false_iff_ne]; intro h; exact h37 (by rw [h]; rfl)
    simp [this]
theorem cnt_le (l : List UInt8) : cnt l ≤ l.length := List.length_filter_le _ _
theorem cnt_one (r : List UInt8) (h : cnt (37 :: r) = 1) : ∀ c ∈ r, c ≠ 37 := by
  unfold cnt at h
  rw [List.filter_cons, if_pos (by decide), List.length_cons] at h
  have : r.filter (· == 37) = [] := List.length_eq_zero_iff.1 (by omega)
  intro c hc h37
  have := List.filter_eq_nil_iff.1 this c hc
  exact this (by rw [h37]; decide)
set_option maxHeartbeats 1000000 in
theorem count_any (s : ByteArray) (w : World) (hs : s.size ≤ 1000) :
    Calls Tryz.prog 15 #[.string s] w fun e w' => e = .returned (.int .i64 (cnt s.data.toList : Int)) ∧ w = w' := by
  go_enter Tryz.func15, Tryz.ntmps15
  go_wp2
  go_loop [3, 4] (fun n i => ∃ k u : Nat, k ≤ s.size ∧ u ≤ k ∧ i = .int .i64 k ∧ n = .int .i64 u ∧ Hid (u = cnt (s.data.toList.take k))) (fun _ i => s.size - (intOf i).toNat)
  case atStart => exact ⟨0, 0, Nat.zero_le _, Nat.le_refl _, rfl, rfl, Lib.hid rfl⟩
  case round =>
    obtain ⟨k, u, hk, hu, rfl, rfl, HU⟩ := hrel
    by_cases hlt : k < s.size
    · have hc := cnt_snoc s k hlt
      by_cases h37 : (s[k].toNat : Int) = 37
      · rw [if_pos h37] at hc
        have HN : Hid (u + 1 = cnt (s.data.toList.take (k + 1))) := Lib.hid (by rw [hc, HU.out])
        clear hc HU
        go_wp2
        go_round
        case rel => exact ⟨k + 1, u + 1, by omega, by omega, by go_num, by go_num, HN⟩
        case measure => simp [intOf]; omega
      · rw [if_neg h37] at hc
        have HN : Hid (u = cnt (s.data.toList.take (k + 1))) := Lib.hid (by rw [hc, HU.out]; rfl)
        clear hc HU
        go_wp2
        go_round
        case rel => exact ⟨k + 1, u, by omega, by omega, by go_num, rfl, HN⟩
        case measure => simp [intOf]; omega
    · have HV : Hid ((u : Int) = (cnt s.data.toList : Int)) := Lib.hid (by
        have h := HU.out
        rw [List.take_of_length_le (by simp; omega)] at h
        rw [h])
      clear HU
      go_wp2
      go_ret
      exact ⟨ret_i HV.out, rfl⟩
theorem goodL_two (x y : Ce) : goodL [x, y] 2 = (if goodB x.cut then [x.cut] else []) ++ (if goodB y.cut then [y.cut] else []) := by
  unfold goodL
  show List.filter goodB [x.cut, y.cut] = _
  rw [List.filter_cons, List.filter_cons, List.filter_nil]
  split <;> split <;> rfl
theorem CeAt.head {w : World} {q : Option Addr} {c : Ce} {l : List Ce} (h : CeAt w q (c :: l)) : CeAt w q [c] := fun i hi => by
  have : i = 0 := by simpa using hi
  subst this
  exact h 0 (by simp)
set_option maxRecDepth 100000 in
set_option maxHeartbeats 4000000 in
theorem parts_law (a b : ByteArray) (k1 n1 : Int) (s1 : ByteArray) (k2 n2 : Int) (s2 : ByteArray) (ha : a.size ≤ maxLen) (hb : b.size ≤ maxLen) (hs1 : s1.size ≤ maxLen) (hs2 : s2.size ≤ maxLen) (w : World) (G : Gf w) :
    Calls Tryz.prog 5 #[.string a, .string b, cv k1 n1 s1, cv k2 n2 s2] w fun e w' => e = .returned (.bool true) ∧ Below w.heap.size w w' := by
  have CA := Lib.hid fun W G => fawake_any W G
  have HG := Lib.hid G
  have C1 : Hid (∀ W, Calls Tryz.prog 9 #[.string a, .int .i64 10] W fun e w' => e = .returned (.string (cutB a 10)) ∧ W = w') := Lib.hid fun W => cut_any a 10 W ha (by omega)
  have C2 : Hid (∀ W, Calls Tryz.prog 9 #[.string b, .int .i64 10] W fun e w' => e = .returned (.string (cutB b 10)) ∧ W = w') := Lib.hid fun W => cut_any b 10 W hb (by omega)
  have hta := cutB_size a 10
  have htb := cutB_size b 10
  generalize cutB a 10 = ta at *
  generalize cutB b 10 = tb at *
  obtain ⟨A, hA⟩ : ∃ A : ByteArray, ⟨#[37]⟩ ++ ta ++ ⟨#[115]⟩ = A := ⟨_, rfl⟩
  obtain ⟨B, hB⟩ : ∃ B : ByteArray, ⟨#[37]⟩ ++ tb ++ ⟨#[115]⟩ = B := ⟨_, rfl⟩
  have hAs : A.size = ta.size + 2 := by rw [← hA, ByteArray.size_append, ByteArray.size_append]; show 1 + _ + 1 = _; omega
  have hBs : B.size = tb.size + 2 := by rw [← hB, ByteArray.size_append, ByteArray.size_append]; show 1 + _ + 1 = _; omega
  have hAl : A.data.toList = 37 :: (ta.data.toList ++ [115]) := by rw [← hA]; simp
  have hBl : B.data.toList = 37 :: (tb.data.toList ++ [115]) := by rw [← hB]; simp
  have CG : Hid (∀ W p, CeAt W p [⟨k1, n1, s1⟩, ⟨k2, n2, s2⟩] → Calls Tryz.prog 10 #[.slice p 2 2, .int .i64 2] W (GdPost (goodL [⟨k1, n1, s1⟩, ⟨k2, n2, s2⟩] 2) W)) :=
    Lib.hid fun W p hA => goodrow_any p 2 [⟨k1, n1, s1⟩, ⟨k2, n2, s2⟩] 2 W hA (by show 2 ≤ maxLen; decide) (by omega) (fun t ht => by
      rcases List.mem_cons.1 ht with rfl | ht
      · exact hs1
      · rw [List.mem_singleton.1 ht]; exact hs2)
  have HCE := Lib.hid (ce_alloc ((w.alloc (.cells #[.int .i64 k1, .int .i64 n1, .string s1] 36)).alloc (.cells #[.int .i64 k2, .int .i64 n2, .string s2] 36)) [⟨k1, n1, s1⟩, ⟨k2, n2, s2⟩] #[.int .i64 k1, .int .i64 n1, .string s1, .int .i64 k2, .int .i64 n2, .string s2] rfl)
  rw [World.size_alloc, World.size_alloc] at HCE
  have HB0 := Lib.hid ((((Below.refl w.heap.size w).alloc (Nat.le_refl _) (.cells #[.int .i64 k1, .int .i64 n1, .string s1] 36)).alloc (by simp) (.cells #[.int .i64 k2, .int .i64 n2, .string s2] 36)).alloc (by simp; omega) (.cells #[.int .i64 k1, .int .i64 n1, .string s1, .int .i64 k2, .int .i64 n2, .string s2] 36))
  have hlen2 := goodL_len [⟨k1, n1, s1⟩, ⟨k2, n2, s2⟩] 2
  rw [goodL_two] at CG hlen2
  have hai : (ta.size : Int) ≤ 10 := by omega
  have hbi : (tb.size : Int) ≤ 10 := by omega
  have z1 : (⟨#[37]⟩ : ByteArray).size = 1 := rfl
  have z2 : (⟨#[115]⟩ : ByteArray).size = 1 := rfl
  have hg1s : (Ce.cut ⟨k1, n1, s1⟩).s.size ≤ 100 := cutB_size s1 100
  have hg2s : (Ce.cut ⟨k2, n2, s2⟩).s.size ≤ 100 := cutB_size s2 100
  have hg1 := fun h => (goodB_iff (Ce.cut ⟨k1, n1, s1⟩)).1 h
  have hg2 := fun h => (goodB_iff (Ce.cut ⟨k2, n2, s2⟩)).1 h
  generalize Ce.cut ⟨k1, n1, s1⟩ = d1 at *
  generalize Ce.cut ⟨k2, n2, s2⟩ = d2 at *
  unfold cv
  by_cases hgg : goodB d1 = true ∧ goodB d2 = true
  · obtain ⟨g1, g2⟩ := hgg
    rw [if_pos g1, if_pos g2, List.singleton_append] at CG
    have ok1 := good_okN (hg1 g1)
    have ok2 := good_okN (hg2 g2)
    have sm1 := va_small ok1 hg1s
    have sm2 := va_small ok2 hg2s
    clear hg1 hg2 g1 g2 hlen2 ha hb hs1 hs2
    obtain ⟨S, hS, hSs⟩ := has_ba (printL A.data.toList [] [d1.va]).1
    obtain ⟨T, hT, hTs⟩ := has_ba (printL B.data.toList [] [d2.va]).1
    obtain ⟨E1, hE1⟩ : ∃ E, (printL A.data.toList [] [d1.va]).2 = E := ⟨_, rfl⟩
    obtain ⟨E2, hE2⟩ : ∃ E, (printL B.data.toList [] [d2.va]).2 = E := ⟨_, rfl⟩
    have q1 : printL A.data.toList [] [d1.va] = (S.data.toList, E1) := by rw [hS, ← hE1]
    have q2 : printL B.data.toList [] [d2.va] = (T.data.toList, E2) := by rw [hT, ← hE2]
    have P1 : Hid (∀ W q c, CeAt W q [d1] → 1 ≤ c → Gf W → Calls Tryz.prog 11 #[.string A, .slice q 1 c] W fun e w' => e = .returned (.tuple #[.string S, .int .i64 E1]) ∧ Below W.heap.size W w') :=
      Lib.hid fun W q c hA hc G => gprint1 A S d1 (by omega) ⟨ok1, hg1s⟩ E1 q1 W q c hA hc G
    have P2 : Hid (∀ W q c, CeAt W q [d2] → 1 ≤ c → Gf W → Calls Tryz.prog 11 #[.string B, .slice q 1 c] W fun e w' => e = .returned (.tuple #[.string T, .int .i64 E2]) ∧ Below W.heap.size W w') :=
      Lib.hid fun W q c hA hc G => gprint1 B T d2 (by omega) ⟨ok2, hg2s⟩ E2 q2 W q c hA hc G
    have N1 : Hid (∀ W, Calls Tryz.prog 15 #[.string A] W fun e w' => e = .returned (.int .i64 (cnt A.data.toList : Int)) ∧ W = w') := Lib.hid fun W => count_any A W (by omega)
    have N2 : Hid (∀ W, Calls Tryz.prog 15 #[.string B] W fun e w' => e = .returned (.int .i64 (cnt B.data.toList : Int)) ∧ W = w') := Lib.hid fun W => count_any B W (by omega)
    have P3 : Hid (E1 = 0 → E2 = 0 → cnt A.data.toList = 1 → cnt B.data.toList = 1 → ((S.size : Int) ≤ 5000 ∧ (T.size : Int) ≤ 5000) ∧ ∀ W q c, CeAt W q [d1, d2] → 2 ≤ c → Gf W → Calls Tryz.prog 11 #[.string (A ++ B), .slice q 2 c] W fun e w' => e = .returned (.tuple #[.string (S ++ T), .int .i64 0]) ∧ Below W.heap.size W w') :=
      Lib.hid fun e1 e2 c1 c2 => by
        rw [hAl] at c1 q1
        rw [hBl] at c2 q2
        rw [e1] at q1
        rw [e2] at q2
        have r1 := cnt_one _ c1
        have r2 := cnt_one _ c2
        have l1 : (ta.data.toList ++ [115]).length ≤ 11 := by rw [List.length_append, ba_sz]; simp; omega
        have l2 : (tb.data.toList ++ [115]).length ≤ 11 := by rw [List.length_append, ba_sz]; simp; omega
        have key := parts_both d1.va d2.va r1 r2 l1 l2 sm1 sm2 _ _ q1 q2
        have lim : ∀ (l : List UInt8) (vs : List Va) (x : List UInt8), printL l [] vs = (x, 0) → x.length ≤ 4000 := print_lim
        have b1 := lim _ _ _ q1
        have b2 := lim _ _ _ q2
        rw [ba_sz] at b1 b2
        refine ⟨by omega, fun W q c hA hc G => ?_⟩
        have hkey : printL (A ++ B).data.toList [] ([d1, d2].map Ce.va) = ((S ++ T).data.toList, 0) := by
          rw [show (A ++ B).data.toList = 37 :: (ta.data.toList ++ [115]) ++ 37 :: (tb.data.toList ++ [115]) from by rw [ByteArray.data_append, Array.toList_append, hAl, hBl]]
          rw [show (S ++ T).data.toList = S.data.toList ++ T.data.toList from by rw [ByteArray.data_append, Array.toList_append]]
          exact key
        exact (fprint_any (A ++ B) (S ++ T) q c [d1, d2] W (by rw [ByteArray.size_append]; omega) (by show 2 ≤ 1000; omega) hc hA (fun x hx => by
          rcases List.mem_cons.1 hx with rfl | hx
          · exact ⟨ok1, by omega⟩
          · rw [List.mem_singleton.1 hx]; exact ⟨ok2, by omega⟩) G (by rw [hkey])).mono fun e w' ⟨h1, h2⟩ => ⟨by rw [hkey] at h1; exact h1, h2⟩
    have hcA := cnt_le A.data.toList
    have hcB := cnt_le B.data.toList
    rw [ba_sz] at hcA hcB
    have HAB := Lib.hid (And.intro hA hB)
    clear hS hSs hT hTs hE1 hE2 q1 q2 hAl hBl sm1 sm2 ok1 ok2 hg1s hg2s
    generalize cnt A.data.toList = m1 at *
    generalize cnt B.data.toList = m2 at *
    have hm1 : m1 ≤ 12 := by omega
    have hm2 : m2 ≤ 12 := by omega
    have hAi : (A.size : Int) ≤ 12 := by omega
    have hBi : (B.size : Int) ≤ 12 := by omega
    clear hcA hcB hAs hBs
    go_enter Tryz.func5, Tryz.ntmps5
    go_wp2_with (first
      | ((with_reducible refine (C1.out _).mono ?_); rintro e w' ⟨rfl, rfl⟩)
      | ((with_reducible refine (C2.out _).mono ?_); rintro e w' ⟨rfl, rfl⟩))
    (with_reducible refine (CG.out _ _ HCE.out).mono ?_)
    rintro e w1 ⟨g, c, rfl, hCe, hc, hb1⟩
    have HB1 := Lib.hid (HB0.out.trans (hb1.mono HB0.out.size))
    have HC := Lib.hid hCe
    have hc2 : 2 ≤ c := hc
    have hci : 2 ≤ (c : Int) := by omega
    have hcn : ¬ c = 1 := by omega
    clear hb1 hCe hc HCE HB0
    go_wp2_with fail
    (with_reducible refine (P1.out _ _ _ HC.out.head (by omega) (HG.out.next HB1.out)).mono ?_)
    rintro e w2 ⟨rfl, hb2⟩
    have HB2 := Lib.hid (HB1.out.trans (hb2.mono HB1.out.size))
    have HC2 := Lib.hid (HC.out.below hb2 (Nat.le_refl _))
    clear hb2 HB1 HC
    go_wp2_with fail
    have HT2 := Lib.hid (show CeAt w2 (some ⟨g, 3, none⟩) [d2] from by have h := HC2.out.tail; rw [Lib.add_plain, Nat.zero_add] at h; exact h)
    (with_reducible refine (P2.out _ _ _ HT2.out (by omega) (HG.out.next HB2.out)).mono ?_)
    rintro e w3 ⟨rfl, hb3⟩
    have HB3 := Lib.hid (HB2.out.trans (hb3.mono HB2.out.size))
    have HC3 := Lib.hid (HC2.out.below hb3 (Nat.le_refl _))
    clear hb3 HB2 HC2 HT2 P1 P2
    by_cases x1 : E1 = 0
    · subst x1
      by_cases x2 : E2 = 0
      · subst x2
        by_cases x3 : m1 = 1
        · subst x3
          by_cases x4 : m2 = 1
          · subst x4
            obtain ⟨⟨y1, y2⟩, y3⟩ := P3.out rfl rfl rfl rfl
            have P4 := Lib.hid y3
            clear y3 P3
            go_wp2_with (first
              | ((with_reducible refine (N1.out _).mono ?_); rintro e w' ⟨rfl, rfl⟩)
              | ((with_reducible refine (N2.out _).mono ?_); rintro e w' ⟨rfl, rfl⟩))
            (with_reducible refine (P4.out _ _ _ HC3.out hc2 (HG.out.next HB3.out)).mono ?_)
            rintro e w4 ⟨rfl, hb4⟩
            have HB4 := Lib.hid (HB3.out.trans (hb4.mono HB3.out.size))
            clear hb4 HB3 HC3
            go_wp2_with fail
            (with_reducible refine (CA.out _ (HG.out.next HB4.out)).mono ?_)
            rintro e w5 ⟨rfl, hb5⟩
            have HB5 := Lib.hid (HB4.out.trans (hb5.mono HB4.out.size))
            clear hb5 HB4
            go_wp2_with fail
            go_ret
            exact ⟨rfl, HB5.out⟩
          · have x4b : ((m2 : Int) == 1) = false := by simp; omega
            have x4c : ((m2 : Int) != 1) = true := by simp; omega
            go_wp2_with (first
              | ((with_reducible refine (N1.out _).mono ?_); rintro e w' ⟨rfl, rfl⟩)
              | ((with_reducible refine (N2.out _).mono ?_); rintro e w' ⟨rfl, rfl⟩))
            (with_reducible refine (CA.out _ (HG.out.next HB3.out)).mono ?_)
            rintro e w5 ⟨rfl, hb5⟩
            have HB5 := Lib.hid (HB3.out.trans (hb5.mono HB3.out.size))
            clear hb5 HB3
            go_wp2_with fail
            go_ret
            exact ⟨rfl, HB5.out⟩
        · have x3b : ((m1 : Int) == 1) = false := by simp; omega
          have x3c : ((m1 : Int) != 1) = true := by simp; omega
          go_wp2_with (first
            | ((with_reducible refine (N1.out _).mono ?_); rintro e w' ⟨rfl, rfl⟩)
            | ((with_reducible refine (N2.out _).mono ?_); rintro e w' ⟨rfl, rfl⟩))
          (with_reducible refine (CA.out _ (HG.out.next HB3.out)).mono ?_)
          rintro e w5 ⟨rfl, hb5⟩
          have HB5 := Lib.hid (HB3.out.trans (hb5.mono HB3.out.size))
          clear hb5 HB3
          go_wp2_with fail
          go_ret
          exact ⟨rfl, HB5.out⟩
      · have x2b : (E2 == 0) = false := by simpa using x2
        go_wp2_with fail
        (with_reducible refine (CA.out _ (HG.out.next HB3.out)).mono ?_)
        rintro e w5 ⟨rfl, hb5⟩
        have HB5 := Lib.hid (HB3.out.trans (hb5.mono HB3.out.size))
        clear hb5 HB3
        go_wp2_with fail
        go_ret
        exact ⟨rfl, HB5.out⟩
    · have x1b : (E1 == 0) = false := by simpa using x1
      go_wp2_with fail
      (with_reducible refine (CA.out _ (HG.out.next HB3.out)).mono ?_)
      rintro e w5 ⟨rfl, hb5⟩
      have HB5 := Lib.hid (HB3.out.trans (hb5.mono HB3.out.size))
      clear hb5 HB3
      go_wp2_with fail
      go_ret
      exact ⟨rfl, HB5.out⟩
  · have hlt : ((if goodB d1 then [d1] else []) ++ (if goodB d2 then [d2] else []) : List Ce).length < 2 := by
      by_cases g1 : goodB d1 = true
      · by_cases g2 : goodB d2 = true
        · exact absurd ⟨g1, g2⟩ hgg
        · rw [if_pos g1, if_neg g2]; show 1 < 2; omega
      · rw [if_neg g1]; split <;> (first | (show 1 < 2; omega) | (show 0 < 2; omega))
    generalize ((if goodB d1 then [d1] else []) ++ (if goodB d2 then [d2] else []) : List Ce) = gl at *
    have hli : (gl.length : Int) < 2 := by omega
    clear hg1 hg2 hgg hlen2
    go_enter Tryz.func5, Tryz.ntmps5
    go_wp2_with (first
      | ((with_reducible refine (C1.out _).mono ?_); rintro e w' ⟨rfl, rfl⟩)
      | ((with_reducible refine (C2.out _).mono ?_); rintro e w' ⟨rfl, rfl⟩))
    (with_reducible refine (CG.out _ _ HCE.out).mono ?_)
    rintro e w1 ⟨g, c, rfl, hCe, hc, hb1⟩
    have HB1 := Lib.hid (HB0.out.trans (hb1.mono HB0.out.size))
    clear hb1 hCe hc HCE HB0
    go_wp2_with fail
    (with_reducible refine (CA.out _ (HG.out.next HB1.out)).mono ?_)
    rintro e w4 ⟨rfl, hb4⟩
    have HB4 := Lib.hid (HB1.out.trans (hb4.mono HB1.out.size))
    clear hb4 HB1
    go_wp2_with fail
    go_ret
    exact ⟨rfl, HB4.out⟩
end Go.Proofs.YtciicmmfplnekaaGreatDoor
