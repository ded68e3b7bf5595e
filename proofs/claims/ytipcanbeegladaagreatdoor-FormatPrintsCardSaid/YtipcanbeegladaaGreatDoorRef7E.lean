/-
  CONTRACT of the document's own answer for layer 7: Read's walk.
-/
import Derived.Test.YtipcanbeegladaaGreatDoorRef7D
import Derived.Lib.SlBytesConst
import Derived.Lib.SmallJoins
namespace Go.Proofs.YtipcanbeegladaaGreatDoor
open Go.RowKit

theorem dropW_drop (p : UInt8 → Bool) (l : List UInt8) : l.dropWhile p = l.drop (l.takeWhile p).length := by
  induction l with
  | nil => rfl
  | cons c l ih =>
    rw [List.dropWhile_cons, List.takeWhile_cons]
    by_cases h : p c = true
    · simp only [h, if_true]; simpa using ih
    · simp only [h]; simp
theorem takeW_len (p : UInt8 → Bool) (l : List UInt8) : (l.takeWhile p).length ≤ l.length := (List.takeWhile_sublist p).length_le
theorem drop_head (f : ByteArray) (q : Nat) : (f.data.toList.drop q).head? = if h : q < f.size then some f[q] else none := by
  split
  · rename_i h
    rw [List.head?_drop]; exact at_list f q h
  · rename_i h
    rw [List.head?_drop, List.getElem?_eq_none (by simp; omega)]
/-- Where a conversion's parts end. -/
structure Cuts (f : ByteArray) (q q1 : Nat) (r : List UInt8) : Prop where
  rest : restF r = f.data.toList.drop q
  wd : cW r = num1 ((f.data.toList.drop q).takeWhile isD)
  q1e : q1 = q + ((f.data.toList.drop q).takeWhile isD).length
  r1 : cR1 r = f.data.toList.drop q1
  le : q1 ≤ f.size
theorem cuts (f : ByteArray) (k q : Nat) (hq : q ≤ f.size) (h : restF (f.data.toList.drop k) = f.data.toList.drop q) : Cuts f q (q + ((f.data.toList.drop q).takeWhile isD).length) (f.data.toList.drop k) := by
  have hl := takeW_len isD (f.data.toList.drop q)
  rw [List.length_drop] at hl
  have e : f.data.toList.length = f.size := ba_sz f
  exact ⟨h, by unfold cW; rw [h], rfl, by unfold cR1; rw [h, dropW_drop, List.drop_drop], by omega⟩
theorem dot_at (f : ByteArray) (q : Nat) (h : q < f.size) : dotL (f.data.toList.drop q) = decide (f[q] = 46) := by
  unfold dotL; rw [drop_head, dif_pos h]; simp
theorem dot_no (f : ByteArray) (q : Nat) (h : ¬ q < f.size) : dotL (f.data.toList.drop q) = false := by
  unfold dotL; rw [drop_head, dif_neg h]; simp
/-- With the dot, or without it. -/
theorem cuts_dot {f : ByteArray} {k q q1 : Nat} (H : Cuts f q q1 (f.data.toList.drop k)) (h : q1 < f.size) (hc : f[q1] = 46) :
    dotL (cR1 (f.data.toList.drop k)) = true ∧ cP (f.data.toList.drop k) = num1 ((f.data.toList.drop (q1 + 1)).takeWhile isD) ∧ cR2 (f.data.toList.drop k) = f.data.toList.drop (q1 + 1 + ((f.data.toList.drop (q1 + 1)).takeWhile isD).length) ∧ q1 + 1 + ((f.data.toList.drop (q1 + 1)).takeWhile isD).length ≤ f.size := by
  have hd : dotL (cR1 (f.data.toList.drop k)) = true := by rw [H.r1, dot_at f q1 h]; simpa using hc
  have hl := takeW_len isD (f.data.toList.drop (q1 + 1))
  rw [List.length_drop] at hl
  have e : f.data.toList.length = f.size := ba_sz f
  refine ⟨hd, ?_, ?_, by omega⟩
  · unfold cP; rw [if_pos hd, H.r1, List.drop_drop]
  · unfold cR2; rw [if_pos hd, H.r1, List.drop_drop, dropW_drop, List.drop_drop]
theorem cuts_no {f : ByteArray} {k q q1 : Nat} (H : Cuts f q q1 (f.data.toList.drop k)) (h : ∀ h : q1 < f.size, f[q1] ≠ 46) :
    dotL (cR1 (f.data.toList.drop k)) = false ∧ cP (f.data.toList.drop k) = 0 ∧ cR2 (f.data.toList.drop k) = f.data.toList.drop q1 := by
  have hd : dotL (cR1 (f.data.toList.drop k)) = false := by
    rw [H.r1]
    by_cases hq : q1 < f.size
    · rw [dot_at f q1 hq]; simpa using h hq
    · exact dot_no f q1 hq
  refine ⟨hd, ?_, ?_⟩
  · unfold cP; rw [hd]; rfl
  · unfold cR2; rw [hd, H.r1]; rfl
/-- What is behind the numbers: the error, the sign, the place behind it. -/
structure Tail (f : ByteArray) (wd pr : Nat) (q2 : Nat) (r : List UInt8) : Prop where
  wd : cW r = wd
  pr : cP r = pr
  r2 : cR2 r = f.data.toList.drop q2
theorem Tail.big {f : ByteArray} {wd pr q2 : Nat} {r : List UInt8} (H : Tail f wd pr q2 r) (h : 1000 < wd ∨ 1000 < pr) : cvE r = 12 := by
  unfold cvE; rw [H.wd, H.pr, if_pos h]
theorem Tail.none {f : ByteArray} {wd pr q2 : Nat} {r : List UInt8} (H : Tail f wd pr q2 r) (h : ¬ (1000 < wd ∨ 1000 < pr)) (hq : ¬ q2 < f.size) : cvE r = 16 := by
  unfold cvE; rw [H.wd, H.pr, if_neg h, H.r2, drop_head, dif_neg hq]; rfl
theorem Tail.some {f : ByteArray} {wd pr q2 : Nat} {r : List UInt8} (H : Tail f wd pr q2 r) (h : ¬ (1000 < wd ∨ 1000 < pr)) (hq : q2 < f.size) : (cvE r = if kindL.contains f[q2] then 0 else 16) ∧ (cvOf r).kind = f[q2] ∧ (cvT r) = f.data.toList.drop (q2 + 1) := by
  refine ⟨?_, ?_, ?_⟩
  · unfold cvE; rw [H.wd, H.pr, if_neg h, H.r2, drop_head, dif_pos hq]; rfl
  · have e := drop_head f q2
    rw [dif_pos hq] at e
    unfold cvOf
    rw [H.r2]
    cases hl : f.data.toList.drop q2 with
    | nil => rw [hl] at e; cases e
    | cons a l => rw [hl] at e; exact Option.some.inj e
  · unfold cvT; rw [H.r2, List.drop_drop]
theorem isF_cases (c : UInt8) : (((c.toNat : Int) == 45) = true ∨ ((c.toNat : Int) == 45) = false ∧ ((c.toNat : Int) == 48) = true ∨ ((c.toNat : Int) == 45) = false ∧ ((c.toNat : Int) == 48) = false ∧ ((c.toNat : Int) == 43) = true ∨ ((c.toNat : Int) == 45) = false ∧ ((c.toNat : Int) == 48) = false ∧ ((c.toNat : Int) == 43) = false ∧ ((c.toNat : Int) == 32) = true) ∧ isF c = true ∨ (((c.toNat : Int) == 45) = false ∧ ((c.toNat : Int) == 48) = false ∧ ((c.toNat : Int) == 43) = false ∧ ((c.toNat : Int) == 32) = false) ∧ isF c = false := by
  simp only [beq_iff_eq, beq_eq_false_iff_ne]
  by_cases h1 : (c.toNat : Int) = 45
  · exact .inl ⟨.inl h1, by rw [u8_of (c := c) (d := 45) h1]; rfl⟩
  · by_cases h2 : (c.toNat : Int) = 48
    · exact .inl ⟨.inr (.inl ⟨h1, h2⟩), by rw [u8_of (c := c) (d := 48) h2]; rfl⟩
    · by_cases h3 : (c.toNat : Int) = 43
      · exact .inl ⟨.inr (.inr (.inl ⟨h1, h2, h3⟩)), by rw [u8_of (c := c) (d := 43) h3]; rfl⟩
      · by_cases h4 : (c.toNat : Int) = 32
        · exact .inl ⟨.inr (.inr (.inr ⟨h1, h2, h3, h4⟩)), by rw [u8_of (c := c) (d := 32) h4]; rfl⟩
        · exact .inr ⟨⟨h1, h2, h3, h4⟩, isF_no h1 h2 h3 h4⟩
theorem RdL.nextq {f : ByteArray} {k q : Nat} {w wr : World} {F : ByteArray} (h : RdL f k w (q - k) F wr) (hk : k ≤ q) (hlt : q < f.size) (hc : isF f[q] = true) :
    RdL f k w (q + 1 - k) (F ++ f.extract q (q + 1)) (wr.setCell ⟨w.heap.size + 1, 0, none⟩ (.string (F ++ f.extract q (q + 1)))) := by
  obtain ⟨m, rfl⟩ : ∃ m, q = k + m := ⟨q - k, by omega⟩
  rw [show k + m - k = m by omega] at h
  rw [show k + m + 1 - k = m + 1 by omega]
  exact h.next hlt hc
theorem RdL.last {f : ByteArray} {k q : Nat} {w wr : World} {F : ByteArray} (h : RdL f k w (q - k) F wr) (hk : k ≤ q) (hn : ∀ h : q < f.size, isF f[q] = false) :
    restF (f.data.toList.drop k) = f.data.toList.drop q ∧ F.data.toList = (f.data.toList.drop k).takeWhile isF ∧ RdM w F 0 (-1) 0 0 wr := by
  have h2 : ∀ c, ((f.data.toList.drop k).drop (q - k)).head? = some c → isF c = false := by
    intro c hc
    rw [List.drop_drop, show k + (q - k) = q by omega, drop_head] at hc
    split at hc
    · rename_i hq; rw [← Option.some.inj hc]; exact hn hq
    · cases hc
  obtain ⟨e1, e2⟩ := rtw_take isF _ (q - k) h.all h2
  refine ⟨?_, by rw [e1, h.eq], h.res, h.own, h.below⟩
  unfold restF
  rw [e2, List.drop_drop, show k + (q - k) = q by omega]
theorem num1_1001 (l : List UInt8) : num1 l ≤ 1001 := num1_le l
/-- The two numbers and where they end, with what the walk wants to know of the dot. -/
theorem tail_of {f : ByteArray} {k q : Nat} (hq : q ≤ f.size) (h : restF (f.data.toList.drop k) = f.data.toList.drop q) (q1 : Nat) (h1 : q + ((f.data.toList.drop q).takeWhile isD).length = q1) :
    q1 ≤ f.size ∧ ∃ (p q2 : Nat) (P : Int) (dot : Bool), q ≤ q2 ∧ q2 ≤ f.size ∧ p ≤ 1001 ∧ Tail f (num1 ((f.data.toList.drop q).takeWhile isD)) p q2 (f.data.toList.drop k) ∧ P = (if dotL (cR1 (f.data.toList.drop k)) then (cP (f.data.toList.drop k) : Int) else -1) ∧
      ((∃ hq1 : q1 < f.size, f[q1] = 46 ∧ num1 ((f.data.toList.drop (q1 + 1)).takeWhile isD) = p ∧ q1 + 1 + ((f.data.toList.drop (q1 + 1)).takeWhile isD).length = q2 ∧ P = (p : Int) ∧ dot = true) ∨ ((∃ hq1 : q1 < f.size, f[q1] ≠ 46) ∨ ¬ q1 < f.size) ∧ q2 = q1 ∧ P = -1 ∧ p = 0 ∧ dot = false) := by
  have H := cuts f k q hq h
  rw [h1] at H
  refine ⟨H.le, ?_⟩
  by_cases hc : ∃ hq1 : q1 < f.size, f[q1] = 46
  · obtain ⟨hlt, hc⟩ := hc
    obtain ⟨d1, d2, d3, d4⟩ := cuts_dot H hlt hc
    exact ⟨_, _, _, true, by omega, d4, num1_le _, ⟨H.wd, d2, d3⟩, rfl, .inl ⟨hlt, hc, rfl, rfl, by rw [d1, if_pos rfl, d2], rfl⟩⟩
  · obtain ⟨d1, d2, d3⟩ := cuts_no H (fun h h2 => hc ⟨h, h2⟩)
    exact ⟨0, q1, -1, false, by omega, H.le, by omega, ⟨H.wd, d2, d3⟩, by rw [d1]; rfl, .inr ⟨by
      by_cases hlt : q1 < f.size
      · exact .inl ⟨hlt, fun h2 => hc ⟨hlt, h2⟩⟩
      · exact .inr hlt, rfl, rfl, rfl, rfl⟩⟩
theorem rdq_end {k : Nat} {w w3 : World} {r : List UInt8} {F : ByteArray} {wd P v nx e : Int} (he : e = cvE r) (hb : Below w.heap.size w w3)
    (h0 : cvE r = 0 → F.data.toList = r.takeWhile isF ∧ wd = (cW r : Int) ∧ P = (if dotL (cR1 r) then (cP r : Int) else -1) ∧ v = ((cvOf r).kind.toNat : Int) ∧ nx = ((k + (r.length - (cvT r).length) : Nat) : Int)) :
    RdPost r k w (.returned (.tuple #[spi F wd P v nx, .int .i64 e])) w3 := ⟨⟨F, wd, P, v, nx, by rw [he], h0⟩, hb⟩
set_option maxHeartbeats 4000000 in
set_option maxRecDepth 100000 in
theorem rread_any (f : ByteArray) (k : Nat) (w : World) (hf : f.size ≤ 100000) (hk : k ≤ f.size) :
    Calls Tryz.prog 14 #[.string f, .int .i64 (k : Int)] w (RdPost (f.data.toList.drop k) k w) := by
  have H0 := Lib.hid (RdL.start f k w 46)
  have CD := Lib.hid fun j W (h : j ≤ f.size) => rdigits_any f j W hf h
  go_enter Tryz.func14, Tryz.ntmps14
  go_wp2_with fail
  go_loopw [1] (fun kv wr => ∃ q F, k ≤ q ∧ q ≤ f.size ∧ F.size ≤ q ∧ kv = .int .i64 (q : Int) ∧ Hid (RdL f k w (q - k) F wr)) (fun kv _ => f.size - (intOf kv).toNat)
  case atStart => exact ⟨k, ⟨#[]⟩, Nat.le_refl _, hk, Nat.zero_le _, rfl, by rw [Nat.sub_self]; exact H0⟩
  case round =>
    obtain ⟨q, F, hkq, hq, hF, rfl, HX⟩ := hrel
    rcases (show (∃ h : q < f.size, isF f[q] = true) ∨ (∀ h : q < f.size, isF f[q] = false) by
      by_cases h : q < f.size
      · cases hc : isF f[q]
        · exact .inr fun _ => hc
        · exact .inl ⟨h, hc⟩
      · exact .inr fun h2 => absurd h2 h) with ⟨hlt, hy⟩ | hn
    · have HN := Lib.hid (HX.out.drew.nextq hkq hlt hy)
      have hFs : Hid ((F ++ f.extract q (q + 1)).size ≤ q + 1) := Lib.hid (by rw [ByteArray.size_append, ByteArray.size_extract]; omega)
      have hXs : (f.extract q (q + 1)).size ≤ 1 := by rw [ByteArray.size_extract]; omega
      rcases isF_cases f[q] with ⟨hc, -⟩ | ⟨-, hn⟩
      · obtain ⟨c0, c1, c2, c3, c4, f0, f1, f2, f3, f4⟩ := HX.out.own
        have hq1 : (q : Int) + 1 ≤ (f.size : Int) := by omega
        clear hy HX
        rcases hc with h1 | ⟨h0, h1⟩ | ⟨h0, h2, h1⟩ | ⟨h0, h2, h3, h1⟩
        all_goals
          go_upto_region 3 with fail
          go_region
          all_goals
            go_wp2_with fail
            go_roundw
            case rel => exact ⟨q + 1, _, by omega, hlt, hFs.out, by go_num, HN⟩
            case measure => simp [intOf]; omega
      · rw [hy] at hn; cases hn
    · obtain ⟨l1, l2, HM⟩ := HX.out.last hkq hn
      obtain ⟨q1, hq1⟩ : ∃ q1, q + ((f.data.toList.drop q).takeWhile isD).length = q1 := ⟨_, rfl⟩
      obtain ⟨hq1s, p, q2, P, dot, hqq2, hq2, hp, HT, hP, HD⟩ := tail_of hq l1 q1 hq1
      have C1 := Lib.hid fun W => CD.out q W hq
      rw [hq1] at C1
      have hwb := num1_le ((f.data.toList.drop q).takeWhile isD)
      generalize num1 ((f.data.toList.drop q).takeWhile isD) = wd at *
      have HM1 := Lib.hid (HM.set1 (wd : Int))
      have HT := Lib.hid HT
      have HL2 := Lib.hid l2
      have HP := Lib.hid hP
      clear HX l1 l2 hq1 hP
      obtain ⟨c0, c1, c2, c3, c4, f0, f1, f2, f3, f4⟩ := HM.own
      clear HM
      rcases (show (∃ h : q < f.size, isF f[q] = false) ∨ ¬ q < f.size by
        by_cases h : q < f.size
        · exact .inl ⟨h, hn h⟩
        · exact .inr h) with ⟨hlt, hy⟩ | hlt
      · rcases isF_cases f[q] with ⟨-, hc⟩ | ⟨⟨e1, e2, e3, e4⟩, -⟩
        · rw [hy] at hc; cases hc
        clear hn hy
        go_wp2_with fail
        refine (C1.out _).mono ?_
        rintro e w' ⟨rfl, rfl⟩
        go_upto_region 8 with fail
        generalize wr.setCell ⟨w.heap.size + 1, 1, none⟩ (.int .i64 (wd : Int)) = w1 at *
        clear c0 c1 c2 c3 c4 f0 f1 f2 f3 f4
        go_cut [71] (fun v71 wx => v71 = .bool dot ∧ wx = w1)
        case first =>
          rcases HD with ⟨hlt1, h46, hp1, hq21, rfl, rfl⟩ | ⟨hno, rfl, rfl, rfl, rfl⟩
          · have h46i : (f[q1].toNat : Int) = 46 := by rw [h46]; rfl
            clear h46 hp1 hq21
            go_wp2_with fail
            go_meet
            exact ⟨rfl, rfl⟩
          · rcases hno with ⟨hlt1, hne⟩ | hlt1
            · have h46b : ((f[q2].toNat : Int) == 46) = false := by
                rw [beq_eq_false_iff_ne]; exact fun h => hne (u8_of (c := f[q2]) (d := 46) h)
              clear hne
              go_wp2_with fail
              go_meet
              exact ⟨rfl, rfl⟩
            · go_wp2_with fail
              go_meet
              exact ⟨rfl, rfl⟩
        case rest =>
        obtain ⟨rfl, rfl⟩ := hcut
        go_upto_if 71 with fail
        go_cut [1] (fun v1 wx => v1 = .int .i64 (q2 : Int) ∧ Hid (RdM w F wd P 0 0 wx))
        case first =>
          obtain ⟨c0, c1, c2, c3, c4, f0, f1, f2, f3, f4⟩ := HM1.out.own
          rcases HD with ⟨hlt1, h46, hp1, hq21, rfl, rfl⟩ | ⟨hno, rfl, rfl, rfl, rfl⟩
          · have C2 := Lib.hid fun W => CD.out (q1 + 1) W hlt1
            rw [hp1, hq21] at C2
            have HM2 := Lib.hid (HM1.out.set2 (p : Int))
            clear h46 hp1 hq21
            go_wp2_with fail
            refine (C2.out _).mono ?_
            rintro e w' ⟨rfl, rfl⟩
            go_wp2_with fail
            go_meet
            exact ⟨rfl, HM2⟩
          · clear hno
            go_wp2_with fail
            go_meet
            exact ⟨rfl, HM1⟩
        case rest =>
          obtain ⟨rfl, HM2⟩ := hcut
          clear HM1 C1
          obtain ⟨c0, c1, c2, c3, c4, f0, f1, f2, f3, f4⟩ := HM2.out.own
          obtain ⟨r0, r1, r2, r3, r4, g0, g1, g2, g3, g4⟩ := HM2.out.res
          have hPp : P = (p : Int) ∨ P = -1 ∧ p = 0 := by
            rcases HD with ⟨_, _, _, _, h, _⟩ | ⟨_, _, h, h2, _⟩
            · exact .inl h
            · exact .inr ⟨h, h2⟩
          clear HD
          by_cases hbig : 1000 < wd ∨ 1000 < p
          · have HE := Lib.hid (HT.out.big hbig)
            have HF := Lib.hid (And.intro (HM2.out.res.put F wd P 0 0) (put5_below HM2.out.below (Nat.le_refl _) F wd P 0 0))
            by_cases hw1 : 1000 < (wd : Int)
            · clear hbig
              go_wp2_with fail
              refine bodyPost_ret (v := .tuple #[spi F wd P 0 0, .int .i64 12]) ?_ rfl (rdq_end HE.out.symm HF.out.2 (by rw [HE.out]; intro h; cases h))
              exact rread_results _ _ _ _ _ _ _ _ _ HF.out.1 rfl rfl
            · have hP1 : 1000 < P := by omega
              clear hbig
              go_wp2_with fail
              refine bodyPost_ret (v := .tuple #[spi F wd P 0 0, .int .i64 12]) ?_ rfl (rdq_end HE.out.symm HF.out.2 (by rw [HE.out]; intro h; cases h))
              exact rread_results _ _ _ _ _ _ _ _ _ HF.out.1 rfl rfl
          · have hw1 : ¬ 1000 < (wd : Int) := by omega
            have hP1 : ¬ 1000 < P := by omega
            by_cases hlt2 : q2 < f.size
            · obtain ⟨t1, t2, t3⟩ := HT.out.some hbig hlt2
              have HK := Lib.hid (And.intro t1 (And.intro t2 t3))
              have hnx : Hid (((q2 + 1 : Nat) : Int) = ((k + ((f.data.toList.drop k).length - (cvT (f.data.toList.drop k)).length) : Nat) : Int)) := Lib.hid (by
                rw [t3, List.length_drop, List.length_drop, ba_sz]
                have := hkq
                omega)
              clear hbig t1 t2 t3
              obtain ⟨c, hc⟩ : ∃ c, f[q2] = c := ⟨_, rfl⟩
              rw [hc] at HK
              have hci : (f[q2].toNat : Int) = (c.toNat : Int) := by rw [hc]
              have HM3 := Lib.hid ((HM2.out.set3 (c.toNat : Int)).set4 ((q2 : Int) + 1))
              have hnt : ¬ (f.size : Int) ≤ (q2 : Int) := by omega
              clear hc
              have hkc := Joins.run_convert_bytes_const_at (P := Tryz.prog) ((wc.setCell ⟨w.heap.size + 1, 3, none⟩ (.int .u8 (c.toNat : Int))).setCell ⟨w.heap.size + 1, 4, none⟩ (.int .i64 ((q2 : Int) + 1))) 39 5 #[.int .u8 100, .int .u8 105, .int .u8 120, .int .u8 102, .int .u8 115, .int .u8 99, .int .u8 37] 7 7 wc.heap.size (by simp) Tryz.underlying39 Tryz.underlying5
              have hM4 : RdM w F wd P (c.toNat : Int) ((q2 : Int) + 1) (((wc.setCell ⟨w.heap.size + 1, 3, none⟩ (.int .u8 (c.toNat : Int))).setCell ⟨w.heap.size + 1, 4, none⟩ (.int .i64 ((q2 : Int) + 1))).alloc (.cells #[.int .u8 100, .int .u8 105, .int .u8 120, .int .u8 102, .int .u8 115, .int .u8 99, .int .u8 37] 5 (7, 8))) := HM3.out.keep ((Below.refl _ _).alloc (Nat.le_refl _) _)
              have hcs : ∀ j v, (#[.int .u8 100, .int .u8 105, .int .u8 120, .int .u8 102, .int .u8 115, .int .u8 99, .int .u8 37] : Array Value)[j]? = some v → (((wc.setCell ⟨w.heap.size + 1, 3, none⟩ (.int .u8 (c.toNat : Int))).setCell ⟨w.heap.size + 1, 4, none⟩ (.int .i64 ((q2 : Int) + 1))).alloc (.cells #[.int .u8 100, .int .u8 105, .int .u8 120, .int .u8 102, .int .u8 115, .int .u8 99, .int .u8 37] 5 (7, 8))).cell? ⟨wc.heap.size, j, none⟩ = some v := fun j v h => by
                rw [Joins.cell_alloc_mark_at _ _ _ _ _ _ (by simp)]; exact h
              have HM4 := Lib.hid hM4
              have HCS := Lib.hid hcs
              obtain ⟨r0', r1', r2', r3', r4', g0', g1', g2', g3', g4'⟩ := hM4.res
              clear hcs hM4 HM3
              go_wp2_with fail
              clear hkc c0 c1 c2 c3 c4 f0 f1 f2 f3 f4 r0 r1 r2 r3 r4 g0 g1 g2 g3 g4 r0' r1' r2' r3' r4' g0' g1' g2' g3' g4' HM2
              generalize hg7 : wc.heap.size = g7 at *
              generalize hW3 : (((wc.setCell ⟨w.heap.size + 1, 3, none⟩ (.int .u8 (c.toNat : Int))).setCell ⟨w.heap.size + 1, 4, none⟩ (.int .i64 ((q2 : Int) + 1))).alloc (.cells #[.int .u8 100, .int .u8 105, .int .u8 120, .int .u8 102, .int .u8 115, .int .u8 99, .int .u8 37] 5 (7, 8))) = W3 at *
              clear hW3 hg7
              have k0 := HCS.out 0 _ rfl
              have k1 := HCS.out 1 _ rfl
              have k2 := HCS.out 2 _ rfl
              have k3 := HCS.out 3 _ rfl
              have k4 := HCS.out 4 _ rfl
              have k5 := HCS.out 5 _ rfl
              have k6 := HCS.out 6 _ rfl
              clear HCS
              obtain ⟨n0, n1, n2, n3, n4, -⟩ := HM4.out.own
              obtain ⟨r0', r1', r2', r3', r4', g0', g1', g2', g3', g4'⟩ := HM4.out.res
              have HFo := Lib.hid (And.intro (HM4.out.res.put F wd P (c.toNat : Int) ((q2 : Int) + 1)) (put5_below HM4.out.below (Nat.le_refl _) F wd P (c.toNat : Int) ((q2 : Int) + 1)))
              go_loopw [106] (fun iv wr => ∃ j : Nat, j ≤ 7 ∧ iv = .int .i64 (j : Int) ∧ wr = W3 ∧ Hid (∀ i d, i < j → kindL[i]? = some d → d ≠ c)) (fun iv _ => 7 - (intOf iv).toNat)
              case atStart => exact ⟨0, by omega, rfl, rfl, Lib.hid fun i d h => absurd h (Nat.not_lt_zero i)⟩
              case round =>
                obtain ⟨j, hj, rfl, rfl, HJ⟩ := hrel
                have HOK : Hid (F.data.toList = (f.data.toList.drop k).takeWhile isF ∧ (wd : Int) = (cW (f.data.toList.drop k) : Int) ∧ P = (if dotL (cR1 (f.data.toList.drop k)) then (cP (f.data.toList.drop k) : Int) else -1) ∧ (c.toNat : Int) = ((cvOf (f.data.toList.drop k)).kind.toNat : Int) ∧ (q2 : Int) + 1 = ((k + ((f.data.toList.drop k).length - (cvT (f.data.toList.drop k)).length) : Nat) : Int)) := Lib.hid ⟨HL2.out, by rw [HT.out.wd], HP.out, by rw [HK.out.2.1], by rw [← hnx.out]; omega⟩
                clear HL2 HP hnx
                rcases (show j = 0 ∨ j = 1 ∨ j = 2 ∨ j = 3 ∨ j = 4 ∨ j = 5 ∨ j = 6 ∨ j = 7 by omega) with rfl | rfl | rfl | rfl | rfl | rfl | rfl | rfl
                · by_cases hcj : c = 100
                  · have hb : ((100 : Int) == (c.toNat : Int)) = true := by rw [hcj]; rfl
                    have HE : Hid ((0 : Int) = cvE (f.data.toList.drop k)) := Lib.hid (by rw [HK.out.1, hcj]; rfl)
                    clear hcj
                    go_wp2_with fail
                    refine bodyPost_ret (v := .tuple #[spi F wd P (c.toNat : Int) ((q2 : Int) + 1), .int .i64 0]) ?_ rfl (rdq_end HE.out HFo.out.2 (fun _ => HOK.out))
                    exact rread_results _ _ _ _ _ _ _ _ _ HFo.out.1 rfl rfl
                  · have hb : ((100 : Int) == (c.toNat : Int)) = false := by
                      rw [beq_eq_false_iff_ne]; exact fun h => hcj (u8_of (c := c) (d := 100) h.symm)
                    have HJ1 : Hid (∀ i d, i < 1 → kindL[i]? = some d → d ≠ c) := Lib.hid fun i d hi h => by
                      rcases Nat.lt_succ_iff_lt_or_eq.1 hi with h2 | rfl
                      · exact HJ.out i d h2 h
                      · rw [← Option.some.inj h]; exact fun h => hcj h.symm
                    clear hcj HJ
                    go_wp2_with fail
                    go_roundw
                    case rel => exact ⟨1, by omega, rfl, trivial, HJ1⟩
                    case measure => decide
                · by_cases hcj : c = 105
                  · have hb : ((105 : Int) == (c.toNat : Int)) = true := by rw [hcj]; rfl
                    have HE : Hid ((0 : Int) = cvE (f.data.toList.drop k)) := Lib.hid (by rw [HK.out.1, hcj]; rfl)
                    clear hcj
                    go_wp2_with fail
                    refine bodyPost_ret (v := .tuple #[spi F wd P (c.toNat : Int) ((q2 : Int) + 1), .int .i64 0]) ?_ rfl (rdq_end HE.out HFo.out.2 (fun _ => HOK.out))
                    exact rread_results _ _ _ _ _ _ _ _ _ HFo.out.1 rfl rfl
                  · have hb : ((105 : Int) == (c.toNat : Int)) = false := by
                      rw [beq_eq_false_iff_ne]; exact fun h => hcj (u8_of (c := c) (d := 105) h.symm)
                    have HJ1 : Hid (∀ i d, i < 2 → kindL[i]? = some d → d ≠ c) := Lib.hid fun i d hi h => by
                      rcases Nat.lt_succ_iff_lt_or_eq.1 hi with h2 | rfl
                      · exact HJ.out i d h2 h
                      · rw [← Option.some.inj h]; exact fun h => hcj h.symm
                    clear hcj HJ
                    go_wp2_with fail
                    go_roundw
                    case rel => exact ⟨2, by omega, rfl, trivial, HJ1⟩
                    case measure => decide
                · by_cases hcj : c = 120
                  · have hb : ((120 : Int) == (c.toNat : Int)) = true := by rw [hcj]; rfl
                    have HE : Hid ((0 : Int) = cvE (f.data.toList.drop k)) := Lib.hid (by rw [HK.out.1, hcj]; rfl)
                    clear hcj
                    go_wp2_with fail
                    refine bodyPost_ret (v := .tuple #[spi F wd P (c.toNat : Int) ((q2 : Int) + 1), .int .i64 0]) ?_ rfl (rdq_end HE.out HFo.out.2 (fun _ => HOK.out))
                    exact rread_results _ _ _ _ _ _ _ _ _ HFo.out.1 rfl rfl
                  · have hb : ((120 : Int) == (c.toNat : Int)) = false := by
                      rw [beq_eq_false_iff_ne]; exact fun h => hcj (u8_of (c := c) (d := 120) h.symm)
                    have HJ1 : Hid (∀ i d, i < 3 → kindL[i]? = some d → d ≠ c) := Lib.hid fun i d hi h => by
                      rcases Nat.lt_succ_iff_lt_or_eq.1 hi with h2 | rfl
                      · exact HJ.out i d h2 h
                      · rw [← Option.some.inj h]; exact fun h => hcj h.symm
                    clear hcj HJ
                    go_wp2_with fail
                    go_roundw
                    case rel => exact ⟨3, by omega, rfl, trivial, HJ1⟩
                    case measure => decide
                · by_cases hcj : c = 102
                  · have hb : ((102 : Int) == (c.toNat : Int)) = true := by rw [hcj]; rfl
                    have HE : Hid ((0 : Int) = cvE (f.data.toList.drop k)) := Lib.hid (by rw [HK.out.1, hcj]; rfl)
                    clear hcj
                    go_wp2_with fail
                    refine bodyPost_ret (v := .tuple #[spi F wd P (c.toNat : Int) ((q2 : Int) + 1), .int .i64 0]) ?_ rfl (rdq_end HE.out HFo.out.2 (fun _ => HOK.out))
                    exact rread_results _ _ _ _ _ _ _ _ _ HFo.out.1 rfl rfl
                  · have hb : ((102 : Int) == (c.toNat : Int)) = false := by
                      rw [beq_eq_false_iff_ne]; exact fun h => hcj (u8_of (c := c) (d := 102) h.symm)
                    have HJ1 : Hid (∀ i d, i < 4 → kindL[i]? = some d → d ≠ c) := Lib.hid fun i d hi h => by
                      rcases Nat.lt_succ_iff_lt_or_eq.1 hi with h2 | rfl
                      · exact HJ.out i d h2 h
                      · rw [← Option.some.inj h]; exact fun h => hcj h.symm
                    clear hcj HJ
                    go_wp2_with fail
                    go_roundw
                    case rel => exact ⟨4, by omega, rfl, trivial, HJ1⟩
                    case measure => decide
                · by_cases hcj : c = 115
                  · have hb : ((115 : Int) == (c.toNat : Int)) = true := by rw [hcj]; rfl
                    have HE : Hid ((0 : Int) = cvE (f.data.toList.drop k)) := Lib.hid (by rw [HK.out.1, hcj]; rfl)
                    clear hcj
                    go_wp2_with fail
                    refine bodyPost_ret (v := .tuple #[spi F wd P (c.toNat : Int) ((q2 : Int) + 1), .int .i64 0]) ?_ rfl (rdq_end HE.out HFo.out.2 (fun _ => HOK.out))
                    exact rread_results _ _ _ _ _ _ _ _ _ HFo.out.1 rfl rfl
                  · have hb : ((115 : Int) == (c.toNat : Int)) = false := by
                      rw [beq_eq_false_iff_ne]; exact fun h => hcj (u8_of (c := c) (d := 115) h.symm)
                    have HJ1 : Hid (∀ i d, i < 5 → kindL[i]? = some d → d ≠ c) := Lib.hid fun i d hi h => by
                      rcases Nat.lt_succ_iff_lt_or_eq.1 hi with h2 | rfl
                      · exact HJ.out i d h2 h
                      · rw [← Option.some.inj h]; exact fun h => hcj h.symm
                    clear hcj HJ
                    go_wp2_with fail
                    go_roundw
                    case rel => exact ⟨5, by omega, rfl, trivial, HJ1⟩
                    case measure => decide
                · by_cases hcj : c = 99
                  · have hb : ((99 : Int) == (c.toNat : Int)) = true := by rw [hcj]; rfl
                    have HE : Hid ((0 : Int) = cvE (f.data.toList.drop k)) := Lib.hid (by rw [HK.out.1, hcj]; rfl)
                    clear hcj
                    go_wp2_with fail
                    refine bodyPost_ret (v := .tuple #[spi F wd P (c.toNat : Int) ((q2 : Int) + 1), .int .i64 0]) ?_ rfl (rdq_end HE.out HFo.out.2 (fun _ => HOK.out))
                    exact rread_results _ _ _ _ _ _ _ _ _ HFo.out.1 rfl rfl
                  · have hb : ((99 : Int) == (c.toNat : Int)) = false := by
                      rw [beq_eq_false_iff_ne]; exact fun h => hcj (u8_of (c := c) (d := 99) h.symm)
                    have HJ1 : Hid (∀ i d, i < 6 → kindL[i]? = some d → d ≠ c) := Lib.hid fun i d hi h => by
                      rcases Nat.lt_succ_iff_lt_or_eq.1 hi with h2 | rfl
                      · exact HJ.out i d h2 h
                      · rw [← Option.some.inj h]; exact fun h => hcj h.symm
                    clear hcj HJ
                    go_wp2_with fail
                    go_roundw
                    case rel => exact ⟨6, by omega, rfl, trivial, HJ1⟩
                    case measure => decide
                · by_cases hcj : c = 37
                  · have hb : ((37 : Int) == (c.toNat : Int)) = true := by rw [hcj]; rfl
                    have HE : Hid ((0 : Int) = cvE (f.data.toList.drop k)) := Lib.hid (by rw [HK.out.1, hcj]; rfl)
                    clear hcj
                    go_wp2_with fail
                    refine bodyPost_ret (v := .tuple #[spi F wd P (c.toNat : Int) ((q2 : Int) + 1), .int .i64 0]) ?_ rfl (rdq_end HE.out HFo.out.2 (fun _ => HOK.out))
                    exact rread_results _ _ _ _ _ _ _ _ _ HFo.out.1 rfl rfl
                  · have hb : ((37 : Int) == (c.toNat : Int)) = false := by
                      rw [beq_eq_false_iff_ne]; exact fun h => hcj (u8_of (c := c) (d := 37) h.symm)
                    have HJ1 : Hid (∀ i d, i < 7 → kindL[i]? = some d → d ≠ c) := Lib.hid fun i d hi h => by
                      rcases Nat.lt_succ_iff_lt_or_eq.1 hi with h2 | rfl
                      · exact HJ.out i d h2 h
                      · rw [← Option.some.inj h]; exact fun h => hcj h.symm
                    clear hcj HJ
                    go_wp2_with fail
                    go_roundw
                    case rel => exact ⟨7, by omega, rfl, trivial, HJ1⟩
                    case measure => decide
                · have HE : Hid ((16 : Int) = cvE (f.data.toList.drop k)) := Lib.hid (by
                    rw [HK.out.1, if_neg]
                    intro h
                    obtain ⟨i, hi, h⟩ := List.mem_iff_getElem.1 (List.contains_iff_mem.1 h)
                    exact HJ.out i _ hi (List.getElem?_eq_getElem hi) h)
                  clear HJ
                  go_wp2_with fail
                  refine bodyPost_ret (v := .tuple #[spi F wd P (c.toNat : Int) ((q2 : Int) + 1), .int .i64 16]) ?_ rfl (rdq_end HE.out HFo.out.2 (fun h => by rw [← HE.out] at h; cases h))
                  exact rread_results _ _ _ _ _ _ _ _ _ HFo.out.1 rfl rfl
            · have HE := Lib.hid (HT.out.none hbig hlt2)
              have HF := Lib.hid (And.intro (HM2.out.res.put F wd P 0 0) (put5_below HM2.out.below (Nat.le_refl _) F wd P 0 0))
              clear hbig
              have hge : (f.size : Int) ≤ (q2 : Int) := by omega
              go_wp2_with fail
              refine bodyPost_ret (v := .tuple #[spi F wd P 0 0, .int .i64 16]) ?_ rfl (rdq_end HE.out.symm HF.out.2 (by rw [HE.out]; intro h; cases h))
              exact rread_results _ _ _ _ _ _ _ _ _ HF.out.1 rfl rfl
      · clear hn
        go_wp2_with fail
        refine (C1.out _).mono ?_
        rintro e w' ⟨rfl, rfl⟩
        go_upto_region 8 with fail
        generalize wr.setCell ⟨w.heap.size + 1, 1, none⟩ (.int .i64 (wd : Int)) = w1 at *
        clear c0 c1 c2 c3 c4 f0 f1 f2 f3 f4
        go_cut [71] (fun v71 wx => v71 = .bool dot ∧ wx = w1)
        case first =>
          rcases HD with ⟨hlt1, h46, hp1, hq21, rfl, rfl⟩ | ⟨hno, rfl, rfl, rfl, rfl⟩
          · have h46i : (f[q1].toNat : Int) = 46 := by rw [h46]; rfl
            clear h46 hp1 hq21
            go_wp2_with fail
            go_meet
            exact ⟨rfl, rfl⟩
          · rcases hno with ⟨hlt1, hne⟩ | hlt1
            · have h46b : ((f[q2].toNat : Int) == 46) = false := by
                rw [beq_eq_false_iff_ne]; exact fun h => hne (u8_of (c := f[q2]) (d := 46) h)
              clear hne
              go_wp2_with fail
              go_meet
              exact ⟨rfl, rfl⟩
            · go_wp2_with fail
              go_meet
              exact ⟨rfl, rfl⟩
        case rest =>
        obtain ⟨rfl, rfl⟩ := hcut
        go_upto_if 71 with fail
        go_cut [1] (fun v1 wx => v1 = .int .i64 (q2 : Int) ∧ Hid (RdM w F wd P 0 0 wx))
        case first =>
          obtain ⟨c0, c1, c2, c3, c4, f0, f1, f2, f3, f4⟩ := HM1.out.own
          rcases HD with ⟨hlt1, h46, hp1, hq21, rfl, rfl⟩ | ⟨hno, rfl, rfl, rfl, rfl⟩
          · have C2 := Lib.hid fun W => CD.out (q1 + 1) W hlt1
            rw [hp1, hq21] at C2
            have HM2 := Lib.hid (HM1.out.set2 (p : Int))
            clear h46 hp1 hq21
            go_wp2_with fail
            refine (C2.out _).mono ?_
            rintro e w' ⟨rfl, rfl⟩
            go_wp2_with fail
            go_meet
            exact ⟨rfl, HM2⟩
          · clear hno
            go_wp2_with fail
            go_meet
            exact ⟨rfl, HM1⟩
        case rest =>
          obtain ⟨rfl, HM2⟩ := hcut
          clear HM1 C1
          obtain ⟨c0, c1, c2, c3, c4, f0, f1, f2, f3, f4⟩ := HM2.out.own
          obtain ⟨r0, r1, r2, r3, r4, g0, g1, g2, g3, g4⟩ := HM2.out.res
          have hPp : P = (p : Int) ∨ P = -1 ∧ p = 0 := by
            rcases HD with ⟨_, _, _, _, h, _⟩ | ⟨_, _, h, h2, _⟩
            · exact .inl h
            · exact .inr ⟨h, h2⟩
          clear HD
          by_cases hbig : 1000 < wd ∨ 1000 < p
          · have HE := Lib.hid (HT.out.big hbig)
            have HF := Lib.hid (And.intro (HM2.out.res.put F wd P 0 0) (put5_below HM2.out.below (Nat.le_refl _) F wd P 0 0))
            by_cases hw1 : 1000 < (wd : Int)
            · clear hbig
              go_wp2_with fail
              refine bodyPost_ret (v := .tuple #[spi F wd P 0 0, .int .i64 12]) ?_ rfl (rdq_end HE.out.symm HF.out.2 (by rw [HE.out]; intro h; cases h))
              exact rread_results _ _ _ _ _ _ _ _ _ HF.out.1 rfl rfl
            · have hP1 : 1000 < P := by omega
              clear hbig
              go_wp2_with fail
              refine bodyPost_ret (v := .tuple #[spi F wd P 0 0, .int .i64 12]) ?_ rfl (rdq_end HE.out.symm HF.out.2 (by rw [HE.out]; intro h; cases h))
              exact rread_results _ _ _ _ _ _ _ _ _ HF.out.1 rfl rfl
          · have hw1 : ¬ 1000 < (wd : Int) := by omega
            have hP1 : ¬ 1000 < P := by omega
            by_cases hlt2 : q2 < f.size
            · exfalso; omega
            · have HE := Lib.hid (HT.out.none hbig hlt2)
              have HF := Lib.hid (And.intro (HM2.out.res.put F wd P 0 0) (put5_below HM2.out.below (Nat.le_refl _) F wd P 0 0))
              clear hbig
              have hge : (f.size : Int) ≤ (q2 : Int) := by omega
              go_wp2_with fail
              refine bodyPost_ret (v := .tuple #[spi F wd P 0 0, .int .i64 16]) ?_ rfl (rdq_end HE.out.symm HF.out.2 (by rw [HE.out]; intro h; cases h))
              exact rread_results _ _ _ _ _ _ _ _ _ HF.out.1 rfl rfl
end Go.Proofs.YtipcanbeegladaaGreatDoor
