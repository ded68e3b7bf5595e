/-
  CONTRACTS of the journal's Frame and Open: the frame of a text; what any bytes are opened as; neither writes to what was there.
-/
import Derived.Test.YtmlpkimbcjkbkaaGreatDoorJCode
namespace Go.Proofs.YtmlpkimbcjkbkaaGreatDoor
open Go.RowKit

theorem ba_list (l : List UInt8) : (⟨l.toArray⟩ : ByteArray).data.toList = l := by simp
theorem ba_size (l : List UInt8) : (⟨l.toArray⟩ : ByteArray).size = l.length := rfl
theorem app_six (a b c d : List UInt8) (x y : UInt8) : a ++ b ++ [x] ++ c ++ [y] ++ d = a ++ (b ++ x :: (c ++ y :: d)) := by simp
set_option maxHeartbeats 1000000 in
set_option maxRecDepth 100000 in
theorem frame_any (t : ByteArray) (w : World) (ht : t.size ≤ 100000) (G : Gl w) :
    Calls Tryz.prog 22 #[.string t] w fun e w' => e = .returned (.string ⟨(frameL t.data.toList).toArray⟩) ∧ Below w.heap.size w w' := by
  have IT := Lib.hid (itoa_below (t.size : Int) w (by omega) (by omega) G)
  have hfin : (⟨#[115, 99, 114, 105, 98, 101, 32, 49, 32]⟩ : ByteArray) ++ ⟨(Lib.itoa (t.size : Int)).toArray⟩ ++ ⟨#[32]⟩ ++ hexS (Ad.sum t.data.toList) ++ ⟨#[10]⟩ ++ t = ⟨(frameL t.data.toList).toArray⟩ := by
    refine WideShapes.bytes_inj ?_
    have e : t.data.toList.length = t.size := by simp
    have e2 : (hexS (Ad.sum t.data.toList)).data.toList = hx t.data.toList := by simp [hexS, hx]
    simp only [ByteArray.data_append, Array.toList_append]
    rw [e2, Lib.itoa_nonneg]
    unfold frameL
    rw [e]
    exact app_six _ _ _ _ _ _
  have hl : (⟨(Lib.itoa (t.size : Int)).toArray⟩ : ByteArray).size ≤ 21 := by
    have := Lib.itoa_length_le (t.size : Int) (by omega) (by omega)
    rw [ba_size]; exact this
  have hh : (hexS (Ad.sum t.data.toList)).size = 8 := rfl
  have OF := Lib.hid (fun w => of_any t w (by unfold maxLen; omega))
  have HX := Lib.hid (fun w => hex_any (Ad.sum t.data.toList) w (Ad.sum_lt _))
  generalize (⟨(frameL t.data.toList).toArray⟩ : ByteArray) = fr at *
  generalize (⟨(Lib.itoa (t.size : Int)).toArray⟩ : ByteArray) = it at *
  generalize hexS (Ad.sum t.data.toList) = hs at *
  generalize Ad.sum t.data.toList = sm at *
  have HF := Lib.hid hfin
  have hh8 : hs.size ≤ 8 := by omega
  clear hfin hh G
  go_enter Tryz.func22, Tryz.ntmps22
  go_wp2_with fail
  refine IT.out.mono ?_
  rintro e w1 ⟨rfl, hb1⟩
  have HB1 := Lib.hid hb1
  clear hb1 IT
  go_wp2_with fail
  refine (OF.out _).mono ?_
  rintro e w2 ⟨rfl, hb2⟩
  have HB2 := Lib.hid (HB1.out.trans (hb2.mono HB1.out.size))
  clear hb2 HB1 OF
  go_wp2_with fail
  refine (HX.out _).mono ?_
  rintro e w3 ⟨rfl, hb3⟩
  have HB3 := Lib.hid (HB2.out.trans (hb3.mono HB2.out.size))
  clear hb3 HB2 HX
  go_wp2_with fail
  rw [HF.out]
  go_ret
  exact ⟨rfl, HB3.out⟩

theorem cut_is (s A B : ByteArray) (c : UInt8) (t : Bool) (w : World) (hs : s.size ≤ 100000) (h : Lib.cut s.data.toList [c] = (A.data.toList, B.data.toList, t)) (G : Gl w) :
    Calls Tryz.prog 64 #[.string s, .string ⟨#[c]⟩] w fun e w' => e = .returned (.tuple #[.string A, .string B, .bool t]) ∧ Below w.heap.size w w' := by
  obtain ⟨m, hm⟩ := G.ml
  refine (Tryz.strings_Cut s ⟨#[c]⟩ m w (by omega) hm).mono ?_
  rintro e w1 ⟨rfl, n, rfl⟩
  have e0 : Lib.cut s.data.toList (⟨#[c]⟩ : ByteArray).data.toList = (A.data.toList, B.data.toList, t) := h
  rw [e0]
  exact ⟨rfl, ⟨rfl, rfl, rfl, Nat.le_refl _, fun _ _ => rfl⟩⟩
set_option maxHeartbeats 1000000 in
theorem lite_prefix (s p : ByteArray) (w : World) :
    Calls Tryz.prog 89 #[.string s, .string p] w fun e w' => e = .returned (.tuple #[.string ⟨(Lib.trimPrefix s.data.toList p.data.toList).toArray⟩, .bool (Lib.hasPrefix s.data.toList p.data.toList)]) ∧ Below w.heap.size w w' := by
  cases h : Lib.hasPrefix s.data.toList p.data.toList with
  | false =>
    have e : (⟨(Lib.trimPrefix s.data.toList p.data.toList).toArray⟩ : ByteArray) = s := by
      unfold Lib.trimPrefix; rw [h]; simp
    rw [e]
    have H := Lib.hid h
    clear h e
    go_enter Tryz.func89, Tryz.ntmps89
    go_wp2_with fail
    refine (Tryz.stringslite_HasPrefix s p _).mono ?_
    rintro e w1 ⟨rfl, rfl⟩
    rw [H.out]
    go_wp2_with fail
    go_ret2
    exact ⟨rfl, Below.refl _ _⟩
  | true =>
    have hl : p.size ≤ s.size := by
      have := (List.isPrefixOf_iff_prefix.1 (show p.data.toList.isPrefixOf s.data.toList = true from h)).length_le
      simpa using this
    have e : (⟨(Lib.trimPrefix s.data.toList p.data.toList).toArray⟩ : ByteArray) = s.extract p.size s.size := by
      refine WideShapes.bytes_inj ?_
      unfold Lib.trimPrefix
      rw [h]
      have e2 : (s.data.toList.drop p.size).take (s.size - p.size) = s.data.toList.drop p.size := List.take_of_length_le (by simp)
      simp [ByteArray.data_extract, e2]
    rw [e]
    have H := Lib.hid h
    clear h e
    go_enter Tryz.func89, Tryz.ntmps89
    go_wp2_with fail
    refine (Tryz.stringslite_HasPrefix s p _).mono ?_
    rintro e w1 ⟨rfl, rfl⟩
    rw [H.out]
    go_wp2_with fail
    go_ret2
    exact ⟨rfl, Below.refl _ _⟩
theorem cutPrefix_any (s p : ByteArray) (w : World) :
    Calls Tryz.prog 63 #[.string s, .string p] w fun e w' => e = .returned (.tuple #[.string ⟨(Lib.trimPrefix s.data.toList p.data.toList).toArray⟩, .bool (Lib.hasPrefix s.data.toList p.data.toList)]) ∧ Below w.heap.size w w' := by
  generalize hq : Lib.trimPrefix s.data.toList p.data.toList = q
  have C := Lib.hid (lite_prefix s p w)
  rw [hq] at C
  clear hq
  go_enter Tryz.func63, Tryz.ntmps63
  go_wp2_with fail
  refine C.out.mono ?_
  rintro e w1 ⟨rfl, hb⟩
  go_wp2_with fail
  go_ret2
  exact ⟨rfl, hb⟩
theorem clone_any (s : ByteArray) (w : World) (hs : s.size ≤ 100000) :
    Calls Tryz.prog 59 #[.string s] w fun e w' => e = .returned (.string s) ∧ Below w.heap.size w w' := by
  go_enter Tryz.func59, Tryz.ntmps59
  go_wp2_with fail
  refine (Tryz.stringslite_Clone s _ (by omega)).mono ?_
  rintro e w1 ⟨rfl, hb⟩
  go_wp2_with fail
  go_ret
  exact ⟨rfl, hb⟩
theorem length_some (d : ByteArray) (w : World) (hd : d.size ≤ 100000) (G : Gl w) :
    Calls Tryz.prog 65 #[.string d] w fun e w' => (∃ (n : Int) (b : Bool), e = .returned (.tuple #[.int .i64 n, .bool b])) ∧ Below w.heap.size w w' := by
  cases h : numV d.data.toList with
  | none => exact (length_no d w hd h G).mono fun _ _ ⟨e, hb⟩ => ⟨⟨_, _, e⟩, hb⟩
  | some n => exact (length_yes d n w hd h G).mono fun _ _ ⟨e, hb⟩ => ⟨⟨_, _, e⟩, hb⟩

theorem ret_open (T : ByteArray) : Ending.returned (.tuple #[.string T, .int .i64 0]) = .returned (.tuple #[.string ⟨(T.data.toList, (0 : Nat)).1.toArray⟩, .int .i64 ((T.data.toList, (0 : Nat)).2 : Nat)]) := by
  have e : (⟨(T.data.toList, (0 : Nat)).1.toArray⟩ : ByteArray) = T := WideShapes.bytes_inj (by simp)
  rw [e]
  rfl
set_option maxHeartbeats 2000000 in
set_option maxRecDepth 100000 in
/-- What stands behind the head. -/
theorem open_any (s : ByteArray) (w : World) (hs : s.size ≤ 100000) (G : Gl w) :
    Calls Tryz.prog 28 #[.string s] w fun e w' => e = .returned (.tuple #[.string ⟨(openL s.data.toList).1.toArray⟩, .int .i64 (openL s.data.toList).2]) ∧ Below w.heap.size w w' := by
  have HG := Lib.hid G
  clear G
  have PR := Lib.hid (fun w => Tryz.strings_HasPrefix ⟨#[115, 99, 114, 105, 98, 101, 32, 49, 32]⟩ s w)
  have CP := Lib.hid (fun w => cutPrefix_any s ⟨#[115, 99, 114, 105, 98, 101, 32, 49, 32]⟩ w)
  cases h1 : Lib.hasPrefix headL s.data.toList with
  | true =>
    have e : openL s.data.toList = ([], 2) := by unfold openL; rw [if_pos h1]
    rw [e]
    have H1 := Lib.hid h1
    clear h1 e
    go_enter Tryz.func28, Tryz.ntmps28
    go_wp2_with fail
    refine (PR.out _).mono ?_
    rintro e w1 ⟨rfl, rfl⟩
    rw [show Lib.hasPrefix (⟨#[115, 99, 114, 105, 98, 101, 32, 49, 32]⟩ : ByteArray).data.toList s.data.toList = true from H1.out]
    go_wp2_with fail
    go_ret2
    exact ⟨rfl, Below.refl _ _⟩
  | false =>
    cases h2 : Lib.hasPrefix s.data.toList headL with
    | false =>
      have e : openL s.data.toList = ([], 3) := by unfold openL; rw [if_neg (by simp [h1]), if_pos h2]
      rw [e]
      have H1 := Lib.hid h1
      have H2 := Lib.hid h2
      clear h1 h2 e
      go_enter Tryz.func28, Tryz.ntmps28
      go_wp2_with fail
      refine (PR.out _).mono ?_
      rintro e w1 ⟨rfl, rfl⟩
      rw [show Lib.hasPrefix (⟨#[115, 99, 114, 105, 98, 101, 32, 49, 32]⟩ : ByteArray).data.toList s.data.toList = false from H1.out]
      go_wp2_with fail
      refine (CP.out _).mono ?_
      rintro e w2 ⟨rfl, hb2⟩
      rw [show Lib.hasPrefix s.data.toList (⟨#[115, 99, 114, 105, 98, 101, 32, 49, 32]⟩ : ByteArray).data.toList = false from H2.out]
      have HB2 := Lib.hid hb2
      clear hb2
      generalize Lib.trimPrefix s.data.toList _ = q
      go_wp2_with fail
      go_ret2
      exact ⟨rfl, HB2.out⟩
    | true =>
      obtain ⟨R, hR⟩ : ∃ R : ByteArray, R = ⟨(Lib.trimPrefix s.data.toList headL).toArray⟩ := ⟨_, rfl⟩
      have hRl : R.data.toList = Lib.trimPrefix s.data.toList headL := by rw [hR]
      have hRz : R.size ≤ 100000 := by
        have e : R.size = (Lib.trimPrefix s.data.toList headL).length := by rw [← hRl]; simp
        have e2 : (Lib.trimPrefix s.data.toList headL).length ≤ s.data.toList.length := by unfold Lib.trimPrefix; split <;> simp
        have e3 : s.data.toList.length = s.size := by simp
        omega
      have e : openL s.data.toList = restL R.data.toList := by unfold openL; rw [if_neg (by simp [h1]), if_neg (by simp [h2]), hRl]
      rw [e]
      have H1 := Lib.hid h1
      have H2 := Lib.hid h2
      have HRR := Lib.hid (show (⟨(Lib.trimPrefix s.data.toList (⟨#[115, 99, 114, 105, 98, 101, 32, 49, 32]⟩ : ByteArray).data.toList).toArray⟩ : ByteArray) = R from hR.symm)
      clear h1 h2 e hRl hR hs
      rcases cut1_cases R.data.toList 10 with hn | ⟨a, t, hat, ha⟩
      · rw [rest_no _ hn]
        have HC := Lib.hid (show Lib.cut R.data.toList [10] = (R.data.toList, (⟨#[]⟩ : ByteArray).data.toList, false) from cut1_no _ _ hn)
        clear hn
        go_enter Tryz.func28, Tryz.ntmps28
        go_wp2_with fail
        refine (PR.out _).mono ?_
        rintro e w1 ⟨rfl, rfl⟩
        rw [show Lib.hasPrefix (⟨#[115, 99, 114, 105, 98, 101, 32, 49, 32]⟩ : ByteArray).data.toList s.data.toList = false from H1.out]
        go_wp2_with fail
        refine (CP.out _).mono ?_
        rintro e w2 ⟨rfl, hb2⟩
        rw [show Lib.hasPrefix s.data.toList (⟨#[115, 99, 114, 105, 98, 101, 32, 49, 32]⟩ : ByteArray).data.toList = true from H2.out, HRR.out]
        have HB2 := Lib.hid hb2
        clear hb2
        go_wp2_with fail
        refine (cut_is R R ⟨#[]⟩ 10 false _ hRz HC.out (HG.out.next HB2.out)).mono ?_
        rintro e w3 ⟨rfl, hb3⟩
        have HB3 := Lib.hid (HB2.out.trans (hb3.mono HB2.out.size))
        clear hb3 HB2
        go_wp2_with fail
        go_ret2
        exact ⟨rfl, HB3.out⟩
      · rw [hat, rest_at _ _ ha]
        obtain ⟨A, rfl⟩ : ∃ A : ByteArray, a = A.data.toList := ⟨⟨a.toArray⟩, (ba_list a).symm⟩
        obtain ⟨T, rfl⟩ : ∃ T : ByteArray, t = T.data.toList := ⟨⟨t.toArray⟩, (ba_list t).symm⟩
        have hsz : A.size + T.size + 1 = R.size := by
          have := congrArg List.length hat
          simp at this; omega
        have hAz : A.size ≤ 100000 := by omega
        have hTz : T.size ≤ 100000 := by omega
        have HC := Lib.hid (show Lib.cut R.data.toList [10] = (A.data.toList, T.data.toList, true) by rw [hat]; exact cut1_at _ _ _ ha)
        clear hat ha hsz
        rcases cut1_cases A.data.toList 32 with hn | ⟨d, h, hdh, hd⟩
        · rw [body_no _ _ hn]
          have HD := Lib.hid (show Lib.cut A.data.toList [32] = (A.data.toList, (⟨#[]⟩ : ByteArray).data.toList, false) from cut1_no _ _ hn)
          clear hn
          go_enter Tryz.func28, Tryz.ntmps28
          go_wp2_with fail
          refine (PR.out _).mono ?_
          rintro e w1 ⟨rfl, rfl⟩
          rw [show Lib.hasPrefix (⟨#[115, 99, 114, 105, 98, 101, 32, 49, 32]⟩ : ByteArray).data.toList s.data.toList = false from H1.out]
          go_wp2_with fail
          refine (CP.out _).mono ?_
          rintro e w2 ⟨rfl, hb2⟩
          rw [show Lib.hasPrefix s.data.toList (⟨#[115, 99, 114, 105, 98, 101, 32, 49, 32]⟩ : ByteArray).data.toList = true from H2.out, HRR.out]
          have HB2 := Lib.hid hb2
          clear hb2
          go_wp2_with fail
          refine (cut_is R A T 10 true _ hRz HC.out (HG.out.next HB2.out)).mono ?_
          rintro e w3 ⟨rfl, hb3⟩
          have HB3 := Lib.hid (HB2.out.trans (hb3.mono HB2.out.size))
          clear hb3 HB2
          go_wp2_with fail
          refine (cut_is A A ⟨#[]⟩ 32 false _ hAz HD.out (HG.out.next HB3.out)).mono ?_
          rintro e w4 ⟨rfl, hb4⟩
          have HB4 := Lib.hid (HB3.out.trans (hb4.mono HB3.out.size))
          clear hb4 HB3
          go_wp2_with fail
          refine (length_some A _ hAz (HG.out.next HB4.out)).mono ?_
          rintro e w5 ⟨⟨n, b, rfl⟩, hb5⟩
          have HB5 := Lib.hid (HB4.out.trans (hb5.mono HB4.out.size))
          clear hb5 HB4
          go_wp2_with fail
          go_ret2
          exact ⟨rfl, HB5.out⟩
        · rw [hdh, body_at _ _ _ hd]
          obtain ⟨D, rfl⟩ : ∃ D : ByteArray, d = D.data.toList := ⟨⟨d.toArray⟩, (ba_list d).symm⟩
          obtain ⟨H, rfl⟩ : ∃ H : ByteArray, h = H.data.toList := ⟨⟨h.toArray⟩, (ba_list h).symm⟩
          have hsz : D.size + H.size + 1 = A.size := by
            have := congrArg List.length hdh
            simp at this; omega
          have hDz : D.size ≤ 100000 := by omega
          have hHz : H.size ≤ maxLen := by unfold maxLen; omega
          have hTm : T.size ≤ maxLen := by unfold maxLen; omega
          have HD := Lib.hid (show Lib.cut A.data.toList [32] = (D.data.toList, H.data.toList, true) by rw [hdh]; exact cut1_at _ _ _ hd)
          clear hdh hd hsz
          cases hv : numV D.data.toList with
          | none =>
            have HV := Lib.hid hv
            clear hv hHz hTm
            go_enter Tryz.func28, Tryz.ntmps28
            go_wp2_with fail
            refine (PR.out _).mono ?_
            rintro e w1 ⟨rfl, rfl⟩
            rw [show Lib.hasPrefix (⟨#[115, 99, 114, 105, 98, 101, 32, 49, 32]⟩ : ByteArray).data.toList s.data.toList = false from H1.out]
            go_wp2_with fail
            refine (CP.out _).mono ?_
            rintro e w2 ⟨rfl, hb2⟩
            rw [show Lib.hasPrefix s.data.toList (⟨#[115, 99, 114, 105, 98, 101, 32, 49, 32]⟩ : ByteArray).data.toList = true from H2.out, HRR.out]
            have HB2 := Lib.hid hb2
            clear hb2
            go_wp2_with fail
            refine (cut_is R A T 10 true _ hRz HC.out (HG.out.next HB2.out)).mono ?_
            rintro e w3 ⟨rfl, hb3⟩
            have HB3 := Lib.hid (HB2.out.trans (hb3.mono HB2.out.size))
            clear hb3 HB2
            go_wp2_with fail
            refine (cut_is A D H 32 true _ hAz HD.out (HG.out.next HB3.out)).mono ?_
            rintro e w4 ⟨rfl, hb4⟩
            have HB4 := Lib.hid (HB3.out.trans (hb4.mono HB3.out.size))
            clear hb4 HB3
            go_wp2_with fail
            refine (length_no D _ hDz HV.out (HG.out.next HB4.out)).mono ?_
            rintro e w5 ⟨rfl, hb5⟩
            have HB5 := Lib.hid (HB4.out.trans (hb5.mono HB4.out.size))
            clear hb5 HB4
            go_wp2_with fail
            go_ret2
            exact ⟨rfl, HB5.out⟩
          | some n =>
            have HV := Lib.hid hv
            have hn := (numV_some hv).2
            clear hv
            have etl : T.data.toList.length = T.size := by simp
            rw [etl]
            clear etl
            rcases (by omega : T.size < n ∨ n < T.size ∨ T.size = n) with hc | hc | hc
            · have e1 : (if T.size < n then (2 : Int) else if n < T.size then 3 else 0) = 2 := if_pos hc
              simp only [if_pos hc]
              have E1 := Lib.hid e1
              clear e1 hc
              go_enter Tryz.func28, Tryz.ntmps28
              go_wp2_with fail
              refine (PR.out _).mono ?_
              rintro e w1 ⟨rfl, rfl⟩
              rw [show Lib.hasPrefix (⟨#[115, 99, 114, 105, 98, 101, 32, 49, 32]⟩ : ByteArray).data.toList s.data.toList = false from H1.out]
              go_wp2_with fail
              refine (CP.out _).mono ?_
              rintro e w2 ⟨rfl, hb2⟩
              rw [show Lib.hasPrefix s.data.toList (⟨#[115, 99, 114, 105, 98, 101, 32, 49, 32]⟩ : ByteArray).data.toList = true from H2.out, HRR.out]
              have HB2 := Lib.hid hb2
              clear hb2
              go_wp2_with fail
              refine (cut_is R A T 10 true _ hRz HC.out (HG.out.next HB2.out)).mono ?_
              rintro e w3 ⟨rfl, hb3⟩
              have HB3 := Lib.hid (HB2.out.trans (hb3.mono HB2.out.size))
              clear hb3 HB2
              go_wp2_with fail
              refine (cut_is A D H 32 true _ hAz HD.out (HG.out.next HB3.out)).mono ?_
              rintro e w4 ⟨rfl, hb4⟩
              have HB4 := Lib.hid (HB3.out.trans (hb4.mono HB3.out.size))
              clear hb4 HB3
              go_wp2_with fail
              refine (length_yes D n _ hDz HV.out (HG.out.next HB4.out)).mono ?_
              rintro e w5 ⟨rfl, hb5⟩
              have HB5 := Lib.hid (HB4.out.trans (hb5.mono HB4.out.size))
              clear hb5 HB4
              go_wp2_with fail
              refine (compare_any T.size n _).mono ?_
              rintro e w6 ⟨rfl, rfl⟩
              rw [E1.out]
              go_wp2_with fail
              go_ret2
              exact ⟨rfl, HB5.out⟩
            · have hc' : ¬ T.size < n := by omega
              have e1 : (if T.size < n then (2 : Int) else if n < T.size then 3 else 0) = 3 := by rw [if_neg hc', if_pos hc]
              simp only [if_neg hc', if_pos hc]
              have E1 := Lib.hid e1
              clear e1 hc hc'
              go_enter Tryz.func28, Tryz.ntmps28
              go_wp2_with fail
              refine (PR.out _).mono ?_
              rintro e w1 ⟨rfl, rfl⟩
              rw [show Lib.hasPrefix (⟨#[115, 99, 114, 105, 98, 101, 32, 49, 32]⟩ : ByteArray).data.toList s.data.toList = false from H1.out]
              go_wp2_with fail
              refine (CP.out _).mono ?_
              rintro e w2 ⟨rfl, hb2⟩
              rw [show Lib.hasPrefix s.data.toList (⟨#[115, 99, 114, 105, 98, 101, 32, 49, 32]⟩ : ByteArray).data.toList = true from H2.out, HRR.out]
              have HB2 := Lib.hid hb2
              clear hb2
              go_wp2_with fail
              refine (cut_is R A T 10 true _ hRz HC.out (HG.out.next HB2.out)).mono ?_
              rintro e w3 ⟨rfl, hb3⟩
              have HB3 := Lib.hid (HB2.out.trans (hb3.mono HB2.out.size))
              clear hb3 HB2
              go_wp2_with fail
              refine (cut_is A D H 32 true _ hAz HD.out (HG.out.next HB3.out)).mono ?_
              rintro e w4 ⟨rfl, hb4⟩
              have HB4 := Lib.hid (HB3.out.trans (hb4.mono HB3.out.size))
              clear hb4 HB3
              go_wp2_with fail
              refine (length_yes D n _ hDz HV.out (HG.out.next HB4.out)).mono ?_
              rintro e w5 ⟨rfl, hb5⟩
              have HB5 := Lib.hid (HB4.out.trans (hb5.mono HB4.out.size))
              clear hb5 HB4
              go_wp2_with fail
              refine (compare_any T.size n _).mono ?_
              rintro e w6 ⟨rfl, rfl⟩
              rw [E1.out]
              go_wp2_with fail
              go_ret2
              exact ⟨rfl, HB5.out⟩
            · have hc' : ¬ T.size < n := by omega
              have hc2 : ¬ n < T.size := by omega
              have e1 : (if T.size < n then (2 : Int) else if n < T.size then 3 else 0) = 0 := by rw [if_neg hc', if_neg hc2]
              simp only [if_neg hc', if_neg hc2]
              have E1 := Lib.hid e1
              clear e1 hc hc' hc2
              have CH := Lib.hid (fun w => check_any H T w hHz hTm)
              have eT : (⟨T.data.toList.toArray⟩ : ByteArray) = T := WideShapes.bytes_inj (by simp)
              have eH : (⟨H.data.toList.toArray⟩ : ByteArray) = H := WideShapes.bytes_inj (by simp)
              rw [eT, eH]
              generalize hcv : checkV H T = cv at CH ⊢
              clear hcv eH eT
              by_cases hz : cv = 0
              · subst hz
                rw [if_pos rfl]
                go_enter Tryz.func28, Tryz.ntmps28
                go_wp2_with fail
                refine (PR.out _).mono ?_
                rintro e w1 ⟨rfl, rfl⟩
                rw [show Lib.hasPrefix (⟨#[115, 99, 114, 105, 98, 101, 32, 49, 32]⟩ : ByteArray).data.toList s.data.toList = false from H1.out]
                go_wp2_with fail
                refine (CP.out _).mono ?_
                rintro e w2 ⟨rfl, hb2⟩
                rw [show Lib.hasPrefix s.data.toList (⟨#[115, 99, 114, 105, 98, 101, 32, 49, 32]⟩ : ByteArray).data.toList = true from H2.out, HRR.out]
                have HB2 := Lib.hid hb2
                clear hb2
                go_wp2_with fail
                refine (cut_is R A T 10 true _ hRz HC.out (HG.out.next HB2.out)).mono ?_
                rintro e w3 ⟨rfl, hb3⟩
                have HB3 := Lib.hid (HB2.out.trans (hb3.mono HB2.out.size))
                clear hb3 HB2
                go_wp2_with fail
                refine (cut_is A D H 32 true _ hAz HD.out (HG.out.next HB3.out)).mono ?_
                rintro e w4 ⟨rfl, hb4⟩
                have HB4 := Lib.hid (HB3.out.trans (hb4.mono HB3.out.size))
                clear hb4 HB3
                go_wp2_with fail
                refine (length_yes D n _ hDz HV.out (HG.out.next HB4.out)).mono ?_
                rintro e w5 ⟨rfl, hb5⟩
                have HB5 := Lib.hid (HB4.out.trans (hb5.mono HB4.out.size))
                clear hb5 HB4
                go_wp2_with fail
                refine (compare_any T.size n _).mono ?_
                rintro e w6 ⟨rfl, rfl⟩
                rw [E1.out]
                go_wp2_with fail
                refine (CH.out _).mono ?_
                rintro e w7 ⟨rfl, hb7⟩
                have HB7 := Lib.hid (HB5.out.trans (hb7.mono HB5.out.size))
                clear hb7 HB5
                go_wp2_with fail
                refine (clone_any T _ hTz).mono ?_
                rintro e w8 ⟨rfl, hb8⟩
                have HB8 := Lib.hid (HB7.out.trans (hb8.mono HB7.out.size))
                clear hb8 HB7
                go_wp2_with fail
                go_ret2
                exact ⟨ret_open T, HB8.out⟩
              · rw [if_neg hz]
                have hz1 : ((cv : Int) != 0) = true := by simp; omega
                have hz2 : ((cv : Int) == 0) = false := by simp; omega
                have hz3 : decide ((cv : Int) = 0) = false := by simp; omega
                clear hz
                go_enter Tryz.func28, Tryz.ntmps28
                go_wp2_with fail
                refine (PR.out _).mono ?_
                rintro e w1 ⟨rfl, rfl⟩
                rw [show Lib.hasPrefix (⟨#[115, 99, 114, 105, 98, 101, 32, 49, 32]⟩ : ByteArray).data.toList s.data.toList = false from H1.out]
                go_wp2_with fail
                refine (CP.out _).mono ?_
                rintro e w2 ⟨rfl, hb2⟩
                rw [show Lib.hasPrefix s.data.toList (⟨#[115, 99, 114, 105, 98, 101, 32, 49, 32]⟩ : ByteArray).data.toList = true from H2.out, HRR.out]
                have HB2 := Lib.hid hb2
                clear hb2
                go_wp2_with fail
                refine (cut_is R A T 10 true _ hRz HC.out (HG.out.next HB2.out)).mono ?_
                rintro e w3 ⟨rfl, hb3⟩
                have HB3 := Lib.hid (HB2.out.trans (hb3.mono HB2.out.size))
                clear hb3 HB2
                go_wp2_with fail
                refine (cut_is A D H 32 true _ hAz HD.out (HG.out.next HB3.out)).mono ?_
                rintro e w4 ⟨rfl, hb4⟩
                have HB4 := Lib.hid (HB3.out.trans (hb4.mono HB3.out.size))
                clear hb4 HB3
                go_wp2_with fail
                refine (length_yes D n _ hDz HV.out (HG.out.next HB4.out)).mono ?_
                rintro e w5 ⟨rfl, hb5⟩
                have HB5 := Lib.hid (HB4.out.trans (hb5.mono HB4.out.size))
                clear hb5 HB4
                go_wp2_with fail
                refine (compare_any T.size n _).mono ?_
                rintro e w6 ⟨rfl, rfl⟩
                rw [E1.out]
                go_wp2_with fail
                refine (CH.out _).mono ?_
                rintro e w7 ⟨rfl, hb7⟩
                have HB7 := Lib.hid (HB5.out.trans (hb7.mono HB5.out.size))
                clear hb7 HB5
                go_wp2_with fail
                go_ret2
                exact ⟨rfl, HB7.out⟩
end Go.Proofs.YtmlpkimbcjkbkaaGreatDoor
