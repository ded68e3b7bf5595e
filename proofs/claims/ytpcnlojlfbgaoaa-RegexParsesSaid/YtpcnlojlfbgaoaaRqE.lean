/-
  CONTRACT of the document's own Print (scriberef09.Print), for every tree.
-/
import Derived.Test.YtpcnlojlfbgaoaaRq1
import Derived.Test.YtpcnlojlfbgaoaaRgRf3
namespace Go.Proofs.Ytpcnlojlfbgaoaa
open Go.RowKit

theorem TreesM.get {w : World} {B : Nat → Prop} : ∀ {ks : List RT} {nds : List RNd}, TreesM w B ks nds → ∀ (k : Nat) (t : RT), ks[k]? = some t → ∃ x : RNd, nds[k]? = some x ∧ TreeM w B t x
  | [], _, _, k, t, hk => by simp at hk
  | a :: l, nds, h, k, t, hk => by
    unfold TreesM at h
    obtain ⟨nd, rest, rfl, h2, h3⟩ := h
    cases k with
    | zero =>
      obtain rfl : a = t := by simpa using hk
      exact ⟨nd, rfl, h2⟩
    | succ k =>
      obtain ⟨x, hx⟩ := h3.get k t (by simpa using hk)
      exact ⟨x, by simpa using hx.1, hx.2⟩
theorem partN_congr2 (f g : Nat → Bool) (c : Nat) (h : ∀ x, x ≤ c + 3 → f x = g x) : ∀ i, partN f c i = partN g c i
  | 0 => rfl
  | i + 1 => by
    show 2 * partN f c i + _ = 2 * partN g c i + _
    rw [partN_congr2 f g c h i, h (c + 3 - i) (by omega)]
theorem digsN_congr2 (f g : Nat → Bool) (h : ∀ x, x < 256 → f x = g x) : digsN f 64 = digsN g 64 := by
  unfold digsN
  apply List.map_congr_left
  intro i hi
  have hi2 : i < 64 := by simpa using hi
  rw [partN_congr2 f g _ (fun x hx => h x (by omega))]
/-- What the document's Print does to a tree. -/
def PfOk (t : RT) : Prop := ∀ (nd : RNd) (w : World) (B : Nat → Prop), TreeM w B t nd → (printL t).length ≤ 1000000 →
    Calls Try.prog 9 #[nd.val] w fun e w' => e = .returned (.string ⟨(printL t).toArray⟩) ∧ Below w.heap.size w w'
theorem ba_size_list {T : ByteArray} {L : List UInt8} (h : T.data.toList = L) : T.size = L.length := by
  rw [← h]; simp
theorem ba_of_list {T : ByteArray} {L : List UInt8} (h : T.data.toList = L) : T = ⟨L.toArray⟩ := by
  apply ByteArray.ext; apply Array.ext'; simpa using h
set_option maxHeartbeats 4000000 in
set_option maxRecDepth 100000 in
theorem rfprint_one (op : Nat) (st : W4) (ks : List RT) (ih : ∀ t, t ∈ ks → PfOk t) : PfOk (.mk op st ks) := by
  intro nd w B ht hn
  obtain ⟨ndop, S, kp, kn, kc⟩ := nd
  unfold TreeM at ht
  obtain ⟨hop, ⟨hop8, hset⟩, nds, h3, h4, h5⟩ := ht
  obtain rfl : ndop = (op : Int) := hop
  obtain ⟨_, _, ekn, _⟩ := rg_own_form h3
  obtain rfl : kn = ks.length := by simp only [RNd.kids, Value.slice.injEq] at ekn; exact ekn.2.1
  clear ekn
  rw [printL_eq] at hn ⊢
  have hkb : ks.length ≤ 1000000 := by have := kidsL_ge ks; simp at hn; omega
  have HNL := Lib.hid h5.len
  have HN := Lib.hid hn
  have HIH := Lib.hid ih
  have HKID := Lib.hid (And.intro h3 h5)
  obtain ⟨H, hH⟩ : ∃ H, signG op :: setL op st = H := ⟨_, rfl⟩
  have hHe : signG op :: (setL op st ++ kidsL ks) = H ++ kidsL ks := by rw [← hH]; rfl
  rw [hHe] at HN ⊢
  have HS := Lib.hid hset
  clear hset h3 h4 h5 ih hn hHe
  have HBX := (Below.refl w.heap.size w).alloc (Nat.le_refl _) (.cells #[.int .i64 (op : Int), .string S, .slice kp ks.length kc] 34)
  have HC : (w.alloc (.cells #[.int .i64 (op : Int), .string S, .slice kp ks.length kc] 34)).cell? ⟨w.heap.size, 0, none⟩ = some (.int .i64 (op : Int)) ∧ (w.alloc (.cells #[.int .i64 (op : Int), .string S, .slice kp ks.length kc] 34)).cell? ⟨w.heap.size, 1, none⟩ = some (.string S) ∧ (w.alloc (.cells #[.int .i64 (op : Int), .string S, .slice kp ks.length kc] 34)).cell? ⟨w.heap.size, 2, none⟩ = some (.slice kp ks.length kc) := by refine ⟨?_, ?_, ?_⟩ <;> simp [go_sem]
  have hl1 : w.heap.size < (w.alloc (.cells #[.int .i64 (op : Int), .string S, .slice kp ks.length kc] 34)).heap.size := by simp
  go_enter Try.func9, Try.ntmps9
  simp only [RNd.val]
  go_upto_region 1 with fail
  generalize w.alloc (.cells #[.int .i64 (op : Int), .string S, .slice kp ks.length kc] 34) = w1 at *
  have HC1 := Lib.hid HC
  have HB1 := Lib.hid HBX
  clear HC HBX
  obtain ⟨n0, n1, n2⟩ := HC1.out
  go_cut [3] (fun v wx => v = .string ⟨#[signG op]⟩ ∧ wx = w1)
  case first =>
    clear hH HS HN HKID HIH HNL
    rcases (show op = 0 ∨ op = 1 ∨ op = 2 ∨ op = 3 ∨ op = 4 ∨ op = 5 ∨ op = 6 ∨ op = 7 ∨ op = 8 by omega) with rfl | rfl | rfl | rfl | rfl | rfl | rfl | rfl | rfl
    all_goals
      go_wp2_with fail
      go_meet
      exact ⟨rfl, rfl⟩
  case rest =>
  obtain ⟨rfl, rfl⟩ := hcut
  go_upto_if 14 with fail
  go_cut [3] (fun v wx => (∃ T : ByteArray, v = .string T ∧ Hid (T.data.toList = H)) ∧ Hid (Below w.heap.size w wx) ∧ wx.cell? ⟨w.heap.size, 2, none⟩ = some (.slice kp ks.length kc))
  case first =>
    by_cases hop : op = 1
    · subst hop
      obtain ⟨f, hf1, hf2, hf3⟩ := HS.out rfl
      have HW := Lib.hid fun W => rwords_any S (by dsimp only at hf2; omega) W
      have HD : Hid (digsN (hasC S.data.toList) 64 = hex4 st) := Lib.hid (by
        have h1 := hf1.hex
        rw [h1]
        exact digsN_congr2 _ _ hf3)
      have HH := Lib.hid hH
      clear hf1 hf2 hf3 hH HS
      go_wp2_with fail
      refine (HW.out _).mono ?_
      rintro e w3 ⟨rfl, hb3⟩
      obtain ⟨D, hD⟩ : ∃ D : ByteArray, ⟨(digsN (hasC S.data.toList) 64).toArray⟩ = D := ⟨_, rfl⟩
      have hDs : D.size = 64 := by rw [← hD]; show (digsN (hasC S.data.toList) 64).toArray.size = 64; simp [digsN]
      have HDL := Lib.hid (show D.data.toList = hex4 st by rw [← hD, ← HD.out])
      rw [hD]
      have hk := (hb3.cell (p := ⟨w.heap.size, 2, none⟩) hl1).trans n2
      have HB3 := Lib.hid (HB1.out.trans (hb3.mono HB1.out.size))
      clear hD hb3 HW
      go_wp2_with fail
      go_meet
      refine ⟨⟨_, rfl, Lib.hid ?_⟩, HB3, hk⟩
      rw [← HH.out]
      simp [HDL.out, setL]
    · have hop3 : ((op : Int) == 1) = false := by rw [beq_eq_false_iff_ne]; omega
      have HH : Hid ([signG op] = H) := Lib.hid (by rw [← hH]; unfold setL; rw [if_neg hop])
      clear hH hop HS
      go_wp2_with fail
      go_meet
      exact ⟨⟨_, rfl, HH⟩, HB1, n2⟩
  case rest =>
  obtain ⟨⟨T, rfl, HT⟩, HB2, hk2⟩ := hcut
  go_upto_region 4 with fail
  clear hH HS n0 n1 n2
  go_wp2_with fail
  go_loopw [3, 23] (fun tv iv wx => ∃ (k : Nat) (T : ByteArray), k ≤ ks.length ∧ tv = .string T ∧ iv = .int .i64 (k : Int) ∧ Hid (T.data.toList = H ++ kidsL (ks.take k)) ∧ Hid (Below w.heap.size w wx)) (fun _ iv _ => ks.length - (intOf iv).toNat)
  case atStart => exact ⟨0, T, Nat.zero_le _, rfl, rfl, Lib.hid (by rw [HT.out]; simp [kidsL]), HB2⟩
  case round =>
    clear HT HB2 hk2
    obtain ⟨k, T, hk, rfl, rfl, HT, HW⟩ := hrel
    by_cases hlt : k < ks.length
    · have hki : (k : Int) < (ks.length : Int) := by omega
      have hk0 : 0 ≤ (k : Int) := by omega
      obtain ⟨t, htk⟩ : ∃ t, ks[k]? = some t := ⟨_, List.getElem?_eq_getElem hlt⟩
      have hmem : t ∈ ks := List.mem_of_getElem? htk
      obtain ⟨hkr0, hkt0⟩ := HKID.out
      have hkr := rg_own_kept hkr0 (fun g hg => HW.out.block g (rg_own_base hkr0 g hg).2)
      have hkt := hkt0.below HW.out
      obtain ⟨⟨xop, xs, xkp, xkn, xkc⟩, hx, hxt⟩ := hkt.get k t htk
      have hnl := HNL.out
      obtain ⟨kg, kcc, ekg⟩ : ∃ g c, Value.slice kp ks.length kc = .slice (some ⟨g, 0, none⟩) ks.length c := by
        rcases hkr.2 with ⟨_, h0⟩ | ⟨g, cap, cur, e, _⟩
        · omega
        · exact ⟨_, _, e⟩
      simp only [Value.slice.injEq] at ekg
      obtain ⟨rfl, _, rfl⟩ := ekg
      have hkr2 : wr.ownsRow 0 34 3 (.slice (some ⟨kg, 0, none⟩) nds.length kc) nds.length (rdRow nds) := by rw [hnl]; exact hkr
      obtain ⟨y0, y1, y2⟩ := rdRow_cells hkr2 k _ hx
      dsimp only at y0 y1 y2
      have hsn := kidsL_snoc ks k t htk
      have hle := kidsL_le ks (k + 1)
      rw [hsn] at hle
      have hN := HN.out
      have hpl : (printL t).length ≤ 1000000 := by simp at hle hN; omega
      have hTl : T.size ≤ 1000000 := by have h1 := ba_size_list HT.out; have h2 := kidsL_le ks k; simp at h1 h2 hN; omega
      have HP := Lib.hid (fun (W : World) (hW : Below wr.heap.size wr W) => HIH.out t hmem ⟨xop, xs, xkp, xkn, xkc⟩ W B (hxt.below hW) hpl)
      unfold RNd.val at HP
      have HSN := Lib.hid hsn
      have hsz := ba_size_list (T := ⟨(printL t).toArray⟩) (L := printL t) (by simp)
      obtain ⟨P, hP⟩ : ∃ P : ByteArray, ⟨(printL t).toArray⟩ = P := ⟨_, rfl⟩
      have HPL := Lib.hid (show P.data.toList = printL t by rw [← hP])
      rw [hP] at HP hsz
      have hPs : P.size ≤ 1000000 := by omega
      clear hkr0 hkt0 hkr hkt hx hxt hnl hkr2 hsn hle hN hP hsz hmem htk hpl
      go_wp2_with (with_reducible refine (HP.out _ ?hb).mono ?_)
      case hb => exact (Below.refl _ _).alloc (Nat.le_refl _) _
      rintro e w3 rfl hb3
      have HW3 : Hid (Below w.heap.size w w3) := Lib.hid ((HW.out.alloc HW.out.size _).trans (hb3.mono (by have := HW.out.size; simp; omega)))
      clear hb3 HP y0 y1 y2 HW
      go_wp2_with fail
      go_roundw
      case rel => exact ⟨k + 1, _, by omega, rfl, by go_num, Lib.hid (by rw [HSN.out]; simp [HT.out, HPL.out]), HW3⟩
      case measure => simp [intOf]; omega
    · obtain rfl : k = ks.length := by omega
      have hki : ¬ ((ks.length : Int) < (ks.length : Int)) := by omega
      go_wp2_with fail
      go_ret
      refine ⟨?_, HW.out⟩
      have h := HT.out
      rw [List.take_length] at h
      rw [ba_of_list h]
      rfl
theorem rfprint_any : ∀ t : RT, PfOk t
  | .mk op st ks => rfprint_one op st ks (fun t _ht => rfprint_any t)
termination_by t => SizeOf.sizeOf t
decreasing_by
  have := List.sizeOf_lt_of_mem _ht
  simp
  omega
end Go.Proofs.Ytpcnlojlfbgaoaa
