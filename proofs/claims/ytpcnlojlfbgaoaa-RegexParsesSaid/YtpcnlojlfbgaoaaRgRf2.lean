/-
  CONTRACT of the document's own Words: a set as 64 digits.
-/
import Derived.Test.YtpcnlojlfbgaoaaRgRf1
namespace Go.Proofs.Ytpcnlojlfbgaoaa
open Go.RowKit

def onL (f : Nat → Bool) : List Value := (List.range 256).map (fun c => .bool (f c))
theorem onL_len (f : Nat → Bool) : (onL f).length = 256 := by simp [onL]
theorem onL_get (f : Nat → Bool) (c : Nat) (h : c < 256) : (onL f)[c]? = some (.bool (f c)) := by
  unfold onL
  simp [h]
theorem onL_set (f f2 : Nat → Bool) (x : Nat) (h : ∀ c, f2 c = (f c || (x == c))) : (onL f).set x (.bool true) = onL f2 := by
  apply List.ext_getElem?
  intro c
  by_cases hc : c < 256
  · rw [onL_get f2 c hc, h]
    by_cases hx : x = c
    · subst hx
      rw [List.getElem?_set_self (by rw [onL_len]; exact hc)]
      simp
    · rw [List.getElem?_set_ne hx, onL_get f c hc]
      have : (x == c) = false := by simpa using hx
      rw [this, Bool.or_false]
  · rw [List.getElem?_eq_none (by rw [List.length_set, onL_len]; omega), List.getElem?_eq_none (by rw [onL_len]; omega)]
def partN (f : Nat → Bool) (c : Nat) : Nat → Nat
  | 0 => 0
  | i + 1 => 2 * partN f c i + (f (c + 3 - i)).toNat
theorem partN_lt (f : Nat → Bool) (c : Nat) : ∀ i, partN f c i < 2 ^ i
  | 0 => Nat.one_pos
  | i + 1 => by
    have h := partN_lt f c i
    have hb : (f (c + 3 - i)).toNat ≤ 1 := Bool.toNat_le _
    show 2 * partN f c i + _ < 2 ^ (i + 1)
    rw [Nat.pow_succ]; omega
/-- The first n digits of a set. -/
def digsN (f : Nat → Bool) (n : Nat) : List UInt8 := (List.range n).map (fun i => hexS.data.toList.getD (partN f (64 * (i / 16) + (60 - 4 * (i % 16))) 4) 0)
theorem digsN_succ (f : Nat → Bool) (w j : Nat) (hj : j < 16) : digsN f (16 * w + (j + 1)) = digsN f (16 * w + j) ++ [hexS.data.toList.getD (partN f (64 * w + (60 - 4 * j)) 4) 0] := by
  unfold digsN
  rw [show 16 * w + (j + 1) = 16 * w + j + 1 from rfl, List.range_succ, List.map_append]
  have e1 : (16 * w + j) / 16 = w := by omega
  have e2 : (16 * w + j) % 16 = j := by omega
  simp [e1, e2]
theorem hex_ext (d : Nat) (h : d < 16) : (hexS.extract d (d + 1)).data.toList = [hexS.data.toList.getD d 0] := by
  have : ∀ d : Fin 16, (hexS.extract d.1 (d.1 + 1)).data.toList = [hexS.data.toList.getD d.1 0] := by decide +kernel
  exact this ⟨d, h⟩
theorem Try.infoBool : (Try.prog.info? 4).map (fun i => (i.zero, i.size, i.bytes)) = some (some (.bool false), 1, 1) := by kernel_rfl
theorem made_off : (madeCells (Value.bool false).cells (256 * 1)).toList = onL (fun _ => false) := by kernel_rfl
set_option maxHeartbeats 4000000 in
theorem rwords_any (s : ByteArray) (hs : s.size ≤ 1000000) (w : World) :
    Calls Try.prog 15 #[.string s] w fun e w' => e = .returned (.string ⟨(digsN (hasC s.data.toList) 64).toArray⟩) ∧ Below w.heap.size w w' := by
  obtain ⟨i0, hi, hz0, hz1, hz2⟩ := info_parts Try.infoBool
  obtain ⟨w1, hr, ho, hg⟩ := run_makeSlice_full (P := Try.prog) (w := w) w.heap.size 57 4 i0 (.bool false) 1 Try.underlying57 hi hz0 hz1 .i64 .i64 256 (by decide) (by rw [hz2]; decide) (by decide) (Nat.le_refl _)
  have hb1 : Below w.heap.size w w1 := ⟨hg.os, hg.tape, hg.output, hg.size, fun k hk => hg.block k hk (by simp)⟩
  rw [made_off] at ho
  have H0 : Hid (w1.ownsRow w.heap.size 4 1 (.slice (some ⟨w.heap.size, 0, none⟩) 256 256) 256 (onL (hasC (s.data.toList.take 0))) ∧ Below w.heap.size w w1) := Lib.hid ⟨ho, hb1⟩
  clear ho hb1 hg
  simp only [Int.cast_ofNat_Int] at hr
  go_enter Try.func15, Try.ntmps15
  go_wp2_with fail
  clear hr
  go_loopw [4] (fun iv wr => ∃ j : Nat, j ≤ s.size ∧ iv = .int .i64 (j : Int) ∧ Hid (wr.ownsRow w.heap.size 4 1 (.slice (some ⟨w.heap.size, 0, none⟩) 256 256) 256 (onL (hasC (s.data.toList.take j))) ∧ Below w.heap.size w wr)) (fun iv _ => s.size - (intOf iv).toNat)
  case atStart => exact ⟨0, Nat.zero_le _, rfl, H0⟩
  case round =>
    obtain ⟨j, hj, rfl, HO⟩ := hrel
    clear H0
    by_cases hjl : j < s.size
    · have hji : (j : Int) < (s.size : Int) := by omega
      have hj0 : 0 ≤ (j : Int) := by omega
      obtain ⟨x, hx⟩ : ∃ x, s[j] = x := ⟨_, rfl⟩
      have HTK := Lib.hid (show ∀ c, hasC (s.data.toList.take (j + 1)) c = (hasC (s.data.toList.take j) c || (x.toNat == c)) from fun c => by rw [hasC_take s c j hjl, hx])
      have hxb := x.toNat_lt
      have hx0 : (x.toNat : Int) < 256 := by omega
      have hx1 : 0 ≤ (x.toNat : Int) := by omega
      have hcl := (HO.out.1.cellAt x.toNat (by omega)).trans (onL_get _ x.toNat (by omega))
      have hfr := HO.out.1.frozenAt x.toNat
      obtain ⟨o, ho⟩ : ∃ o, hasC (s.data.toList.take j) x.toNat = o := ⟨_, rfl⟩
      rw [ho] at hcl
      have HW := Lib.hid (And.intro (HO.out.1.stored x.toNat (.bool true)).1 (HO.out.2.setCell (p := ⟨w.heap.size, x.toNat, none⟩) (Nat.le_refl _) (.bool true)))
      rw [onL_set _ _ x.toNat HTK.out] at HW
      clear ho HTK HO
      go_wp2_with fail
      refine ⟨⟨j + 1, by omega, by simp, HW⟩, ?_⟩
      simp [intOf]; omega
    · have hji : ¬ (j : Int) < (s.size : Int) := by omega
      have htk : s.data.toList.take j = s.data.toList := List.take_of_length_le (by simp; omega)
      rw [htk] at HO
      clear htk
      obtain ⟨f, hf⟩ : ∃ f, hasC s.data.toList = f := ⟨_, rfl⟩
      rw [hf] at HO
      have HF := Lib.hid hf
      clear hf
      go_wp2_with fail
      go_loopw [5, 6] (fun tv wv wx => ∃ (v : Nat) (T : ByteArray), v ≤ 4 ∧ tv = .string T ∧ wv = .int .i64 (v : Int) ∧ T.size = 16 * v ∧ Hid (T.data.toList = digsN f (16 * v)) ∧ wx = wr) (fun _ wv _ => 4 - (intOf wv).toNat)
      case atStart => exact ⟨0, ⟨#[]⟩, Nat.zero_le _, rfl, rfl, rfl, Lib.hid rfl, rfl⟩
      case round =>
        obtain ⟨v, T, hv, rfl, rfl, hTs, HT, rfl⟩ := hrel
        by_cases hvl : v < 4
        · have hvi : (v : Int) < 4 := by omega
          have hv0 : 0 ≤ (v : Int) := by omega
          go_wp2_with fail
          go_loopw [5, 7] (fun tv kv wx => ∃ (j : Nat) (kz : Int) (T : ByteArray), j ≤ 16 ∧ tv = .string T ∧ kv = .int .i64 kz ∧ kz = 60 - 4 * (j : Int) ∧ T.size = 16 * v + j ∧ Hid (T.data.toList = digsN f (16 * v + j)) ∧ wx = wr) (fun _ kv _ => ((intOf kv) + 4).toNat)
          case atStart => exact ⟨0, _, T, Nat.zero_le _, rfl, rfl, by omega, hTs, HT, rfl⟩
          case round =>
            clear HT hTs
            obtain ⟨j, kz, T, hj, rfl, rfl, hkz, hTs, HT, rfl⟩ := hrel
            by_cases hjl : j < 16
            · have hk0 : 0 ≤ kz := by omega
              have hk60 : kz ≤ 60 := by omega
              obtain ⟨c, hc⟩ : ∃ c : Nat, (c : Int) = 64 * (v : Int) + kz := ⟨(64 * (v : Int) + kz).toNat, by omega⟩
              have hcn : c = 64 * v + (60 - 4 * j) := by omega
              have hc2 : c ≤ 252 := by omega
              go_wp2_with fail
              go_loopw [8, 9] (fun dv bv wx => ∃ (i : Nat) (bz : Int), i ≤ 4 ∧ dv = .int .i64 ((partN f c i : Nat) : Int) ∧ bv = .int .i64 bz ∧ bz = 3 - (i : Int) ∧ wx = wr) (fun _ bv _ => ((intOf bv) + 1).toNat)
              case atStart => exact ⟨0, _, Nat.zero_le _, rfl, rfl, by omega, rfl⟩
              case round =>
                obtain ⟨i, bz, hi4, rfl, rfl, hbz, rfl⟩ := hrel
                by_cases hil : i < 4
                · have hb0 : 0 ≤ bz := by omega
                  have hb3 : bz ≤ 3 := by omega
                  have hp := partN_lt f c i
                  have hp2 : 2 ^ i ≤ 2 ^ 3 := Nat.pow_le_pow_right (by decide) (by omega)
                  obtain ⟨d, hd⟩ : ∃ d, partN f c i = d := ⟨_, rfl⟩
                  have HPS := Lib.hid (show partN f c (i + 1) = 2 * d + (f (c + 3 - i)).toNat by rw [← hd]; rfl)
                  rw [hd] at hp ⊢
                  have hd8 : d < 8 := by omega
                  have hcl := (HO.out.1.cellAt (c + 3 - i) (by omega)).trans (onL_get f (c + 3 - i) (by omega))
                  obtain ⟨n, hn⟩ : ∃ n : Nat, c + 3 - i = n := ⟨_, rfl⟩
                  rw [hn] at hcl HPS
                  have he1 : 64 * (v : Int) + kz = (c : Int) := by omega
                  have he2 : (c : Int) + bz = (n : Int) := by omega
                  have hn2 : (n : Int) < 256 := by omega
                  obtain ⟨o, ho⟩ : ∃ o, f n = o := ⟨_, rfl⟩
                  rw [ho] at hcl HPS
                  have HBZ := Lib.hid hbz
                  have HKZ := Lib.hid hkz
                  have HCN := Lib.hid hcn
                  have HTS := Lib.hid hTs
                  have hvb : (64 * (v : Int)) ≤ 192 := by omega
                  clear hd hp hp2 hn ho hbz hkz hc hcn hTs
                  rcases o with _ | _
                  · go_wp2_with fail
                    refine ⟨⟨i + 1, bz - 1, by omega, by rw [HPS.out]; simp, rfl, by have := HBZ.out; omega, trivial⟩, ?_⟩
                    simp [intOf]; omega
                  · go_wp2_with fail
                    refine ⟨⟨i + 1, bz - 1, by omega, by rw [HPS.out]; simp, rfl, by have := HBZ.out; omega, trivial⟩, ?_⟩
                    simp [intOf]; omega
                · obtain rfl : i = 4 := by omega
                  have hbn : ¬ 0 ≤ bz := by omega
                  have hp := partN_lt f c 4
                  obtain ⟨d, hd⟩ : ∃ d, partN f c 4 = d := ⟨_, rfl⟩
                  rw [hd] at hp ⊢
                  have hd16 : d < 16 := hp
                  have HDN := Lib.hid (show digsN f (16 * v + (j + 1)) = digsN f (16 * v + j) ++ [hexS.data.toList.getD d 0] by rw [digsN_succ f v j hjl, ← hcn, hd])
                  have HKZ := Lib.hid hkz
                  have HTS := Lib.hid hTs
                  have hTb : T.size ≤ 64 := by omega
                  have hes : (hexS.extract d (d + 1)).size = 1 := by rw [ByteArray.size_extract]; show min (d + 1) 16 - d = 1; omega
                  have HES := Lib.hid hes
                  clear hd hp hkz hc hcn hTs hbz
                  go_wp2_with fail
                  refine ⟨⟨j + 1, kz - 4, _, by omega, rfl, rfl, by have := HKZ.out; omega, ?_, Lib.hid ?_, trivial⟩, ?_⟩
                  · have h1 := HES.out
                    have h2 := HTS.out
                    rw [ByteArray.size_append, h1]; omega
                  · have h1 := HT.out
                    rw [HDN.out, ByteArray.data_append, Array.toList_append, h1, hex_ext d hd16]
                  · simp [intOf]; omega
            · obtain rfl : j = 16 := by omega
              have hkn : ¬ 0 ≤ kz := by omega
              have HTS := Lib.hid hTs
              clear hkz hTs
              go_wp2_with fail
              refine ⟨⟨v + 1, T, by omega, rfl, by simp, by have := HTS.out; omega, Lib.hid ?_, trivial⟩, ?_⟩
              · have h1 := HT.out
                rw [show 16 * v + 16 = 16 * (v + 1) by omega] at h1
                exact h1
              · simp [intOf]; omega
        · obtain rfl : v = 4 := by omega
          have hvi : ¬ ((4 : Nat) : Int) < 4 := by omega
          go_wp2_with fail
          go_ret
          have hT : T = ⟨(digsN (hasC s.data.toList) 64).toArray⟩ := by
            have h := HT.out
            rw [HF.out]
            apply ByteArray.ext
            apply Array.ext'
            simpa using h
          exact ⟨by rw [← hT]; rfl, HO.out.2⟩
end Go.Proofs.Ytpcnlojlfbgaoaa
