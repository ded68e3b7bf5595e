/-
  CONTRACT of the document's own quotient, by hand (scriberef05.Div): it is the quotient that layer 5 reckons; nothing that was there is written.
-/
import Derived.Test.YtknnaloepkonlaaDoorRef5W
import Derived.Test.YtknnaloepkonlaaDoorTimesM
import Derived.Laws.IdiomStrings
namespace Go.Proofs.YtknnaloepkonlaaDoor
open Go.RowKit

set_option maxHeartbeats 4000000 in
set_option maxRecDepth 100000 in
theorem rdiv_any (a b : Int) (w : World) (ha : OkN a) (hb : OkN b) (h0 : b ≠ 0) :
    Calls Tryd.prog 15 #[.int .i64 a, .int .i64 b] w fun e w' => e = .returned (.int .i64 (divI a b)) ∧ Below w.heap.size w w' := by
  have sza := fun W => rsize_any a W (by unfold OkN at ha; omega) (by unfold OkN at ha; omega)
  have szb := fun W => rsize_any b W (by unfold OkN at hb; omega) (by unfold OkN at hb; omega)
  have er : divI a b = sgnI (!(decide (a < 0) == decide (b < 0))) (min (a.natAbs * 1000000 / b.natAbs) mostN) := by
    unfold divI ratioI sg3
    rw [show decide ((1000000 : Int) < 0) = false from by decide, show (1000000 : Int).natAbs = 1000000 from rfl]
    cases decide (a < 0) <;> cases decide (b < 0) <;> rfl
  obtain ⟨n, hn⟩ : ∃ n, a.natAbs = n := ⟨_, rfl⟩
  obtain ⟨d, hd⟩ : ∃ n, b.natAbs = n := ⟨_, rfl⟩
  have hnb : n ≤ 4611686018427387903 := by unfold OkN at ha; omega
  have hdb : (d : Int) ≤ 4611686018427387903 := by unfold OkN at hb; omega
  have hd0 : 1 ≤ d := by omega
  have hdi : (1 : Int) ≤ (d : Int) := by omega
  rw [hn] at sza er
  rw [hd] at szb er
  have dg := fun W => refdigits_any n W (by omega)
  obtain ⟨D0, hD0⟩ : ∃ D0 : ByteArray, (⟨(Lib.decDigits n).toArray⟩ : ByteArray) = D0 := ⟨_, rfl⟩
  have hl0 : D0.size ≤ 20 := by
    rw [← hD0]; show (Lib.decDigits n).toArray.size ≤ 20
    rw [List.size_toArray, Lib.decDigits_length]
    exact Lib.nDigits_le20 n (by omega)
  rw [hD0] at dg
  obtain ⟨S, hS⟩ : ∃ S : ByteArray, D0 ++ ({ data := #[48, 48, 48, 48, 48, 48] } : ByteArray) = S := ⟨_, rfl⟩
  have hSl : S.size ≤ 26 := by rw [← hS, ByteArray.size_append]; show D0.size + 6 ≤ 26; omega
  have hSd : S.data.toList = Lib.decDigits n ++ zer6 := by rw [← hS, ← hD0, ByteArray.data_append, Array.toList_append]; rfl
  have hSi : ∀ c ∈ S.data.toList, isD c = true := by
    rw [hSd]; intro c hc
    rcases List.mem_append.1 hc with hc | hc
    · exact dec_isD _ c hc
    · unfold zer6 at hc; simp at hc; rw [hc]; rfl
  have hSv : valD S.data.toList = n * 1000000 := by rw [hSd, valD_append, dec_val, show zer6.length = 6 from rfl, show valD zer6 = 0 from rfl, Nat.add_zero, show (10 : Nat) ^ 6 = 1000000 from by decide]
  have hcv : ∀ W, (convert 9 44 (.string S)).run Tryd.prog W = _ := fun W => run_bytes_of_string W 9 44 5 S Tryd.underlying9 Tryd.underlying44 Tryd.underlying5
  have hsg := fun (s : ByteArray) (W : World) hs hx => rsigned_any (!(decide (a < 0) == decide (b < 0))) s W hs hx
  have hdig : ∀ (j : Nat) (hj : j < S.size), 48 ≤ S[j].toNat ∧ S[j].toNat ≤ 57 := fun j hj => by
    have := hSi S[j] (List.mem_of_getElem? (at_list S j hj))
    unfold isD at this; exact of_decide_eq_true this
  have hstp : ∀ (k : Nat) (hk : k < S.size), valD (S.data.toList.take (k + 1)) = 10 * valD (S.data.toList.take k) + (S[k].toNat - 48) := fun k hk => take_val S.data.toList k S[k] (at_list S k hk) 0
  have HS := Lib.hid hS
  have HQ := Lib.hid (And.intro hdig (And.intro hstp (And.intro hSv er)))
  clear hn hd hD0 hSd hSi hSv er hdig hstp h0 ha hb
  go_enter Tryd.func15, Tryd.ntmps15
  go_wp2_with (first
    | (go_at_call 19; (with_reducible refine (sza _).mono ?_); rintro e w' ⟨rfl, rfl⟩)
    | (go_at_call 19; (with_reducible refine (szb _).mono ?_); rintro e w' ⟨rfl, rfl⟩)
    | (go_at_call 23; (with_reducible refine (dg _).mono ?_); rintro e w1 ⟨rfl, hb1⟩))
  generalize hW2 : World.drew (w1.alloc (Obj.cells (bytesRow S (grownCap w1 S.size 0 5)) 5 ((bytesRow S (grownCap w1 S.size 0 5)).size, (bytesRow S (grownCap w1 S.size 0 5)).size + 1))) = W2
  generalize hC : grownCap w1 S.size 0 5 = C at *
  have hrow : W2.heap[w1.heap.size]? = some (.cells (bytesRow S C) 5 ((bytesRow S C).size, (bytesRow S C).size + 1)) := by
    rw [← hW2]; show (w1.heap.push _)[w1.heap.size]? = _; simp
  have hsz2 : w1.heap.size + 1 ≤ W2.heap.size := by rw [← hW2]; show _ ≤ (w1.heap.push _).size; simp
  have hcell : Hid (∀ (k : Nat) (hk : k < S.size), W2.cell? ⟨w1.heap.size, k, none⟩ = some (.int .u8 (S[k].toNat : Int))) := Lib.hid fun k hk => by
    rw [cell_of_row W2 w1.heap.size k _ _ _ hrow]; exact bytesRow_at S C k hk
  have HW2 : Hid (Below w.heap.size w W2) := Lib.hid (by rw [← hW2]; exact (hb1.alloc hb1.size _).drew)
  have HZ0 := Lib.hid hb1.size
  have HZ := Lib.hid hsz2
  clear hW2 hrow hb1 sza szb dg hcv hC HS hsz2
  generalize w1.heap.size = b1 at *
  clear w1
  go_loopw [6, 7, 22] (fun rest out i wr => ∃ (k r : Nat) (t : ByteArray), k ≤ S.size ∧ i = .int .i64 k ∧ rest = .int .u64 r ∧ out = .string t ∧ (r : Int) + 1 ≤ (d : Int) ∧ Hid (t.size = k ∧ (∀ c ∈ t.data.toList, isD c = true) ∧ valD t.data.toList = valD (S.data.toList.take k) / d ∧ r = valD (S.data.toList.take k) % d) ∧ Hid (Below (b1 + 1) W2 wr)) (fun _ _ i _ => S.size - (intOf i).toNat)
  case atStart => exact ⟨0, 0, ⟨#[]⟩, Nat.zero_le _, rfl, rfl, rfl, by omega, Lib.hid ⟨rfl, (by intro c hc; cases hc), (by simp [valD, valF]), (by simp [valD, valF])⟩, Lib.hid (Below.refl _ _)⟩
  case round =>
    obtain ⟨k, r, t, hk, rfl, rfl, rfl, hr, HT, HB⟩ := hrel
    by_cases hlt : k < S.size
    · have hc : wr.cell? ⟨b1, k, none⟩ = some (.int .u8 (S[k].toNat : Int)) := (HB.out.cell (show b1 < b1 + 1 by omega)).trans (hcell.out k hlt)
      have hg1 : (48 : Int) ≤ (S[k].toNat : Int) := by have := (HQ.out.1 k hlt).1; omega
      have hg2 : (S[k].toNat : Int) ≤ 57 := by have := (HQ.out.1 k hlt).2; omega
      obtain ⟨c, hcc⟩ : ∃ c : Nat, S[k].toNat - 48 = c := ⟨_, rfl⟩
      have hce : (S[k].toNat : Int) - 48 = (c : Int) := by omega
      have hcb : (c : Int) ≤ 9 := by omega
      have HST := Lib.hid (by have := HQ.out.2.1 k hlt; rw [hcc] at this; exact this)
      have hr0 : (0 : Int) ≤ (r : Int) := by omega
      clear hcc
      go_wp2
      go_loop [10, 11, 12] (fun qv tv iv => ∃ q t' i : Nat, i ≤ 10 ∧ q ≤ i ∧ qv = .int .i64 q ∧ tv = .int .u64 t' ∧ iv = .int .i64 i ∧ (t' : Int) + 1 ≤ (d : Int) ∧ Hid (t' + q * d = i * r)) (fun _ _ iv => 10 - (intOf iv).toNat)
      case atStart => exact ⟨0, 0, 0, by omega, by omega, rfl, rfl, rfl, by omega, Lib.hid (by simp)⟩
      case round =>
        obtain ⟨q, t', i, hi, hqi, rfl, rfl, rfl, ht', HQT⟩ := hrel
        have ht0 : (0 : Int) ≤ (t' : Int) := by omega
        have hq0 : (q : Int) ≤ 10 := by omega
        by_cases hi10 : i < 10
        · by_cases hge : (d : Int) ≤ (t' : Int) + (r : Int)
          · obtain ⟨u, hu⟩ : ∃ u : Nat, t' + r - d = u := ⟨_, rfl⟩
            have hue : (t' : Int) + (r : Int) - (d : Int) = (u : Int) := by omega
            have HN : Hid (u + (q + 1) * d = (i + 1) * r) := Lib.hid (by rw [Nat.add_mul, Nat.add_mul, ← HQT.out]; omega)
            have hub : (u : Int) + 1 ≤ (d : Int) := by omega
            clear hu
            go_wp2
            go_round
            case rel => exact ⟨q + 1, u, i + 1, by omega, by omega, by go_num, rfl, by go_num, hub, HN⟩
            case measure => simp [intOf]; omega
          · obtain ⟨u, hu⟩ : ∃ u : Nat, t' + r = u := ⟨_, rfl⟩
            have hue : (t' : Int) + (r : Int) = (u : Int) := by omega
            have HN : Hid (u + q * d = (i + 1) * r) := Lib.hid (by rw [Nat.add_mul, ← HQT.out]; omega)
            have hub : (u : Int) + 1 ≤ (d : Int) := by omega
            clear hu
            go_wp2
            go_round
            case rel => exact ⟨q, u, i + 1, by omega, by omega, rfl, rfl, by go_num, hub, HN⟩
            case measure => simp [intOf]; omega
        · obtain rfl : i = 10 := by omega
          clear hi10
          have hqb : q ≤ 10 := hqi
          clear hqi
          go_wp2
          go_loop [10, 11, 13] (fun qv tv iv => ∃ q2 u i : Nat, i ≤ 10 ∧ q2 ≤ 10 + i ∧ qv = .int .i64 q2 ∧ tv = .int .u64 u ∧ iv = .int .i64 i ∧ (u : Int) + (i : Int) ≤ (d : Int) + 8 ∧ Hid (u + q2 * d = 10 * r + c)) (fun _ _ iv => 10 - (intOf iv).toNat)
          case atStart => exact ⟨q, t' + c, 0, by omega, by omega, rfl, by go_num, rfl, by omega, Lib.hid (by have := HQT.out; omega)⟩
          case round =>
            obtain ⟨q2, u, i, hi, hq2, rfl, rfl, rfl, hu, HQU⟩ := hrel
            clear HQT ht' ht0 hq0 hqb hce
            have hu0 : (0 : Int) ≤ (u : Int) := by omega
            by_cases hst : i < 10 ∧ d ≤ u
            · obtain ⟨h1, h2⟩ := hst
              obtain ⟨v, hv⟩ : ∃ v : Nat, u - d = v := ⟨_, rfl⟩
              have hve : (u : Int) - (d : Int) = (v : Int) := by omega
              have HN : Hid (v + (q2 + 1) * d = 10 * r + c) := Lib.hid (by rw [Nat.add_mul, ← HQU.out]; omega)
              have hvb : (v : Int) + ((i + 1 : Nat) : Int) ≤ (d : Int) + 8 := by omega
              clear hv
              go_wp2
              go_round
              case rel => exact ⟨q2 + 1, v, i + 1, by omega, by omega, by go_num, rfl, by go_num, hvb, HN⟩
              case measure => simp [intOf]; omega
            · have hud : u < d := by omega
              have hQ := quo_is d (10 * r + c) q2 u HQU.out hud
              have hq9 : q2 ≤ 9 := by
                rw [hQ.1]
                have : (10 * r + c) / d < 10 := by rw [Nat.div_lt_iff_lt_mul (by omega)]; omega
                omega
              obtain ⟨c8, hc8⟩ : ∃ c8 : UInt8, c8.toNat = 48 + q2 := ⟨UInt8.ofNat (48 + q2), UInt8.toNat_ofNat_of_lt' (by show 48 + q2 < 256; omega)⟩
              have hcv := conv_one c8 (48 + (q2 : Int)) (by omega) ⟨wr.heap.size, 0, none⟩ (wr.alloc (.cells #[.int .u8 (48 + (q2 : Int))] 5)) (by simp [go_sem])
              have hts : t.size ≤ 26 := by have := HT.out.1; omega
              have HQS := Lib.hid (quo_step (valD (S.data.toList.take k)) c d hd0)
              have HNEW : Hid ((t ++ ({ data := #[c8] } : ByteArray)).size = k + 1 ∧ (∀ x ∈ (t ++ ({ data := #[c8] } : ByteArray)).data.toList, isD x = true) ∧ valD (t ++ ({ data := #[c8] } : ByteArray)).data.toList = valD (S.data.toList.take (k + 1)) / d ∧ u = valD (S.data.toList.take (k + 1)) % d) := by
                refine Lib.hid ⟨?_, ?_, ?_, ?_⟩
                · rw [ByteArray.size_append, HT.out.1]; rfl
                · intro x hx
                  rw [ByteArray.data_append, Array.toList_append] at hx
                  rcases List.mem_append.1 hx with hx | hx
                  · exact HT.out.2.1 x hx
                  · simp at hx; rw [hx]; unfold isD; exact decide_eq_true (by omega)
                · rw [ByteArray.data_append, Array.toList_append, valD_snoc, HST.out, HT.out.2.2.1, HQS.out.1, ← HT.out.2.2.2, ← hQ.1, hc8]; omega
                · rw [HST.out, HQS.out.2, ← HT.out.2.2.2]; exact hQ.2
              have hub : (u : Int) + 1 ≤ (d : Int) := by omega
              have HBn : Hid (Below (b1 + 1) W2 (wr.alloc (.cells #[.int .u8 (48 + (q2 : Int))] 5))) := Lib.hid (HB.out.alloc (by have := HZ.out; have := HB.out.size; omega) _)
              have hq9i : (q2 : Int) ≤ 9 := by omega
              clear hQ hq9 hc8 HQS HQU
              by_cases h10 : i < 10
              · have hdu : ¬ (d : Int) ≤ (u : Int) := by omega
                clear hst hu hud
                go_wp2
                go_roundw
                case rel => exact ⟨k + 1, u, _, by omega, by go_num, rfl, rfl, hub, HNEW, HBn⟩
                case measure => simp [intOf]; omega
              · clear hst hu hud
                go_wp2
                go_roundw
                case rel => exact ⟨k + 1, u, _, by omega, by go_num, rfl, rfl, hub, HNEW, HBn⟩
                case measure => simp [intOf]; omega
    · have hts : t.size ≤ 26 := by have := HT.out.1; omega
      have HV : Hid (valD t.data.toList = n * 1000000 / d) := Lib.hid (by
        have h := HT.out.2.2.1
        rw [List.take_of_length_le (by simp; omega), HQ.out.2.2.1] at h; exact h)
      have st := fun W => strip_any t W (by omega)
      have hsz : (⟨(t.data.toList.dropWhile (· == 48)).toArray⟩ : ByteArray).size ≤ 4000000000 := by
        show (t.data.toList.dropWhile (· == 48)).toArray.size ≤ _
        rw [List.size_toArray]
        have := (List.dropWhile_suffix (l := t.data.toList) (· == (48 : UInt8))).length_le
        have h2 : t.data.toList.length = t.size := by simp
        omega
      have hdd : ∀ x ∈ (⟨(t.data.toList.dropWhile (· == 48)).toArray⟩ : ByteArray).data.toList, isD x = true := fun x hx => HT.out.2.1 x ((List.dropWhile_suffix _).subset (by simpa using hx))
      have sg := fun W => hsg _ W hsz hdd
      have hvv : valD (⟨(t.data.toList.dropWhile (· == 48)).toArray⟩ : ByteArray).data.toList = n * 1000000 / d := by
        rw [← HV.out]; simpa using strip_val t.data.toList
      rw [hvv] at sg
      generalize (⟨(t.data.toList.dropWhile (· == 48)).toArray⟩ : ByteArray) = z at *
      have HBz : Hid (Below w.heap.size w wr) := Lib.hid (HW2.out.trans (HB.out.mono (by have := HZ0.out; omega)))
      clear hsg hvv hdd hsz HT HV
      go_wp2_with (first
        | (go_at_call 21; (with_reducible refine (st _).mono ?_); rintro e w' ⟨rfl, rfl⟩)
        | (go_at_call 24; (with_reducible refine (sg _).mono ?_); rintro e w' ⟨rfl, rfl⟩))
      go_ret
      exact ⟨ret_i (by rw [HQ.out.2.2.2, Nat.min_comm]), HBz.out⟩
end Go.Proofs.YtknnaloepkonlaaDoor
