/-
  CONTRACTS of the document's own answers for layer 7 (scriberef07): digits, has, many, hex: what each hands back; nothing that was there is written.
-/
import Derived.Test.YtipcanbeegladaaGreatDoorFmtW7
import Derived.Test.YtipcanbeegladaaGreatDoorRef5W
namespace Go.Proofs.YtipcanbeegladaaGreatDoor
open Go.RowKit

theorem rtw_take (p : UInt8 → Bool) (l : List UInt8) (k : Nat) (h1 : ∀ c ∈ l.take k, p c = true) (h2 : ∀ c, (l.drop k).head? = some c → p c = false) : l.takeWhile p = l.take k ∧ l.dropWhile p = l.drop k := by
  have e : l = l.take k ++ l.drop k := (List.take_append_drop k l).symm
  constructor
  · conv => lhs; rw [e]
    exact takeWhile_all h1 h2
  · conv => lhs; rw [e]
    exact dropWhile_all h1 h2
theorem rdrop_at (f : ByteArray) (k m : Nat) (h : k + m < f.size) : (f.data.toList.drop k).drop m = f[k + m] :: (f.data.toList.drop k).drop (m + 1) := by
  have hl : k + m < f.data.toList.length := by simpa using h
  rw [List.drop_drop, List.drop_drop, List.drop_eq_getElem_cons hl]
  have h3 := at_list f (k + m) h
  rw [List.getElem?_eq_getElem hl] at h3
  rw [Option.some.inj h3]; rfl
theorem rtake_next (f : ByteArray) (k m : Nat) (h : k + m < f.size) : (f.data.toList.drop k).take (m + 1) = (f.data.toList.drop k).take m ++ [f[k + m]] := by
  have hl : m < (f.data.toList.drop k).length := by rw [List.length_drop]; simp; omega
  rw [List.take_succ_eq_append_getElem hl, List.getElem_drop]
  have h3 := at_list f (k + m) h
  rw [List.getElem?_eq_getElem (by simpa using h)] at h3
  rw [Option.some.inj h3]
set_option maxHeartbeats 2000000 in
theorem rdigits_any (f : ByteArray) (k : Nat) (w : World) (hf : f.size ≤ 100000) (hk : k ≤ f.size) :
    Calls Tryz.prog 33 #[.string f, .int .i64 (k : Int)] w fun e w' => e = .returned (.tuple #[.int .i64 ((num1 ((f.data.toList.drop k).takeWhile isD) : Nat) : Int), .int .i64 ((k + ((f.data.toList.drop k).takeWhile isD).length : Nat) : Int)]) ∧ w = w' := by
  obtain ⟨A, hA⟩ : ∃ A, num1 ((f.data.toList.drop k).takeWhile isD) = A := ⟨_, rfl⟩
  obtain ⟨B, hB⟩ : ∃ B, k + ((f.data.toList.drop k).takeWhile isD).length = B := ⟨_, rfl⟩
  rw [hA, hB]
  have HAB := Lib.hid (And.intro hA hB)
  clear hA hB
  go_enter Tryz.func33, Tryz.ntmps33
  go_wp2
  go_loop [1, 6] (fun av nv => ∃ m n : Nat, k + m ≤ f.size ∧ n ≤ 1001 ∧ av = .int .i64 ((k + m : Nat) : Int) ∧ nv = .int .i64 n ∧ Hid ((∀ c ∈ (f.data.toList.drop k).take m, isD c = true) ∧ n = num1 ((f.data.toList.drop k).take m))) (fun av _ => f.size - (intOf av).toNat)
  case atStart => exact ⟨0, 0, hk, by omega, rfl, rfl, Lib.hid ⟨by simp, by simp [num1]⟩⟩
  case round =>
    obtain ⟨m, n, hm, hn, rfl, rfl, HX⟩ := hrel
    obtain ⟨q, hq⟩ : ∃ q, k + m = q := ⟨_, rfl⟩
    have hend : (∀ h : q < f.size, isD f[q] = false) → Hid (A = n ∧ B = q) := fun h => Lib.hid (by
      rw [← HAB.out.1, ← HAB.out.2]
      have := (rtw_take isD (f.data.toList.drop k) m HX.out.1 (by
        intro c hc
        subst hq
        by_cases hlt : k + m < f.size
        · rw [rdrop_at f k m hlt] at hc; simp at hc; rw [← hc]; exact h hlt
        · rw [List.drop_drop, List.drop_of_length_le (by simp; omega)] at hc; cases hc)).1
      rw [this]
      exact ⟨HX.out.2.symm, by rw [List.length_take, List.length_drop]; simp; omega⟩)
    have hnx : ∀ h : q < f.size, isD f[q] = true → Hid ((∀ c ∈ (f.data.toList.drop k).take (m + 1), isD c = true) ∧ min (n * 10 + (f[q].toNat - 48)) 1001 = num1 ((f.data.toList.drop k).take (m + 1))) := fun h hd => Lib.hid (by
      subst hq
      rw [rtake_next f k m h]
      refine ⟨fun c hc => ?_, by rw [num1_snoc, HX.out.2]⟩
      rcases List.mem_append.1 hc with hc | hc
      · exact HX.out.1 c hc
      · rw [List.mem_singleton.1 hc]; exact hd)
    rw [hq] at hm ⊢
    clear HX
    by_cases hlt : q < f.size
    · have hcb := f[q].toNat_lt
      by_cases h1 : (48 : Int) ≤ (f[q].toNat : Int)
      · by_cases h2 : (f[q].toNat : Int) ≤ 57
        · have HN := hnx hlt (by unfold isD; exact decide_eq_true (by omega))
          clear hnx hend
          obtain ⟨d, hd⟩ : ∃ d : Nat, f[q].toNat - 48 = d := ⟨_, rfl⟩
          rw [hd] at HN
          have hde : 10 * (n : Int) + (f[q].toNat : Int) - 48 = ((n * 10 + d : Nat) : Int) := by omega
          have hdb : d ≤ 9 := by omega
          clear hd
          obtain ⟨x, hx⟩ : ∃ x, n * 10 + d = x := ⟨_, rfl⟩
          rw [hx] at hde HN
          have hxb : x ≤ 10019 := by omega
          clear hx
          by_cases hbig : 1001 < (x : Int)
          · rw [show min x 1001 = 1001 by omega] at HN
            go_wp2
            go_round
            case rel => exact ⟨m + 1, 1001, by omega, by omega, by go_num, rfl, HN⟩
            case measure => simp [intOf]; omega
          · rw [show min x 1001 = x by omega] at HN
            go_wp2
            go_round
            case rel => exact ⟨m + 1, x, by omega, by omega, by go_num, rfl, HN⟩
            case measure => simp [intOf]; omega
        · have HE := hend fun _ => by unfold isD; exact decide_eq_false (by omega)
          clear hnx hend
          go_wp2
          go_ret2
          exact ⟨by rw [HE.out.1, HE.out.2]; rfl, rfl⟩
      · have HE := hend fun _ => by unfold isD; exact decide_eq_false (by omega)
        clear hnx hend
        go_wp2
        go_ret2
        exact ⟨by rw [HE.out.1, HE.out.2]; rfl, rfl⟩
    · have HE := hend fun h => absurd h hlt
      clear hnx hend
      go_wp2
      go_ret2
      exact ⟨by rw [HE.out.1, HE.out.2]; rfl, rfl⟩
/-- A conversion of the document's, as it is handed about. -/
def spv (F : ByteArray) (wd pr : Int) (v : UInt8) (nx : Int) : Value := .agg #[.string F, .int .i64 wd, .int .i64 pr, .int .u8 (v.toNat : Int), .int .i64 nx]
theorem u8_beq (a c : UInt8) : ((a.toNat : Int) == (c.toNat : Int)) = (a == c) := by
  rw [Bool.eq_iff_iff]
  simp only [beq_iff_eq]
  constructor
  · intro h; apply UInt8.toNat_inj.1; omega
  · rintro rfl; rfl
set_option maxHeartbeats 1000000 in
theorem rhas_any (F : ByteArray) (wd pr : Int) (v : UInt8) (nx : Int) (c : UInt8) (w : World) (hF : F.size ≤ 100000) :
    Calls Tryz.prog 35 #[spv F wd pr v nx, .int .u8 (c.toNat : Int)] w fun e w' => e = .returned (.bool (F.data.toList.contains c)) ∧ Below w.heap.size w w' := by
  obtain ⟨b, hb⟩ : ∃ b, F.data.toList.contains c = b := ⟨_, rfl⟩
  rw [hb]
  have HB := Lib.hid hb
  clear hb
  unfold spv
  go_enter Tryz.func35, Tryz.ntmps35
  go_wp2
  go_loop [5] (fun iv => ∃ m : Nat, m ≤ F.size ∧ iv = .int .i64 m ∧ Hid (∀ j (hj : j < F.size), j < m → F[j] ≠ c)) (fun iv => F.size - (intOf iv).toNat)
  case atStart => exact ⟨0, Nat.zero_le _, rfl, Lib.hid fun j _ h => absurd h (Nat.not_lt_zero j)⟩
  case round =>
    obtain ⟨m, hm, rfl, HX⟩ := hrel
    by_cases hlt : m < F.size
    · by_cases hc : F[m] = c
      · have HE : Hid (b = true) := Lib.hid (by rw [← HB.out, List.contains_iff_mem]; rw [← hc]; exact List.mem_of_getElem? (at_list F m hlt))
        have hq : ((F[m].toNat : Int) == (c.toNat : Int)) = true := by rw [hc]; simp
        clear HX hc
        go_wp2
        go_ret
        exact ⟨by rw [HE.out]; rfl, (Below.refl _ _).alloc (Nat.le_refl _) _⟩
      · have HN : Hid (∀ j (hj : j < F.size), j < m + 1 → F[j] ≠ c) := Lib.hid fun j hj hjm => by
          rcases Nat.lt_or_ge j m with h | h
          · exact HX.out j hj h
          · obtain rfl : j = m := by omega
            exact hc
        have hq : ((F[m].toNat : Int) == (c.toNat : Int)) = false := by rw [u8_beq]; simpa using hc
        clear HX hc
        go_wp2
        go_round
        case rel => exact ⟨m + 1, by omega, by go_num, HN⟩
        case measure => simp [intOf]; omega
    · have HE : Hid (b = false) := Lib.hid (by
        rw [← HB.out, Bool.eq_false_iff]
        intro h
        rw [List.contains_iff_mem] at h
        obtain ⟨j, hj, hjc⟩ := List.mem_iff_getElem.1 h
        have hjs : j < F.size := by simpa using hj
        have h3 := at_list F j hjs
        rw [List.getElem?_eq_getElem hj, hjc] at h3
        exact HX.out j hjs (by omega) (Option.some.inj h3).symm)
      go_wp2
      go_ret
      exact ⟨by rw [HE.out]; rfl, (Below.refl _ _).alloc (Nat.le_refl _) _⟩
set_option maxHeartbeats 1000000 in
theorem rmany_any (c : UInt8) (n : Int) (w : World) (hn : n ≤ 100000) (hn0 : -100000 ≤ n) :
    Calls Tryz.prog 40 #[.int .u8 (c.toNat : Int), .int .i64 n] w fun e w' => e = .returned (.string ⟨(List.replicate n.toNat c).toArray⟩) ∧ Below w.heap.size w w' := by
  obtain ⟨i0, hi, hz0, hz1, hz2⟩ := info_parts Tryz.infoU8
  obtain ⟨N, hN⟩ : ∃ N, n.toNat = N := ⟨_, rfl⟩
  rw [hN]
  have hNb : N ≤ 100000 := by omega
  have HN := Lib.hid hN
  clear hN
  go_enter Tryz.func40, Tryz.ntmps40
  go_wp2
  go_loopw [5, 6] (fun bv iv wr => ∃ j : Nat, j ≤ N ∧ iv = .int .i64 j ∧ Hid (wr.ownsRow w.heap.size 5 1 bv j (Lib.byteCells (List.replicate j c))) ∧ Hid (Below w.heap.size w wr)) (fun _ iv _ => N - (intOf iv).toNat)
  case atStart => exact ⟨0, Nat.zero_le _, rfl, Lib.hid (World.ownsRow_lit w #[] 0 (Nat.le_refl _) (by decide) rfl), Lib.hid ((Below.refl _ _).alloc (Nat.le_refl _) _)⟩
  case round =>
    obtain ⟨j, hj, rfl, HR, HB⟩ := hrel
    by_cases hlt : j < N
    · have hji : (j : Int) < n := by have := HN.out; omega
      go_wp2_with (at_builtin; refine wpList_append_own _ rfl (.tmp 13) (.tmp 15) 39 rfl w.heap.size 5 i0 (.int .u8 0) 1 1 Tryz.underlying39 hi hz0 hz1 hz2 rfl (by decide) u5 j (Lib.byteCells (List.replicate j c)) rfl (HR.out.alloc _) ⟨wr.heap.size, 0, none⟩ 1 1 [.int .u8 (c.toNat : Int)] rfl rfl ?c1 ?c2 ?c3 ?c4 ?c5 ?_)
      case c1 => intro j u hj; cases j with | zero => simp at hj; subst hj; simp [Addr.add, go_sem] | succ j => simp at hj
      case c2 => simp [Value.oneCell']
      case c3 => unfold maxLen; omega
      case c4 => omega
      case c5 => simp; have := HB.out.size; omega
      intro v4 w4 hown4 hgrow4 _
      have hB4 := (HB.out.alloc HB.out.size _).grown hgrow4 (by simp; have := HB.out.size; omega) (fun q hq => (HR.out.lt q hq).1)
      have hrow4 : w4.ownsRow w.heap.size 5 1 v4 (j + 1) (Lib.byteCells (List.replicate (j + 1) c)) := by
        rw [List.replicate_succ', Lib.byteCells_append]; exact hown4
      have HR4 := Lib.hid hrow4
      have HB4 := Lib.hid hB4
      clear hown4 hgrow4 hB4 hrow4 HR HB
      go_wp2
      go_roundw
      case rel => exact ⟨j + 1, by omega, by go_num, HR4, HB4⟩
      case measure => simp [intOf]; omega
    · obtain rfl : j = N := by omega
      have hji : ¬ (j : Int) < n := by have := HN.out; omega
      have hrow := HR.out
      obtain ⟨P, C, rfl, hcv⟩ := row_conv (l := List.replicate j c) (by rw [List.length_replicate]; exact hrow)
      rw [List.length_replicate] at hcv ⊢
      clear hrow HR
      go_wp2
      go_ret
      exact ⟨rfl, HB.out⟩
/-- The digits to the base 16 that are to come yet, i having been made. -/
def pendH (i u : Nat) : List UInt8 := if i ≠ 0 ∧ u = 0 then [] else hexN (17 - i) u
theorem pendH_step (i u : Nat) (hi : i < 16) (h : i = 0 ∨ u ≠ 0) : pendH i u = pendH (i + 1) (u / 16) ++ [hexC (u % 16)] := by
  unfold pendH
  rw [if_neg (by omega), show 17 - i = (16 - i) + 1 by omega, show hexN ((16 - i) + 1) u = if u < 16 then [hexC u] else hexN (16 - i) (u / 16) ++ [hexC (u % 16)] from rfl]
  by_cases h2 : u < 16
  · rw [if_pos h2, if_pos ⟨by omega, by omega⟩, show u % 16 = u by omega]; rfl
  · rw [if_neg h2, if_neg (by omega), show 17 - (i + 1) = 16 - i by omega]
theorem hexC_val (d : Nat) (h : d < 16) : (hexC d).toNat = if d < 10 then 48 + d else 87 + d := by
  unfold hexC
  split
  · exact UInt8.toNat_ofNat_of_lt' (by show 48 + d < 256; omega)
  · exact UInt8.toNat_ofNat_of_lt' (by show 87 + d < 256; omega)
set_option maxHeartbeats 2000000 in
set_option maxRecDepth 100000 in
theorem rhex_any (u0 : Nat) (w : World) (hu : u0 ≤ 4611686018427387903) :
    Calls Tryz.prog 38 #[.int .u64 (u0 : Int)] w fun e w' => e = .returned (.string ⟨(hexL u0).toArray⟩) ∧ Below w.heap.size w w' := by
  have H0 := Lib.hid (show u0 < 16 ^ 16 from Nat.lt_of_le_of_lt hu (by decide))
  go_enter Tryz.func38, Tryz.ntmps38
  go_wp2
  go_loopw [0, 3, 4] (fun uv sv iv wr => ∃ (u i : Nat) (t : ByteArray), i ≤ 16 ∧ u ≤ 4611686018427387903 ∧ uv = .int .u64 u ∧ sv = .string t ∧ iv = .int .i64 i ∧ Hid (u < 16 ^ (16 - i)) ∧ Hid (hexL u0 = pendH i u ++ t.data.toList ∧ t.size = i) ∧ Hid (Below w.heap.size w wr)) (fun _ _ iv _ => 16 - (intOf iv).toNat)
  case atStart => exact ⟨u0, 0, ⟨#[]⟩, by omega, hu, rfl, rfl, rfl, H0, Lib.hid ⟨by simp [pendH, hexL], rfl⟩, Lib.hid (Below.refl _ _)⟩
  case round =>
    obtain ⟨u, i, t, hi, hub, rfl, rfl, rfl, HU, HT, HB⟩ := hrel
    by_cases hgo : i < 16 ∧ (i = 0 ∨ u ≠ 0)
    · obtain ⟨hi16, hgo⟩ := hgo
      have HS := Lib.hid (pendH_step i u hi16 hgo)
      obtain ⟨d, hd⟩ : ∃ d, u % 16 = d := ⟨_, rfl⟩
      have hd16 : d < 16 := by omega
      have hde : (u : Int) % 16 = (d : Int) := by omega
      have hdt : (u : Int).tmod 16 = (d : Int) := by rw [Int.tmod_eq_emod_of_nonneg (by omega)]; exact hde
      obtain ⟨x, hx⟩ : ∃ x, u / 16 = x := ⟨_, rfl⟩
      have hxe : (u : Int) / 16 = (x : Int) := by omega
      have hxt : (u : Int).tdiv 16 = (x : Int) := by rw [Int.tdiv_eq_ediv_of_nonneg (by omega)]; exact hxe
      have hU1 : Hid (x < 16 ^ (16 - (i + 1))) := Lib.hid (by
        have h1 := HU.out
        rw [show 16 - i = (16 - (i + 1)) + 1 from by omega, Nat.pow_succ] at h1
        omega)
      have hxb : x ≤ 4611686018427387903 := by omega
      rw [hd, hx] at HS
      have hts : t.size ≤ 16 := by have := HT.out.2; omega
      obtain ⟨c8, hc8⟩ : ∃ c8, hexC d = c8 := ⟨_, rfl⟩
      have hcv := hexC_val d hd16
      rw [hc8] at hcv HS
      have HN : Hid (hexL u0 = pendH (i + 1) x ++ (({ data := #[c8] } : ByteArray) ++ t).data.toList ∧ (({ data := #[c8] } : ByteArray) ++ t).size = i + 1) := Lib.hid ⟨by rw [HT.out.1, HS.out, ByteArray.data_append, Array.toList_append, List.append_assoc], by rw [ByteArray.size_append, HT.out.2]; show 1 + i = i + 1; omega⟩
      have hdi : (d : Int) ≤ 15 := by omega
      clear hd hx hc8 HS HT HU
      have fin : ∀ v : Int, v = (c8.toNat : Int) → (convert 39 9 (.slice (some ⟨wr.heap.size, 0, none⟩) 1 1)).run Tryz.prog (wr.alloc (.cells #[.int .u8 v] 5)) = .ok (.string ⟨#[c8]⟩) (wr.alloc (.cells #[.int .u8 v] 5)) := fun v hv => conv_one c8 v hv ⟨wr.heap.size, 0, none⟩ _ (by simp [go_sem])
      by_cases h10 : d < 10
      · rw [if_pos h10] at hcv
        have hcn := fin (48 + (d : Int)) (by omega)
        have h10i : ¬ 9 < (d : Int) := by omega
        have HBn : Hid (Below w.heap.size w (wr.alloc (.cells #[.int .u8 (48 + (d : Int))] 5))) := Lib.hid (HB.out.alloc HB.out.size _)
        clear hcv fin h10 HB
        rcases Nat.eq_zero_or_pos i with h0 | h0
        · subst h0
          go_wp2
          go_roundw
          case rel => exact ⟨x, 0 + 1, _, by omega, hxb, rfl, rfl, by go_num, hU1, HN, HBn⟩
          case measure => simp [intOf]
        · have hif : ((i : Int) == 0) = false := by rw [Bool.eq_false_iff]; simp; omega
          have hup : 0 < (u : Int) := by omega
          clear hgo
          go_wp2
          go_roundw
          case rel => exact ⟨x, i + 1, _, by omega, hxb, rfl, rfl, by go_num, hU1, HN, HBn⟩
          case measure => simp [intOf]; omega
      · rw [if_neg h10] at hcv
        have hcn := fin (87 + (d : Int)) (by omega)
        have h10i : 9 < (d : Int) := by omega
        have HBn : Hid (Below w.heap.size w (wr.alloc (.cells #[.int .u8 (87 + (d : Int))] 5))) := Lib.hid (HB.out.alloc HB.out.size _)
        clear hcv fin h10 HB
        rcases Nat.eq_zero_or_pos i with h0 | h0
        · subst h0
          go_wp2
          go_roundw
          case rel => exact ⟨x, 0 + 1, _, by omega, hxb, rfl, rfl, by go_num, hU1, HN, HBn⟩
          case measure => simp [intOf]
        · have hif : ((i : Int) == 0) = false := by rw [Bool.eq_false_iff]; simp; omega
          have hup : 0 < (u : Int) := by omega
          clear hgo
          go_wp2
          go_roundw
          case rel => exact ⟨x, i + 1, _, by omega, hxb, rfl, rfl, by go_num, hU1, HN, HBn⟩
          case measure => simp [intOf]; omega
    · have hu0 : i = 16 → u = 0 := fun h => by have := HU.out; rw [h] at this; simpa using this
      have hii : i ≠ 0 := by omega
      obtain rfl : u = 0 := by omega
      have HF : Hid (t = ⟨(hexL u0).toArray⟩) := Lib.hid (WideShapes.bytes_inj (by rw [HT.out.1]; simp [pendH, hii]))
      have hif : ((i : Int) == 0) = false := by rw [Bool.eq_false_iff]; simp; omega
      clear HT hu0 hgo HU
      by_cases h16 : i < 16
      · go_wp2
        go_ret
        exact ⟨by rw [← HF.out]; rfl, HB.out⟩
      · go_wp2
        go_ret
        exact ⟨by rw [← HF.out]; rfl, HB.out⟩
end Go.Proofs.YtipcanbeegladaaGreatDoor
