/-
  CONTRACT of the document's own Bytes: the bytes that a text has, or has not, rising.
-/
import Derived.Test.YtpcnlojlfbgaoaaRgI
namespace Go.Proofs.Ytpcnlojlfbgaoaa
open Go.RowKit

def hasC (l : List UInt8) (c : Nat) : Bool := l.any (fun b => b.toNat == c)
def bytesN (l : List UInt8) (nt : Bool) (k : Nat) : List UInt8 := ((List.range k).filter (fun c => hasC l c != nt)).map UInt8.ofNat
theorem bytesN_len (l : List UInt8) (nt : Bool) (k : Nat) : (bytesN l nt k).length ≤ k := by
  unfold bytesN
  rw [List.length_map]
  exact Nat.le_trans (List.length_filter_le _ _) (by simp)
theorem bytesN_yes {l : List UInt8} {nt : Bool} {k : Nat} (h : (hasC l k != nt) = true) : bytesN l nt (k + 1) = bytesN l nt k ++ [UInt8.ofNat k] := by
  unfold bytesN
  rw [List.range_succ, List.filter_append, List.map_append]
  simp [h]
theorem bytesN_no {l : List UInt8} {nt : Bool} {k : Nat} (h : (hasC l k != nt) = false) : bytesN l nt (k + 1) = bytesN l nt k := by
  unfold bytesN
  rw [List.range_succ, List.filter_append, List.map_append]
  simp [h]
theorem hasC_take (s : ByteArray) (c k : Nat) (h : k < s.size) : hasC (s.data.toList.take (k + 1)) c = (hasC (s.data.toList.take k) c || (s[k].toNat == c)) := by
  unfold hasC
  rw [List.take_succ_eq_append_getElem (by simpa using h), List.any_append]
  simp
  rfl
set_option maxHeartbeats 4000000 in
theorem rbytes_any (s : ByteArray) (nt : Bool) (hs : s.size ≤ 1000000) (w : World) :
    Calls Try.prog 32 #[.string s, .bool nt] w fun e w' => e = .returned (.string ⟨(bytesN s.data.toList nt 256).toArray⟩) ∧ Below w.heap.size w w' := by
  obtain ⟨i0, hi, hz0, hz1, hz2⟩ := info_parts Try.infoB
  have hlit := World.ownsRow_lit (base := w.heap.size) (e := 5) (size := 1) w #[] 0 (Nat.le_refl _) (by decide) rfl
  have H0 : Hid (RowR w.heap.size (some w.heap.size) (w.alloc (.cells #[] 5)) 0 (bytesN s.data.toList nt 0) (.slice (some ⟨w.heap.size, 0, none⟩) 0 0) (w.alloc (.cells #[] 5))) := Lib.hid ⟨hlit, Grw.refl _ _, .inl rfl⟩
  clear hlit
  go_enter Try.func32, Try.ntmps32
  go_wp2_with fail
  go_loopw [5, 6] (fun ov iv wr => ∃ (k m g c : Nat), k ≤ 256 ∧ m ≤ k ∧ ov = .slice (some ⟨g, 0, none⟩) m c ∧ iv = .int .i64 (k : Int) ∧ Hid (m = (bytesN s.data.toList nt k).length) ∧ Hid (RowR w.heap.size (some w.heap.size) (w.alloc (.cells #[] 5)) m (bytesN s.data.toList nt k) (.slice (some ⟨g, 0, none⟩) m c) wr)) (fun _ iv _ => 256 - (intOf iv).toNat)
  case atStart => exact ⟨0, 0, _, _, by omega, by omega, rfl, rfl, Lib.hid rfl, H0⟩
  case round =>
    obtain ⟨k, m, g, c, hk, hmk, rfl, rfl, HM, HO⟩ := hrel
    clear H0
    by_cases hlt : k < 256
    · have hki : (k : Int) < 256 := by omega
      have hk0 : 0 ≤ (k : Int) := by omega
      go_wp2_with fail
      go_loopw [7, 8] (fun bv jv wx => ∃ j : Nat, j ≤ s.size ∧ bv = .bool (hasC (s.data.toList.take j) k) ∧ jv = .int .i64 (j : Int) ∧ wx = wr) (fun _ jv _ => s.size - (intOf jv).toNat)
      case atStart => exact ⟨0, Nat.zero_le _, rfl, rfl, rfl⟩
      case round =>
        obtain ⟨j, hj, rfl, rfl, rfl⟩ := hrel
        by_cases hjl : j < s.size
        · have hji : (j : Int) < (s.size : Int) := by omega
          have hj0 : 0 ≤ (j : Int) := by omega
          have HTK := Lib.hid (hasC_take s k j hjl)
          obtain ⟨b, hb⟩ : ∃ b, hasC (s.data.toList.take j) k = b := ⟨_, rfl⟩
          rw [hb] at HTK ⊢
          have hcb := s[j].toNat_lt
          obtain ⟨x, hx⟩ : ∃ x, s[j] = x := ⟨_, rfl⟩
          rw [hx] at HTK hcb
          clear hb
          cases b with
          | true =>
            go_wp2_with fail
            refine ⟨⟨j + 1, by omega, by rw [HTK.out]; rfl, by simp, trivial⟩, ?_⟩
            simp [intOf]; omega
          | false =>
            by_cases he : x.toNat = k
            · have hbe : ((x.toNat : Int) == (k : Int)) = true := by rw [he]; simp
              have HBE : Hid ((x.toNat == k) = true) := Lib.hid (by simpa using he)
              clear he
              go_wp2_with fail
              refine ⟨⟨j + 1, by omega, by rw [HTK.out, HBE.out]; simp, by simp, trivial⟩, ?_⟩
              simp [intOf]; omega
            · have hbe : ((x.toNat : Int) == (k : Int)) = false := by rw [Bool.eq_false_iff]; intro h; exact he (by have h2 : (x.toNat : Int) = k := (by simpa using h); omega)
              have HBE : Hid ((x.toNat == k) = false) := Lib.hid (by simpa using he)
              clear he
              go_wp2_with fail
              refine ⟨⟨j + 1, by omega, by rw [HTK.out, HBE.out]; simp, by simp, trivial⟩, ?_⟩
              simp [intOf]; omega
        · have hji : ¬ (j : Int) < (s.size : Int) := by omega
          have htk : s.data.toList.take j = s.data.toList := List.take_of_length_le (by simp; omega)
          rw [htk]
          clear htk
          obtain ⟨b, hb⟩ : ∃ b, hasC s.data.toList k = b := ⟨_, rfl⟩
          rw [hb]
          rcases b with _ | _ <;> rcases nt with _ | _
          · have HY := Lib.hid (bytesN_no (l := s.data.toList) (nt := false) (k := k) (by rw [hb]; rfl))
            clear hb
            go_wp2_with fail
            refine ⟨⟨k + 1, m, g, c, by omega, by omega, rfl, by simp, Lib.hid ?_, Lib.hid ?_⟩, ?_⟩
            · rw [HY.out]; exact HM.out
            · rw [HY.out]; exact HO.out
            · simp [intOf]; omega
          · have HY := Lib.hid (bytesN_yes (l := s.data.toList) (nt := true) (k := k) (by rw [hb]; rfl))
            clear hb
            go_wp2_with (at_builtin; refine wpList_append_own_at _ rfl (.tmp 32) (.tmp 35) 49 rfl w.heap.size 5 i0 (.int .u8 0) 1 1 Try.underlying49 hi hz0 hz1 hz2 rfl (by decide) (.slice (some ⟨g, 0, none⟩) m c) m (Lib.byteCells (bytesN s.data.toList true k)) rfl (HO.out.own.alloc _) ⟨wr.heap.size, 0, none⟩ 1 1 [.int .u8 (k : Int)] rfl rfl ?p1 ?p2 ?p3 ?p4 ?p5 ?_)
            try (case p1 => exact cell_one_new _ _ _)
            case p2 => simp [Value.oneCell']
            case p3 => unfold maxLen; omega
            case p4 => omega
            case p5 => have := HO.out.grw.size; simp at this ⊢; omega
            intro v2 w2 hown2 hgrow2 _ hat2
            obtain ⟨g2, c2, rfl, hc2⟩ := rg_own_succ hown2
            have hkn : ((UInt8.ofNat k).toNat : Int) = (k : Int) := by rw [UInt8.toNat_ofNat']; omega
            have HR := Lib.hid (HO.out.step (b := UInt8.ofNat k) (by rw [hkn]; exact hown2) hgrow2 (by simpa using hat2))
            clear hown2 hgrow2 hat2 hkn
            go_wp2_with fail
            refine ⟨⟨k + 1, m + 1, g2, c2, by omega, by omega, rfl, by simp, Lib.hid ?_, Lib.hid ?_⟩, ?_⟩
            · rw [HY.out, List.length_append, ← HM.out]; rfl
            · rw [HY.out]; exact HR.out
            · simp [intOf]; omega
          · have HY := Lib.hid (bytesN_yes (l := s.data.toList) (nt := false) (k := k) (by rw [hb]; rfl))
            clear hb
            go_wp2_with (at_builtin; refine wpList_append_own_at _ rfl (.tmp 32) (.tmp 35) 49 rfl w.heap.size 5 i0 (.int .u8 0) 1 1 Try.underlying49 hi hz0 hz1 hz2 rfl (by decide) (.slice (some ⟨g, 0, none⟩) m c) m (Lib.byteCells (bytesN s.data.toList false k)) rfl (HO.out.own.alloc _) ⟨wr.heap.size, 0, none⟩ 1 1 [.int .u8 (k : Int)] rfl rfl ?q1 ?q2 ?q3 ?q4 ?q5 ?_)
            try (case q1 => exact cell_one_new _ _ _)
            case q2 => simp [Value.oneCell']
            case q3 => unfold maxLen; omega
            case q4 => omega
            case q5 => have := HO.out.grw.size; simp at this ⊢; omega
            intro v2 w2 hown2 hgrow2 _ hat2
            obtain ⟨g2, c2, rfl, hc2⟩ := rg_own_succ hown2
            have hkn : ((UInt8.ofNat k).toNat : Int) = (k : Int) := by rw [UInt8.toNat_ofNat']; omega
            have HR := Lib.hid (HO.out.step (b := UInt8.ofNat k) (by rw [hkn]; exact hown2) hgrow2 (by simpa using hat2))
            clear hown2 hgrow2 hat2 hkn
            go_wp2_with fail
            refine ⟨⟨k + 1, m + 1, g2, c2, by omega, by omega, rfl, by simp, Lib.hid ?_, Lib.hid ?_⟩, ?_⟩
            · rw [HY.out, List.length_append, ← HM.out]; rfl
            · rw [HY.out]; exact HR.out
            · simp [intOf]; omega
          · have HY := Lib.hid (bytesN_no (l := s.data.toList) (nt := true) (k := k) (by rw [hb]; rfl))
            clear hb
            go_wp2_with fail
            refine ⟨⟨k + 1, m, g, c, by omega, by omega, rfl, by simp, Lib.hid ?_, Lib.hid ?_⟩, ?_⟩
            · rw [HY.out]; exact HM.out
            · rw [HY.out]; exact HO.out
            · simp [intOf]; omega
    · obtain rfl : k = 256 := by omega
      have hki : ¬ ((256 : Nat) : Int) < 256 := by omega
      have hB3 : Below w.heap.size w wr := by
        have h9 := HO.out.grw
        refine ⟨h9.os, h9.tape, h9.output, by have := h9.size; simp at this; omega, fun q hq => (h9.block q (by simp; omega) (fun e => by have := Option.some.inj e; omega)).trans (Below.heap_alloc w _ q hq)⟩
      have hcv := run_convert_bytes_back (P := Try.prog) wr 49 9 5 ⟨g, 0, none⟩ c (bytesN s.data.toList nt 256) Try.underlying49 Try.underlying5 Try.underlying9 (fun j hj => by
        rw [← byteCells_get _ j hj, ← HO.out.own.cellAt j (by have h := HM.out; omega)]
        by_cases h0 : j = 0 <;> simp [Addr.add, h0])
      rw [← HM.out] at hcv
      have HB3 := Lib.hid hB3
      clear hB3
      go_wp2_with fail
      go_ret
      exact ⟨rfl, HB3.out⟩
end Go.Proofs.Ytpcnlojlfbgaoaa
