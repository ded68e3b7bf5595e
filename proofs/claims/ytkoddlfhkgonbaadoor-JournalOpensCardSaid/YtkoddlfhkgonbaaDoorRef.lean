/-
  CONTRACTS of the document's own answers for layer 2 (Hex, Join, Of): they answer what sum's own calls answer, and write to nothing that was there.
-/
import Derived.Test.YtkoddlfhkgonbaaDoorSum3
namespace Go.Proofs.YtkoddlfhkgonbaaDoor
open Go.RowKit

/-- 'string([]byte{c})' of a new array of one byte. -/
theorem conv_one_s (c : UInt8) (n : Int) (hn : n = c.toNat) (a : Addr) (w : World) (h : w.cell? a = some (.int .u8 n)) : (convert 32 9 (.slice (some a) 1 1)).run Tryd.prog w = .ok (.string ⟨#[c]⟩) w := by
  refine run_convert_bytes_back (P := Tryd.prog) _ 32 9 5 _ 1 [c] Tryd.underlying32 Tryd.underlying5 Tryd.underlying9 ?_
  intro j hj
  obtain rfl : j = 0 := by simpa using hj
  rw [show a.add 0 = a from by simp [Addr.add], h, hn]
  rfl

def hexTail (x k : Nat) : List UInt8 := ((hexL x).map hexc).drop (8 - k)
theorem hexTail_succ (x k : Nat) (hk : k < 8) : hexTail x (k + 1) = hexc (x / 16 ^ k % 16) :: hexTail x k := by
  match k, hk with
  | 0, _ => simp [hexTail, hexL]
  | 1, _ => simp [hexTail, hexL]
  | 2, _ => simp [hexTail, hexL]
  | 3, _ => simp [hexTail, hexL]
  | 4, _ => simp [hexTail, hexL]
  | 5, _ => simp [hexTail, hexL]
  | 6, _ => simp [hexTail, hexL]
  | 7, _ => simp [hexTail, hexL]
  | k + 8, hk => exact absurd hk (by omega)
theorem div_step (x k : Nat) : x / 16 ^ k / 16 = x / 16 ^ (k + 1) := by rw [Nat.div_div_eq_div_mul, Nat.pow_succ]
theorem hexc_lo (n : Nat) (h : n ≤ 9) : ((48 : Int) + n) = ((hexc n).toNat : Int) := by
  unfold hexc; rw [if_pos (by omega), UInt8.toNat_ofNat_of_lt' (by show 48 + n < 256; omega)]; omega
theorem hexc_hi (n : Nat) (h : 9 < n) (h2 : n < 16) : ((87 : Int) + n) = ((hexc n).toNat : Int) := by
  unfold hexc; rw [if_neg (by omega), UInt8.toNat_ofNat_of_lt' (by show 87 + n < 256; omega)]; omega

set_option maxHeartbeats 1000000 in
set_option maxRecDepth 100000 in
theorem refhex_any (x : Nat) (w : World) (hx : x < 4294967296) :
    Calls Tryd.prog 25 #[.int .u32 x] w fun e w' => e = .returned (.string (hexS x)) ∧ Below w.heap.size w w' := by
  go_enter Tryd.func25, Tryd.ntmps25
  go_wp2
  go_loopw [0, 3, 4, 5, 6] (fun y s i _ _ wr => ∃ (k : Nat) (t : ByteArray), k ≤ 8 ∧ y = .int .u32 (x / 16 ^ k : Nat) ∧ s = .string t ∧ t.data.toList = hexTail x k ∧ i = .int .i64 k ∧ Below w.heap.size w wr) (fun _ _ i _ _ _ => 8 - (intOf i).toNat)
  case atStart => exact ⟨0, ⟨#[]⟩, by omega, by simp, rfl, rfl, rfl, Below.refl _ _⟩
  case round =>
    obtain ⟨k, t, hk, rfl, rfl, ht, rfl, hbel⟩ := hrel
    have HT := Lib.hid ht
    clear ht
    have hts : t.size ≤ 8 := by
      have := congrArg List.length HT.out
      simp [hexTail, hexL] at this
      omega
    by_cases hlt : k < 8
    · have HS := Lib.hid (hexTail_succ x k hlt)
      have HD := Lib.hid (div_step x k)
      have hy : x / 16 ^ k < 4294967296 := Nat.lt_of_le_of_lt (Nat.div_le_self _ _) hx
      generalize x / 16 ^ k = y at *
      by_cases h9 : y % 16 ≤ 9
      · have hcv := conv_one_s (hexc (y % 16)) (48 + (y : Int) % 16) (hexc_lo (y % 16) h9) ⟨wr.heap.size, 0, none⟩ (wr.alloc (.cells #[.int .u8 (48 + (y : Int) % 16)] 5)) (by simp [go_sem])
        have h9' : (y : Int) % 16 ≤ 9 := by omega
        go_wp2
        go_roundw
        case rel => exact ⟨k + 1, _, by omega, by rw [← HD.out]; rfl, rfl, by rw [HS.out, ← HT.out, ByteArray.data_append, Array.toList_append]; rfl, by go_num, hbel.alloc hbel.size _⟩
        case measure => simp [intOf]; omega
      · have hcv := conv_one_s (hexc (y % 16)) (87 + (y : Int) % 16) (hexc_hi (y % 16) (by omega) (by omega)) ⟨wr.heap.size, 0, none⟩ (wr.alloc (.cells #[.int .u8 (87 + (y : Int) % 16)] 5)) (by simp [go_sem])
        have h9' : 9 < (y : Int) % 16 := by omega
        go_wp2
        go_roundw
        case rel => exact ⟨k + 1, _, by omega, by rw [← HD.out]; rfl, rfl, by rw [HS.out, ← HT.out, ByteArray.data_append, Array.toList_append]; rfl, by go_num, hbel.alloc hbel.size _⟩
        case measure => simp [intOf]; omega
    · have ek : Hid (k = 8) := Lib.hid (by omega)
      go_wp2
      go_ret
      refine ⟨?_, hbel⟩
      have hq : t = hexS x := WideShapes.bytes_inj (by rw [HT.out, ek.out]; rfl)
      rw [hq]
      rfl

theorem num_int (q a : Nat) (hq : q < 65521) (ha : a < 65521) : IntKind.u64.wrap (IntKind.u64.wrap ((q : Int) * 65536) + (a : Int)) % 4294967296 = ((Ad.num a q : Nat) : Int) := by
  unfold Ad.num
  rw [IntKind.wrap_u64, IntKind.wrap_u64]
  omega


set_option maxHeartbeats 1000000 in
set_option maxRecDepth 100000 in
theorem refof_any (t : ByteArray) (w : World) (ht : t.size ≤ 8000) :
    Calls Tryd.prog 26 #[.string t] w fun e w' => e = .returned (.int .u32 (Ad.sum t.data.toList : Nat)) ∧ w = w' := by
  go_enter Tryd.func26, Tryd.ntmps26
  go_wp2
  go_loop [3, 4, 5] (fun a b i => ∃ k : Nat, k ≤ t.size ∧ a = .int .u64 (Ad.ha 1 (t.data.toList.take k) : Nat) ∧ b = .int .u64 (Ad.hb 1 0 (t.data.toList.take k) : Nat) ∧ i = .int .i64 k) (fun _ _ i => t.size - (intOf i).toNat)
  case atStart => exact ⟨0, Nat.zero_le _, rfl, rfl, rfl⟩
  case round =>
    obtain ⟨k, hk, rfl, rfl, rfl⟩ := hrel
    have ba := Ad.ha_lt 1 (t.data.toList.take k)
    have bb := Ad.hb_lt 1 0 (t.data.toList.take k)
    by_cases hlt : k < t.size
    · have ea := Lib.hid (Ad.ha_snoc 1 t k hlt)
      have eb := Lib.hid (Ad.hb_snoc 1 0 t k hlt)
      generalize Ad.ha 1 (t.data.toList.take k) = a at *
      generalize Ad.hb 1 0 (t.data.toList.take k) = b at *
      have hc := t[k].toNat_lt
      go_wp2
      go_round
      case rel =>
        generalize t[k].toNat = c at *
        refine ⟨k + 1, by omega, ?_, ?_, by go_num⟩
        · rw [ea.out]; go_num
        · rw [eb.out, ea.out]; go_num
      case measure => simp [intOf]; omega
    · have ek : Hid (t.data.toList.take k = t.data.toList) := Lib.hid (List.take_of_length_le (by simp; omega))
      have hfin : ((Ad.hb 1 0 (t.data.toList.take k) : Nat) : Int) * 65536 + ((Ad.ha 1 (t.data.toList.take k) : Nat) : Int) = ((Ad.sum t.data.toList : Nat) : Int) := by
        rw [ek.out]; unfold Ad.sum Ad.num Ad.A Ad.B; omega
      have fin := Lib.hid hfin
      clear hfin
      generalize Ad.ha 1 (t.data.toList.take k) = a at *
      generalize Ad.hb 1 0 (t.data.toList.take k) = b at *
      go_wp2
      go_ret
      exact ⟨ret_int fin.out, rfl⟩
end Go.Proofs.YtkoddlfhkgonbaaDoor
