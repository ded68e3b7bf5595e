/-
  CONTRACT of strconv.FormatUint at base 16, walked over the library's own text: the hexadecimal digits; nothing that was there is written. Condition: the library's table deBruijn64tab holds 4 at place 15.
-/
import Derived.Test.YtipcanbeegladaaGreatDoorUint
import Derived.Test.YtipcanbeegladaaGreatDoorFmtM
import Derived.Laws.Bits64b
import Derived.IntWalk
namespace Go.Proofs.YtipcanbeegladaaGreatDoor
open Go.RowKit

/-- The library's table of trailing zeros, where 16 leads. -/
def Dz (w : World) : Prop := w.cell? ⟨7, 15, none⟩ = some (.int .u8 4)
theorem Dz.next {w w1 : World} (h : Dz w) (hb : Below w.heap.size w w1) : Dz w1 := (hb.cell (p := ⟨7, 15, none⟩) (World.block_lt_of_cell? _ _ h)).trans h
theorem tz64 (w : World) (h : Dz w) : Calls Tryz.prog 120 #[.int .u64 16] w fun e w' => e = .returned (.int .i64 4) ∧ w = w' := by
  unfold Dz at h
  have key : IntKind.u64.wrap (bits BinOp.and IntKind.u64 16 (IntKind.u64.wrap (-16)) * 285870213051353865) / 288230376151711744 = 15 := by decide +kernel
  go_enter Tryz.func120, Tryz.ntmps120
  go_wp2_with (simp only [key])
  go_ret
  exact ⟨rfl, rfl⟩
theorem tz16 (w : World) (h : Dz w) : Calls Tryz.prog 116 #[.int .u64 16] w fun e w' => e = .returned (.int .i64 4) ∧ w = w' := by
  go_enter Tryz.func116, Tryz.ntmps116
  go_wp2_with (go_at_call 120; refine (tz64 _ h).mono ?_; rintro e w' ⟨rfl, rfl⟩)
  go_ret
  exact ⟨rfl, rfl⟩
theorem pow2 (w : World) : Calls Tryz.prog 115 #[.int .i64 16] w fun e w' => e = .returned (.bool true) ∧ w = w' := by
  have k1 : bits BinOp.and IntKind.i64 16 15 = 0 := by decide +kernel
  go_enter Tryz.func115, Tryz.ntmps115
  go_wp2_with fail
  go_ret
  exact ⟨rfl, rfl⟩
theorem mask4 (y : Nat) (h : y < 18446744073709551616) : bits BinOp.and IntKind.u64 (y : Int) 15 = ((y % 16 : Nat) : Int) := by
  have e : y &&& 15 = y % 16 := Nat.and_two_pow_sub_one_eq_mod y 4
  rw [← e]
  exact bits_and_u64_nat y 15 h (by omega)
abbrev alphaS : ByteArray := { data := #[48, 49, 50, 51, 52, 53, 54, 55, 56, 57, 97, 98, 99, 100, 101, 102, 103, 104, 105, 106, 107, 108, 109, 110, 111, 112, 113, 114, 115, 116, 117, 118, 119, 120, 121, 122] }
theorem alpha_lt {n : Nat} (h : n < 16) : n < alphaS.size := by show n < 36; omega
set_option maxRecDepth 100000 in
theorem alpha_at (n : Nat) (h : n < 16) : alphaS[n]'(alpha_lt h) = hexC n := by
  match n, h with
  | 0, _ => rfl
  | 1, _ => rfl
  | 2, _ => rfl
  | 3, _ => rfl
  | 4, _ => rfl
  | 5, _ => rfl
  | 6, _ => rfl
  | 7, _ => rfl
  | 8, _ => rfl
  | 9, _ => rfl
  | 10, _ => rfl
  | 11, _ => rfl
  | 12, _ => rfl
  | 13, _ => rfl
  | 14, _ => rfl
  | 15, _ => rfl
  | n + 16, h => exact absurd h (by omega)

/-- What the loop has written: L, at the row's end. -/
structure HexR (u g : Nat) (w0 : World) (j v : Nat) (wr : World) : Prop where
  jb : j ≤ 15
  vb : v < 16 ^ (16 - j)
  cells : ∃ L : List UInt8, L.length = j ∧ hexN 17 u = hexN (17 - j) v ++ L ∧ ∀ m (h : m < L.length), wr.cell? ⟨g, 65 - j + m, none⟩ = some (.int .u8 (L[m].toNat : Int))
  some : ∀ o, o < 65 → ∃ x, wr.cell? ⟨g, o, none⟩ = some x
  thaw : ∀ o, wr.frozen? ⟨g, o, none⟩ = false
  below : Below w0.heap.size w0 wr
theorem HexR.next {u g : Nat} {w0 wr : World} {j v : Nat} (h : HexR u g w0 j v wr) (hv : 16 ≤ v) (hg : w0.heap.size ≤ g) : j < 15 ∧ HexR u g w0 (j + 1) (v / 16) (wr.setCell ⟨g, 64 - j, none⟩ (.int .u8 ((hexC (v % 16)).toNat : Int))) := by
  obtain ⟨hj, hvb, ⟨L, hL, hx, hc⟩, hs, ht, hb⟩ := h
  have hj15 : j < 15 := by
    rcases Nat.lt_or_ge j 15 with h | h
    · exact h
    · have : 16 - j = 1 := by omega
      rw [this] at hvb; omega
  refine ⟨hj15, by omega, ?_, ⟨hexC (v % 16) :: L, by simp [hL], ?_, ?_⟩, ?_, ?_, hb.setCell hg _⟩
  · have e : 16 - j = (16 - (j + 1)) + 1 := by omega
    rw [e, Nat.pow_succ] at hvb
    omega
  · rw [hx]
    have e : 17 - j = (17 - (j + 1)) + 1 := by omega
    rw [e]
    show (if v < 16 then _ else _) ++ L = _
    rw [if_neg (by omega)]; simp
  · intro m hm
    match m with
    | 0 =>
      obtain ⟨x, hx⟩ := hs (64 - j) (by omega)
      rw [show 65 - (j + 1) + 0 = 64 - j by omega]
      exact World.cell?_setCell_same _ _ _ hx
    | m + 1 =>
      simp only [List.length_cons] at hm
      rw [World.cell?_setCell_other _ _ _ _ (by intro h; injection h; omega), show 65 - (j + 1) + (m + 1) = 65 - j + m by omega]
      exact hc m (by omega)
  · intro o ho
    by_cases e : o = 64 - j
    · subst e
      obtain ⟨x, hx⟩ := hs (64 - j) (by omega)
      exact ⟨_, World.cell?_setCell_same _ _ _ hx⟩
    · obtain ⟨x, hx⟩ := hs o ho
      exact ⟨x, by rw [World.cell?_setCell_other _ _ _ _ (by intro h; injection h; omega)]; exact hx⟩
  · intro o; simpa using ht o
set_option maxRecDepth 100000 in
set_option maxHeartbeats 2000000 in
theorem bits16 (u : Nat) (w : World) (hu : u < 18446744073709551616) (D : Dz w) :
    Calls Tryz.prog 101 #[.slice none 0 0, .int .u64 u, .int .i64 16, .bool false, .bool false] w fun e w' => e = .returned (.tuple #[.slice none 0 0, .string ⟨(hexL u).toArray⟩]) ∧ Below w.heap.size w w' := by
  have HD := Lib.hid D
  have HU := Lib.hid hu
  clear D hu
  go_enter Tryz.func101, Tryz.ntmps101
  go_wp2_with (first
    | ((with_reducible refine (pow2 _).mono ?_); rintro e w' ⟨rfl, rfl⟩)
    | ((with_reducible refine (tz16 _ (HD.out.next ((Below.refl _ _).alloc (Nat.le_refl _) _))).mono ?_); rintro e w' ⟨rfl, rfl⟩))
  have H0 : Hid (HexR u w.heap.size w (64 - 64) u (w.alloc (.cells Tryz.zeroCells140 140))) := Lib.hid {
    jb := by omega
    vb := by have := HU.out; show u < 16 ^ 16; omega
    cells := ⟨[], rfl, by simp, fun m h => absurd h (by simp)⟩
    some := fun o ho => by
      rw [World.cell?_alloc_new]
      exact ⟨_, Array.getElem?_eq_getElem (show o < (Tryz.zeroCells140).size from ho)⟩
    thaw := fun o => World.frozen?_alloc_new _ _ _ _
    below := (Below.refl _ _).alloc (Nat.le_refl _) _ }
  go_loopw [1, 13] (fun uv iv wr => ∃ v p : Nat, v < 18446744073709551616 ∧ 49 ≤ p ∧ p ≤ 64 ∧ uv = .int .u64 v ∧ iv = .int .i64 ((p : Int) + 1) ∧ Hid (HexR u w.heap.size w (64 - p) v wr)) (fun uv _ _ => (intOf uv).toNat)
  case atStart => exact ⟨u, 64, HU.out, by omega, by omega, rfl, rfl, H0⟩
  case round =>
    obtain ⟨v, p, hv, hp, hp2, rfl, rfl, HX⟩ := hrel
    obtain ⟨x, hx⟩ := HX.out.some p (by omega)
    have hf := HX.out.thaw p
    by_cases h16 : 16 ≤ v
    · have h16' : 16 ≤ (v : Int) := by omega
      have hm := mask4 v hv
      obtain ⟨h15, hN⟩ := HX.out.next h16 (Nat.le_refl _)
      rw [show 64 - (64 - p) = p from by omega, ← alpha_at (v % 16) (Nat.mod_lt _ (by decide))] at hN
      have HN := Lib.hid hN
      clear hN HX
      go_wp2
      go_roundw
      case rel => exact ⟨v / 16, p - 1, by omega, by omega, by omega, by go_num, by go_num, by rw [show 64 - (p - 1) = 64 - p + 1 from by omega]; exact HN⟩
      case measure => simp [intOf]; omega
    · have h16' : (v : Int) < 16 := by omega
      have hlast : hexN 17 u = hexN (17 - (64 - p)) v ++ [] ∨ True := .inr trivial
      obtain ⟨hj, hvb, ⟨L, hL, hx2, hc⟩, hs, ht, hb⟩ := HX.out
      have hm : v % 16 = v := by omega
      have HL : Hid (hexL u = alphaS[v]'(alpha_lt (by omega)) :: L) := Lib.hid (by
        rw [alpha_at v (by omega)]
        show hexN 17 u = _
        rw [hx2, show 17 - (64 - p) = (16 - (64 - p)) + 1 from by omega]
        show (if v < 16 then _ else _) ++ L = _
        rw [if_pos (by omega)]; rfl)
      generalize hd : alphaS[v]'(alpha_lt (by omega)) = d at *
      have hcv : ∀ W : World, (∀ m, m < p → True) → (∀ j, j < (d :: L).length → W.cell? ⟨w.heap.size, p + j, none⟩ = some (.int .u8 ((d :: L)[j]!.toNat : Int))) → True := fun _ _ _ => trivial
      clear hlast hcv
      have HB := Lib.hid (hb.setCell (p := ⟨w.heap.size, p, none⟩) (Nat.le_refl _) (.int .u8 (d.toNat : Int)))
      have hconv : (convert 39 9 (.slice (some ⟨w.heap.size, p, none⟩) (65 - p) (65 - p))).run Tryz.prog (wr.setCell ⟨w.heap.size, p, none⟩ (.int .u8 (d.toNat : Int))) = .ok (.string ⟨(hexL u).toArray⟩) (wr.setCell ⟨w.heap.size, p, none⟩ (.int .u8 (d.toNat : Int))) := by
        have h := run_convert_bytes_back (P := Tryz.prog) (wr.setCell ⟨w.heap.size, p, none⟩ (.int .u8 (d.toNat : Int))) 39 9 5 ⟨w.heap.size, p, none⟩ (65 - p) (d :: L) Tryz.underlying39 Tryz.underlying5 Tryz.underlying9 (fun j hj => by
          rw [Lib.add_plain]
          match j, hj with
          | 0, _ => exact World.cell?_setCell_same _ _ _ hx
          | j + 1, hj =>
            rw [World.cell?_setCell_other _ _ _ _ (by intro h; injection h; omega)]
            have := hc j (by simpa using hj)
            rw [show 65 - (64 - p) + j = p + (j + 1) from by omega] at this
            exact this)
        rw [HL.out]
        rw [show (d :: L).length = 65 - p from by simp; omega] at h
        exact h
      have hal : Tryz.prog.arrayLen 140 = 65 := by kernel_rfl
      have hsl : ∀ W, (Instr.sliceAt 140 (.pointer (some ⟨w.heap.size, 0, none⟩)) (some (.int .i64 (p : Int))) none none).run Tryz.prog W = .ok (.slice (some ⟨w.heap.size, p, none⟩) (65 - p) (65 - p)) W := fun W => by
        rw [run_sliceAt_array_l W 140 ⟨w.heap.size, 0, none⟩ (by kernel_rfl) .i64 (p : Int) (by omega) (by rw [hal]; omega)]
        rw [hal]
        have h1 : ¬ 65 = p := by omega
        have h2 : ¬ p = 0 := by omega
        simp [slicedAt, Addr.add, go_sem, h1, h2]
      clear hal
      clear HX hx2 hc hs ht hb hL hvb hm
      go_wp2_with fail
      go_ret2
      exact ⟨rfl, HB.out⟩
theorem ihex_any (u : Nat) (w : World) (hu : u < 18446744073709551616) (D : Dz w) :
    Calls Tryz.prog 82 #[.int .u64 u, .int .i64 16] w fun e w' => e = .returned (.string ⟨(hexL u).toArray⟩) ∧ Below w.heap.size w w' := by
  have C := Lib.hid fun W D => bits16 u W hu D
  have HD := Lib.hid D
  clear hu D
  go_enter Tryz.func82, Tryz.ntmps82
  go_wp2_with ((with_reducible refine (C.out _ HD.out).mono ?_); rintro e w' ⟨rfl, hb⟩)
  go_ret
  exact ⟨rfl, hb⟩
theorem hex_any (u : Nat) (w : World) (hu : u < 18446744073709551616) (D : Dz w) :
    Calls Tryz.prog 54 #[.int .u64 u, .int .i64 16] w fun e w' => e = .returned (.string ⟨(hexL u).toArray⟩) ∧ Below w.heap.size w w' := by
  have C := Lib.hid fun W D => ihex_any u W hu D
  have HD := Lib.hid D
  clear hu D
  go_enter Tryz.func54, Tryz.ntmps54
  go_wp2_with ((with_reducible refine (C.out _ HD.out).mono ?_); rintro e w' ⟨rfl, hb⟩)
  go_ret
  exact ⟨rfl, hb⟩
end Go.Proofs.YtipcanbeegladaaGreatDoor
