/-
  CONTRACTS of sum.Of, isHexDigit, isHex: what each call answers, and that it writes to nothing that was there.
-/
import Derived.Test.YtmlpkimbcjkbkaaGreatDoorSum1
import Derived.Handy
namespace Go.Proofs.YtmlpkimbcjkbkaaGreatDoor
open Go.RowKit

set_option maxHeartbeats 400000 in
theorem of_any (t : ByteArray) (w : World) (ht : t.size ≤ maxLen) :
    Calls Tryz.prog 12 #[.string t] w fun e w' => e = .returned (.int .u32 (Ad.sum t.data.toList : Nat)) ∧ Below w.heap.size w w' := by
  go_enter Tryz.func12, Tryz.ntmps12
  go_wp2_with fail
  refine (new_any _).mono ?_
  rintro e w1 ⟨rfl, hb1⟩
  go_wp2_with fail
  refine (add_any 1 0 t _ (by omega) (by omega) ht).mono ?_
  rintro e w2 ⟨rfl, hb2⟩
  go_wp2_with fail
  refine (value_any _ _ _ (Nat.lt_trans (Ad.ha_lt _ _) (by decide)) (Nat.lt_trans (Ad.hb_lt _ _ _) (by decide))).mono ?_
  rintro e w3 ⟨rfl, hb3⟩
  go_wp2_with fail
  go_ret
  exact ⟨rfl, (hb1.trans (hb2.mono hb1.size)).trans (hb3.mono (Nat.le_trans hb1.size hb2.size))⟩

/-- Is c one of 0 to 9, a to f? -/
def hexd (c : Nat) : Bool := decide (48 ≤ c ∧ c ≤ 57 ∨ 97 ≤ c ∧ c ≤ 102)

set_option maxHeartbeats 400000 in
set_option maxRecDepth 100000 in
theorem hexDigit_any (c : Nat) (w : World) (_hc : c < 256) :
    Calls Tryz.prog 103 #[.int .u8 c] w fun e w' => e = .returned (.bool (hexd c)) ∧ w = w' := by
  by_cases h1 : 48 ≤ c
  · by_cases h2 : c ≤ 57
    · have e : hexd c = true := by simp [hexd]; omega
      rw [e]
      go_enter Tryz.func103, Tryz.ntmps103
      go_wp2
      go_ret
      exact ⟨rfl, rfl⟩
    · by_cases h3 : 97 ≤ c
      · by_cases h4 : c ≤ 102
        · have e : hexd c = true := by simp [hexd]; omega
          rw [e]
          go_enter Tryz.func103, Tryz.ntmps103
          go_wp2
          go_ret
          exact ⟨by simp; omega, rfl⟩
        · have e : hexd c = false := by simp [hexd]; omega
          rw [e]
          go_enter Tryz.func103, Tryz.ntmps103
          go_wp2
          go_ret
          exact ⟨by simp; omega, rfl⟩
      · have e : hexd c = false := by simp [hexd]; omega
        rw [e]
        go_enter Tryz.func103, Tryz.ntmps103
        go_wp2
        go_ret
        exact ⟨by simp; omega, rfl⟩
  · have e : hexd c = false := by simp [hexd]; omega
    rw [e]
    have h3 : ¬ 97 ≤ c := by omega
    go_enter Tryz.func103, Tryz.ntmps103
    go_wp2
    go_ret
    exact ⟨rfl, rfl⟩

/-- Eight such digits. -/
def isHexB (s : ByteArray) : Bool := s.data.toList.all (fun c => hexd c.toNat) && s.data.toList.length == 8

theorem isHexB_no {s : ByteArray} {k : Nat} (hk : k < s.size) (h : hexd s[k].toNat = false) : isHexB s = false := by
  unfold isHexB
  rw [Bool.and_eq_false_iff]
  left
  rw [List.all_eq_false]
  exact ⟨s[k], by rw [Array.mem_toList_iff]; exact Array.getElem_mem (xs := s.data) hk, by simp [h]⟩
theorem isHexB_yes {s : ByteArray} (h : ∀ k (hk : k < s.size), hexd s[k].toNat = true) : isHexB s = (s.size == 8) := by
  unfold isHexB
  have e : s.data.toList.all (fun c => hexd c.toNat) = true := by
    rw [List.all_eq_true]
    intro c hc
    obtain ⟨k, hk, rfl⟩ := List.getElem_of_mem hc
    exact h k (by simpa using hk)
  rw [e]; simp

set_option maxHeartbeats 1000000 in
set_option maxRecDepth 100000 in
theorem isHex_any (s : ByteArray) (w : World) (hs : s.size ≤ maxLen) :
    Calls Tryz.prog 92 #[.string s] w fun e w' => e = .returned (.bool (isHexB s)) ∧ w = w' := by
  unfold maxLen at hs
  go_enter Tryz.func92, Tryz.ntmps92
  go_wp2
  go_loop [3, 6] (fun _ i => ∃ k : Nat, k ≤ s.size ∧ i = .int .i64 k ∧ ∀ j (hj : j < s.size), j < k → hexd s[j].toNat = true) (fun _ i => s.size - (intOf i).toNat)
  case atStart => exact ⟨0, Nat.zero_le _, rfl, fun j hj h => absurd h (by omega)⟩
  case round =>
    obtain ⟨k, hk, rfl, hall⟩ := hrel
    have HA := Lib.hid hall
    clear hall
    by_cases hlt : k < s.size
    · have hcb := s[k].toNat_lt
      cases hx : hexd s[k].toNat with
      | true =>
        have HX := Lib.hid hx
        clear hx
        go_wp2_with (go_at_call 103; refine (hexDigit_any _ _ hcb).mono ?_; rintro e w' ⟨rfl, rfl⟩; rw [HX.out])
        go_round
        case rel => exact ⟨k + 1, by omega, by go_num, fun j hj h => by
          by_cases e : j = k
          · subst e; exact HX.out
          · exact HA.out j hj (by omega)⟩
        case measure => simp [intOf]; omega
      | false =>
        have HX := Lib.hid hx
        clear hx
        go_wp2_with (go_at_call 103; refine (hexDigit_any _ _ hcb).mono ?_; rintro e w' ⟨rfl, rfl⟩; rw [HX.out])
        go_ret
        exact ⟨by rw [isHexB_no hlt HX.out]; rfl, rfl⟩
    · have HY := Lib.hid (isHexB_yes (s := s) (fun j hj => HA.out j hj (by omega)))
      go_wp2
      go_ret
      exact ⟨by rw [HY.out]; simp; rw [Bool.eq_iff_iff]; simp; omega, rfl⟩

/-- The digit of 0 to 15, and the digits of a number, the highest first. -/
def hexc (n : Nat) : UInt8 := UInt8.ofNat (if n < 10 then 48 + n else 87 + n)
def hexL (x : Nat) : List Nat := [x / 268435456 % 16, x / 16777216 % 16, x / 1048576 % 16, x / 65536 % 16, x / 4096 % 16, x / 256 % 16, x / 16 % 16, x % 16]
def hexS (x : Nat) : ByteArray := ⟨((hexL x).map hexc).toArray⟩

theorem mask4 (y : Nat) (h : y < 4294967296) : bits BinOp.and IntKind.u32 (y : Int) 15 = ((y % 16 : Nat) : Int) := by
  have := u32_and_nat y 15 h (by omega)
  rw [nat_mask4] at this
  exact this
def hexDigits : ByteArray := { data := #[48, 49, 50, 51, 52, 53, 54, 55, 56, 57, 97, 98, 99, 100, 101, 102] }
set_option maxRecDepth 100000 in
theorem digit_at (n : Nat) (h : n < 16) (w : World) : (Instr.index 9 (.string { data := #[48, 49, 50, 51, 52, 53, 54, 55, 56, 57, 97, 98, 99, 100, 101, 102] }) (.int .u32 (n : Int))).run Tryz.prog w = .ok (.int .u8 (hexc n).toNat) w := by
  match n, h with
  | 0, _ => rfl
  | 1, _ => rfl
  | 2, _ => rfl
  | 3, _ => rfl
  | 4, _ => rfl
  | 5, _ => rfl
  | 6, _ => rfl
  | 7, _ => rfl
  | 8, _ => rfl
  | 9, _ => rfl
  | 10, _ => rfl
  | 11, _ => rfl
  | 12, _ => rfl
  | 13, _ => rfl
  | 14, _ => rfl
  | 15, _ => rfl
  | n + 16, h => exact absurd h (by omega)

set_option maxRecDepth 100000 in
/-- 'string(h[:])' of a new array of eight bytes. -/
theorem conv8 (c0 c1 c2 c3 c4 c5 c6 c7 : UInt8) (w : World) (T : TypeId) : (convert 109 9 (.slice (some ⟨w.heap.size, 0, none⟩) 8 8)).run Tryz.prog (w.alloc (.cells #[.int .u8 c0.toNat, .int .u8 c1.toNat, .int .u8 c2.toNat, .int .u8 c3.toNat, .int .u8 c4.toNat, .int .u8 c5.toNat, .int .u8 c6.toNat, .int .u8 c7.toNat] T)) =
    .ok (.string ⟨#[c0, c1, c2, c3, c4, c5, c6, c7]⟩) (w.alloc (.cells #[.int .u8 c0.toNat, .int .u8 c1.toNat, .int .u8 c2.toNat, .int .u8 c3.toNat, .int .u8 c4.toNat, .int .u8 c5.toNat, .int .u8 c6.toNat, .int .u8 c7.toNat] T)) := by
  refine run_convert_bytes_back (P := Tryz.prog) _ 109 9 5 _ 8 [c0, c1, c2, c3, c4, c5, c6, c7] Tryz.underlying109 Tryz.underlying5 Tryz.underlying9 ?_
  intro j hj
  rw [show (Addr.add ⟨w.heap.size, 0, none⟩ j) = ⟨w.heap.size, j, none⟩ from by simp [Addr.add]; omega, World.cell?_alloc_at (hn := rfl)]
  match j, hj with
  | 0, _ => rfl
  | 1, _ => rfl
  | 2, _ => rfl
  | 3, _ => rfl
  | 4, _ => rfl
  | 5, _ => rfl
  | 6, _ => rfl
  | 7, _ => rfl
  | j + 8, hj => exact absurd hj (by simp)

set_option maxHeartbeats 1000000 in
set_option maxRecDepth 100000 in
theorem hex_core (x n0 n1 n2 n3 n4 n5 n6 n7 : Nat) (c0 c1 c2 c3 c4 c5 c6 c7 : UInt8) (w : World)
    (b0 : bits BinOp.and IntKind.u32 ((x : Int) / 268435456) 15 = n0) (b1 : bits BinOp.and IntKind.u32 ((x : Int) / 16777216) 15 = n1)
    (b2 : bits BinOp.and IntKind.u32 ((x : Int) / 1048576) 15 = n2) (b3 : bits BinOp.and IntKind.u32 ((x : Int) / 65536) 15 = n3)
    (b4 : bits BinOp.and IntKind.u32 ((x : Int) / 4096) 15 = n4) (b5 : bits BinOp.and IntKind.u32 ((x : Int) / 256) 15 = n5)
    (b6 : bits BinOp.and IntKind.u32 ((x : Int) / 16) 15 = n6) (b7 : bits BinOp.and IntKind.u32 (x : Int) 15 = n7)
    (d0 : ∀ w, (Instr.index 9 (.string { data := #[48, 49, 50, 51, 52, 53, 54, 55, 56, 57, 97, 98, 99, 100, 101, 102] }) (.int .u32 (n0 : Int))).run Tryz.prog w = .ok (.int .u8 c0.toNat) w)
    (d1 : ∀ w, (Instr.index 9 (.string { data := #[48, 49, 50, 51, 52, 53, 54, 55, 56, 57, 97, 98, 99, 100, 101, 102] }) (.int .u32 (n1 : Int))).run Tryz.prog w = .ok (.int .u8 c1.toNat) w)
    (d2 : ∀ w, (Instr.index 9 (.string { data := #[48, 49, 50, 51, 52, 53, 54, 55, 56, 57, 97, 98, 99, 100, 101, 102] }) (.int .u32 (n2 : Int))).run Tryz.prog w = .ok (.int .u8 c2.toNat) w)
    (d3 : ∀ w, (Instr.index 9 (.string { data := #[48, 49, 50, 51, 52, 53, 54, 55, 56, 57, 97, 98, 99, 100, 101, 102] }) (.int .u32 (n3 : Int))).run Tryz.prog w = .ok (.int .u8 c3.toNat) w)
    (d4 : ∀ w, (Instr.index 9 (.string { data := #[48, 49, 50, 51, 52, 53, 54, 55, 56, 57, 97, 98, 99, 100, 101, 102] }) (.int .u32 (n4 : Int))).run Tryz.prog w = .ok (.int .u8 c4.toNat) w)
    (d5 : ∀ w, (Instr.index 9 (.string { data := #[48, 49, 50, 51, 52, 53, 54, 55, 56, 57, 97, 98, 99, 100, 101, 102] }) (.int .u32 (n5 : Int))).run Tryz.prog w = .ok (.int .u8 c5.toNat) w)
    (d6 : ∀ w, (Instr.index 9 (.string { data := #[48, 49, 50, 51, 52, 53, 54, 55, 56, 57, 97, 98, 99, 100, 101, 102] }) (.int .u32 (n6 : Int))).run Tryz.prog w = .ok (.int .u8 c6.toNat) w)
    (d7 : ∀ w, (Instr.index 9 (.string { data := #[48, 49, 50, 51, 52, 53, 54, 55, 56, 57, 97, 98, 99, 100, 101, 102] }) (.int .u32 (n7 : Int))).run Tryz.prog w = .ok (.int .u8 c7.toNat) w) :
    Calls Tryz.prog 54 #[.int .u32 x] w fun e w' => e = .returned (.string ⟨#[c0, c1, c2, c3, c4, c5, c6, c7]⟩) ∧ Below w.heap.size w w' := by
  have hcv := conv8 c0 c1 c2 c3 c4 c5 c6 c7 w 136
  go_enter Tryz.func54, Tryz.ntmps54
  go_wp2
  go_rounds 9
  go_ret
  exact ⟨rfl, (Below.refl _ _).alloc (Nat.le_refl _) _⟩

set_option maxRecDepth 100000 in
theorem hex_any (x : Nat) (w : World) (hx : x < 4294967296) :
    Calls Tryz.prog 54 #[.int .u32 x] w fun e w' => e = .returned (.string (hexS x)) ∧ Below w.heap.size w w' :=
  hex_core x _ _ _ _ _ _ _ _ _ _ _ _ _ _ _ _ w (mask4 (x / 268435456) (by omega)) (mask4 (x / 16777216) (by omega)) (mask4 (x / 1048576) (by omega)) (mask4 (x / 65536) (by omega))
    (mask4 (x / 4096) (by omega)) (mask4 (x / 256) (by omega)) (mask4 (x / 16) (by omega)) (mask4 x hx) (digit_at _ (Nat.mod_lt _ (by decide))) (digit_at _ (Nat.mod_lt _ (by decide))) (digit_at _ (Nat.mod_lt _ (by decide))) (digit_at _ (Nat.mod_lt _ (by decide)))
    (digit_at _ (Nat.mod_lt _ (by decide))) (digit_at _ (Nat.mod_lt _ (by decide))) (digit_at _ (Nat.mod_lt _ (by decide))) (digit_at _ (Nat.mod_lt _ (by decide)))
end Go.Proofs.YtmlpkimbcjkbkaaGreatDoor
