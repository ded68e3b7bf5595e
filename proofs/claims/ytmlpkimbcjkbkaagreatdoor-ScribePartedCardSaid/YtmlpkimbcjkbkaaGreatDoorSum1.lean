/-
  CONTRACTS of sum's small functions and of the laws' own Cut: what each call answers, and that it writes to nothing that was there.
-/
import Derived.Test.YtmlpkimbcjkbkaaGreatDoorRows
import Derived.Test.YtmlpkimbcjkbkaaGreatDoorMath
import Derived.WalkKit
import Derived.WalkSpells
import Derived.WalkLawsBesides
import Derived.Lib.Hide
import Derived.Deep.RegionWith
import Derived.Lib.Strings
import Derived.Lib.IndexBytes
namespace Go.Proofs.YtmlpkimbcjkbkaaGreatDoor
open Go.RowKit

/-- At most k bytes of s. -/
def cutB (s : ByteArray) (k : Nat) : ByteArray := if k < s.size then s.extract 0 k else s
theorem cutB_size (s : ByteArray) (k : Nat) : (cutB s k).size ≤ k := by
  unfold cutB; split
  · simp; omega
  · omega

set_option maxHeartbeats 400000 in
theorem cut_any (s : ByteArray) (k : Nat) (w : World) (_hs : s.size ≤ maxLen) (_hk : k ≤ 100000) :
    Calls Tryz.prog 5 #[.string s, .int .i64 k] w fun e w' => e = .returned (.string (cutB s k)) ∧ w = w' := by
  unfold maxLen at _hs
  by_cases h : k < s.size
  · have e : cutB s k = s.extract 0 k := by unfold cutB; rw [if_pos h]
    rw [e]
    go_enter Tryz.func5, Tryz.ntmps5
    go_wp2
    go_ret
    exact ⟨rfl, rfl⟩
  · have e : cutB s k = s := by unfold cutB; rw [if_neg h]
    rw [e]
    go_enter Tryz.func5, Tryz.ntmps5
    go_wp2
    go_ret
    exact ⟨rfl, rfl⟩

/-- 'b<<16|a' and its lower 32 bits. -/
theorem packed (a b : Nat) (ha : a < 65536) (hb : b < 65536) : (bits BinOp.or IntKind.u64 ((b : Int) * 65536) a) % 4294967296 = ((Ad.num a b : Nat) : Int) := by
  have e : ((b : Int) * 65536) = ((b * 65536 : Nat) : Int) := by omega
  rw [e, u64_or_nat _ _ (by omega) (by omega), nat_join 16 (b * 65536) a (by omega) (by omega)]
  unfold Ad.num; omega
theorem ret_two {k : IntKind} {a b c d : Int} (h : a = c) (g : b = d) : Ending.returned (.agg #[.int k a, .int k b]) = .returned (.agg #[.int k c, .int k d]) := by rw [h, g]
theorem ret_int {k : IntKind} {a b : Int} (h : a = b) : Ending.returned (.int k a) = .returned (.int k b) := by rw [h]

set_option maxHeartbeats 400000 in
theorem value_any (a b : Nat) (w : World) (ha : a < 65536) (hb : b < 65536) :
    Calls Tryz.prog 31 #[.agg #[.int .u64 a, .int .u64 b]] w fun e w' => e = .returned (.int .u32 (Ad.num a b : Nat)) ∧ Below w.heap.size w w' := by
  go_enter Tryz.func31, Tryz.ntmps31
  go_wp2
  go_ret
  exact ⟨ret_int (packed a b ha hb), (Below.refl _ _).alloc (Nat.le_refl _) _⟩

set_option maxHeartbeats 400000 in
theorem new_any (w : World) :
    Calls Tryz.prog 29 #[] w fun e w' => e = .returned (.agg #[.int .u64 1, .int .u64 0]) ∧ Below w.heap.size w w' := by
  go_enter Tryz.func29, Tryz.ntmps29
  go_wp2
  exact bodyPost_ret (v := .agg #[.int .u64 1, .int .u64 0]) (by simp [results, Tryz.results29, go_sem]) rfl ⟨rfl, (Below.refl _ _).alloc (Nat.le_refl _) _⟩

theorem mask16 (x : Nat) (h : x < 4294967296) : bits BinOp.and IntKind.u32 (x : Int) 65535 = ((x % 65536 : Nat) : Int) := by
  have := u32_and_nat x 65535 h (by omega)
  rw [nat_mask16] at this
  exact this

/-- A box of two cells of the call's own. -/
def Box2 (w : World) (b : Nat) (x y : Value) : Prop :=
  w.cell? ⟨b, 0, none⟩ = some x ∧ w.cell? ⟨b, 1, none⟩ = some y ∧ w.frozen? ⟨b, 0, none⟩ = false ∧ w.frozen? ⟨b, 1, none⟩ = false

theorem Box2.set0 {w : World} {b : Nat} {x y : Value} (h : Box2 w b x y) (v : Value) : Box2 (w.setCell ⟨b, 0, none⟩ v) b v y :=
  ⟨World.cell?_setCell_same _ _ _ h.1, by rw [World.cell?_setCell_other _ _ _ _ (by simp)]; exact h.2.1, by simpa using h.2.2.1, by simpa using h.2.2.2⟩
theorem Box2.set1 {w : World} {b : Nat} {x y : Value} (h : Box2 w b x y) (v : Value) : Box2 (w.setCell ⟨b, 1, none⟩ v) b x v :=
  ⟨by rw [World.cell?_setCell_other _ _ _ _ (by simp)]; exact h.1, World.cell?_setCell_same _ _ _ h.2.1, by simpa using h.2.2.1, by simpa using h.2.2.2⟩
theorem Box2.other {w : World} {b c o : Nat} {x y : Value} (h : Box2 w b x y) (hne : c ≠ b) (v : Value) : Box2 (w.setCell ⟨c, o, none⟩ v) b x y :=
  ⟨by rw [World.cell?_setCell_other _ _ _ _ (by intro e; cases e; exact hne rfl)]; exact h.1, by rw [World.cell?_setCell_other _ _ _ _ (by intro e; cases e; exact hne rfl)]; exact h.2.1, by simpa using h.2.2.1, by simpa using h.2.2.2⟩
theorem Box2.drew {w : World} {b : Nat} {x y : Value} (h : Box2 w b x y) : Box2 w.drew b x y := h
theorem Box2.new (w : World) (x y : Value) (T : TypeId) : Box2 (w.alloc (.cells #[x, y] T)) w.heap.size x y :=
  ⟨by simp [go_sem], by simp [go_sem], by simp [go_sem], by simp [go_sem]⟩
theorem Box2.old {w : World} {b : Nat} {x y : Value} (h : Box2 w b x y) (hb : b < w.heap.size) (o : Obj) : Box2 (w.alloc o) b x y := by
  have hB := (Below.refl w.heap.size w).alloc (Nat.le_refl _) o
  exact ⟨(hB.cell (p := ⟨b, 0, none⟩) hb).trans h.1, (hB.cell (p := ⟨b, 1, none⟩) hb).trans h.2.1, (hB.frozen (p := ⟨b, 0, none⟩) hb).trans h.2.2.1, (hB.frozen (p := ⟨b, 1, none⟩) hb).trans h.2.2.2⟩
theorem Box2.below {w w1 : World} {b B : Nat} {x y : Value} (h : Box2 w b x y) (hB : Below B w w1) (hb : b < B) : Box2 w1 b x y :=
  ⟨(hB.cell (p := ⟨b, 0, none⟩) hb).trans h.1, (hB.cell (p := ⟨b, 1, none⟩) hb).trans h.2.1, (hB.frozen (p := ⟨b, 0, none⟩) hb).trans h.2.2.1, (hB.frozen (p := ⟨b, 1, none⟩) hb).trans h.2.2.2⟩
/-- A box lies in the heap. -/
theorem Box2.lt {w : World} {b : Nat} {x y : Value} (h : Box2 w b x y) : b < w.heap.size := by
  exact World.block_lt_of_cell? _ _ h.1
theorem wu64 (n : Nat) (h : n ≤ 281474976710656 * 8) : IntKind.u64.wrap (n : Int) = n := by rw [IntKind.wrap_u64]; omega

set_option maxHeartbeats 1000000 in
theorem block_any (a b : Nat) (t : ByteArray) (w : World) (ha : a < 65521) (hb : b < 65521) (ht : t.size ≤ 1048576) :
    Calls Tryz.prog 68 #[.agg #[.int .u64 a, .int .u64 b], .string t] w fun e w' => e = .returned (.agg #[.int .u64 (Ad.ha a t.data.toList : Nat), .int .u64 (Ad.hb a b t.data.toList : Nat)]) ∧ Below w.heap.size w w' := by
  go_enter Tryz.func68, Tryz.ntmps68
  go_wp2
  go_loopw [5, 8] (fun _ i wr => ∃ k : Nat, k ≤ t.size ∧ i = .int .i64 k ∧ Box2 wr w.heap.size (.int .u64 (Ad.px a t.data.toList k : Nat)) (.int .u64 (Ad.py a b t.data.toList k : Nat)) ∧
      Box2 wr (w.heap.size + 1) (.int .u64 0) (.int .u64 0) ∧ Below w.heap.size w wr)
    (fun _ i _ => t.size - (intOf i).toNat)
  case atStart =>
    refine ⟨0, Nat.zero_le _, rfl, ?_, ?_, ?_⟩
    · rw [Ad.px_zero, Ad.py_zero]
      exact (Box2.new _ _ _ _).old (by simp) _
    · have := Box2.new (w.alloc (Obj.cells #[Value.int IntKind.u64 ↑a, Value.int IntKind.u64 ↑b] 73)) (.int .u64 0) (.int .u64 0) 73
      simpa using this
    · exact ((Below.refl _ _).alloc (Nat.le_refl _) _).alloc (by simp) _
  case round =>
    obtain ⟨k, hk, rfl, ⟨hA, hB, hfA, hfB⟩, ⟨hC, hD, hfC, hfD⟩, hbel⟩ := hrel
    have bx := Ad.px_le a t.data.toList k (by omega) ha
    have bY := Ad.py_le a b t.data.toList k (by omega) ha hb
    by_cases hlt : k < t.size
    · have ex := Lib.hid (Ad.px_succ a t k hlt)
      have ey := Lib.hid (Ad.py_succ a b t k hlt)
      generalize Ad.px a t.data.toList k = x at *
      generalize Ad.py a b t.data.toList k = y at *
      have hc := t[k].toNat_lt
      go_wp2
      go_region
      rw [ex.out] at ey
      generalize t[k].toNat = c at *
      go_wp2
      go_roundw
      case rel =>
        refine ⟨k + 1, by omega, by go_num, ?_, ?_, ?_⟩
        · rw [ex.out, ey.out, Int.natCast_add y, Int.natCast_add]
          exact ((Box2.set0 ⟨hA, hB, hfA, hfB⟩ _).set1 _).drew
        · exact ((Box2.other ⟨hC, hD, hfC, hfD⟩ (by omega) _).other (by omega) _).drew
        · exact ((hbel.setCell (Nat.le_refl _) _).setCell (Nat.le_refl _) _).drew
      case measure => simp [intOf]; omega
    · have ek : k = t.size := by omega
      have ex := Lib.hid (Ad.px_end a t.data.toList)
      have ey := Lib.hid (Ad.py_end a b t.data.toList)
      rw [show t.data.toList.length = k from by simp [ek]] at ex ey
      generalize Ad.px a t.data.toList k = x at *
      generalize Ad.py a b t.data.toList k = y at *
      go_wp2
      have hq := (Box2.set0 (w := wr) (b := w.heap.size + 1) ⟨hC, hD, hfC, hfD⟩ (.int .u64 ((x : Int) % 65521))).set1 (.int .u64 ((y : Int) % 65521))
      refine bodyPost_ret (v := .agg #[.int .u64 ((x : Int) % 65521), .int .u64 ((y : Int) % 65521)]) (by simp [results, Tryz.results68, go_sem, hq.1, hq.2.1]) rfl ⟨?_, (hbel.setCell (by simp) _).setCell (by simp) _⟩
      exact ret_two (by rw [← ex.out]; omega) (by rw [← ey.out]; omega)

theorem add_step {a b : Nat} {u l : List UInt8} {B : Nat} {w w1 : World} {x y p q : Value} (q1 : Box2 w1 B x y) (q2 : Box2 w1 (B + 1) p q) (h3 : Below B w w1) :
    Box2 ((w1.setCell ⟨B, 0, none⟩ (.int .u64 (Ad.ha (Ad.ha a u) l : Nat))).setCell ⟨B, 1, none⟩ (.int .u64 (Ad.hb (Ad.ha a u) (Ad.hb a b u) l : Nat))) B (.int .u64 (Ad.ha a (u ++ l) : Nat)) (.int .u64 (Ad.hb a b (u ++ l) : Nat)) ∧
    Box2 ((w1.setCell ⟨B, 0, none⟩ (.int .u64 (Ad.ha (Ad.ha a u) l : Nat))).setCell ⟨B, 1, none⟩ (.int .u64 (Ad.hb (Ad.ha a u) (Ad.hb a b u) l : Nat))) (B + 1) p q ∧
    Below B w ((w1.setCell ⟨B, 0, none⟩ (.int .u64 (Ad.ha (Ad.ha a u) l : Nat))).setCell ⟨B, 1, none⟩ (.int .u64 (Ad.hb (Ad.ha a u) (Ad.hb a b u) l : Nat))) := by
  rw [Ad.ha_ha, Ad.hb_hb]
  exact ⟨(q1.set0 _).set1 _, (q2.other (by omega) _).other (by omega) _, (h3.setCell (Nat.le_refl _) _).setCell (Nat.le_refl _) _⟩

set_option maxHeartbeats 1000000 in
theorem add_any (a b : Nat) (t : ByteArray) (w : World) (ha : a < 65521) (hb : b < 65521) (_ht : t.size ≤ maxLen) :
    Calls Tryz.prog 30 #[.agg #[.int .u64 a, .int .u64 b], .string t] w fun e w' => e = .returned (.agg #[.int .u64 (Ad.ha a t.data.toList : Nat), .int .u64 (Ad.hb a b t.data.toList : Nat)]) ∧ Below w.heap.size w w' := by
  unfold maxLen at _ht
  go_enter Tryz.func30, Tryz.ntmps30
  go_wp2
  go_loopw [1, 5] (fun s _ wr => ∃ (u : List UInt8) (v : ByteArray), s = .string v ∧ u ++ v.data.toList = t.data.toList ∧ v.size ≤ t.size ∧ Box2 wr w.heap.size (.int .u64 (Ad.ha a u : Nat)) (.int .u64 (Ad.hb a b u : Nat)) ∧
      Box2 wr (w.heap.size + 1) (.int .u64 0) (.int .u64 0) ∧ Below w.heap.size w wr)
    (fun s _ _ => match s with | .string v => v.size | _ => 0)
  case atStart =>
    refine ⟨[], t, rfl, rfl, Nat.le_refl _, ?_, ?_, ?_⟩
    · rw [Ad.ha_nil a ha, Ad.hb_nil a b hb]
      exact (Box2.new _ _ _ _).old (by simp) _
    · have := Box2.new (w.alloc (Obj.cells #[Value.int IntKind.u64 ↑a, Value.int IntKind.u64 ↑b] 73)) (.int .u64 0) (.int .u64 0) 73
      simpa using this
    · exact ((Below.refl _ _).alloc (Nat.le_refl _) _).alloc (by simp) _
  case round =>
    obtain ⟨u, v, rfl, hu, hv, ⟨hA, hB, hfA, hfB⟩, ⟨hC, hD, hfC, hfD⟩, hbel⟩ := hrel
    have HU := Lib.hid hu
    clear hu
    by_cases hlt : 0 < v.size
    · by_cases hm : v.size ≤ 1048576
      · go_wp2
        have q1 : Box2 wr.drew w.heap.size _ _ := ⟨hA, hB, hfA, hfB⟩
        have q2 : Box2 wr.drew (w.heap.size + 1) _ _ := ⟨hC, hD, hfC, hfD⟩
        have hbd := hbel.drew
        go_region_with (go_at_call 68; refine (block_any _ _ _ _ (Ad.ha_lt _ _) (Ad.hb_lt _ _ _) (by exact hm)).mono ?_; rintro e w1 ⟨rfl, hb1⟩; have r1 := q1.below hb1 q1.lt; have r2 := q2.below hb1 q2.lt; obtain ⟨s1, s2, s3, s4⟩ := r1)
        have R := add_step (a := a) (b := b) (u := u) (l := v.data.toList) ⟨s1, s2, s3, s4⟩ r2 (hbd.trans (hb1.mono hbd.size))
        clear r2
        go_wp2
        go_roundw
        case rel => exact ⟨u ++ v.data.toList, ByteArray.empty, rfl, by rw [← HU.out]; simp, Nat.zero_le _, R.1, R.2.1, R.2.2⟩
        case measure => exact hlt
      · have hcut : v.data.toList.take 1048576 ++ (v.extract 1048576 v.size).data.toList = v.data.toList := by
          rw [Lib.extract_to_end]; exact List.take_append_drop _ _
        have hm1 : (1048576 : Int) < (v.size : Int) := by omega
        have hm2 : (1048576 : Int) ≤ (v.size : Int) := by omega
        have HC := Lib.hid hcut
        have hs1 : (v.extract 0 1048576).size ≤ 1048576 := by simp; omega
        have hs2 : (v.extract 1048576 v.size).size < v.size := by simp; omega
        have HS1 := Lib.hid hs1
        have HS2 := Lib.hid hs2
        clear hcut hs1 hs2
        go_wp2
        have q1 : Box2 wr.drew w.heap.size _ _ := ⟨hA, hB, hfA, hfB⟩
        have q2 : Box2 wr.drew (w.heap.size + 1) _ _ := ⟨hC, hD, hfC, hfD⟩
        have hbd := hbel.drew
        go_region_with (go_at_call 68; refine (block_any _ _ _ _ (Ad.ha_lt _ _) (Ad.hb_lt _ _ _) (by exact HS1.out)).mono ?_; rintro e w1 ⟨rfl, hb1⟩; have r1 := q1.below hb1 q1.lt; have r2 := q2.below hb1 q2.lt; obtain ⟨s1, s2, s3, s4⟩ := r1)
        have R := add_step (a := a) (b := b) (u := u) (l := v.data.toList.take 1048576) ⟨s1, s2, s3, s4⟩ r2 (hbd.trans (hb1.mono hbd.size))
        clear r2
        go_wp2
        go_roundw
        case rel => exact ⟨u ++ v.data.toList.take 1048576, v.extract 1048576 v.size, rfl, by rw [List.append_assoc, HC.out, HU.out], by have := HS2.out; omega, R.1, R.2.1, R.2.2⟩
        case measure => exact HS2.out
    · have hz : v.data.toList = [] := by
        have h0 : v.data.toList.length = v.size := by simp
        exact List.eq_nil_of_length_eq_zero (by omega)
      have HU2 : Hid (u = t.data.toList) := by have := HU.out; rw [hz, List.append_nil] at this; exact Lib.hid this
      clear hz
      go_wp2
      have hq := (Box2.set0 (w := wr) (b := w.heap.size + 1) ⟨hC, hD, hfC, hfD⟩ (.int .u64 (Ad.ha a u : Nat))).set1 (.int .u64 (Ad.hb a b u : Nat))
      refine bodyPost_ret (v := .agg #[.int .u64 (Ad.ha a u : Nat), .int .u64 (Ad.hb a b u : Nat)]) (by simp [results, Tryz.results30, go_sem, hq.1, hq.2.1]) rfl ⟨?_, (hbel.setCell (by simp) _).setCell (by simp) _⟩
      rw [HU2.out]
end Go.Proofs.YtmlpkimbcjkbkaaGreatDoor
