/-
 THE WALK of the law ParseDeep: whatever the number, it returns true and writes to nothing that was there.
-/
import Derived.Test.YtmbfdkiejneheaaGreatDoorPaXJ
namespace Go.Proofs.YtmbfdkiejneheaaGreatDoor
open Go.RowKit

/-- n brackets around a number. -/
def deepS (n : Nat) : List UInt8 := List.replicate n 40 ++ 49 :: List.replicate n 41
def chkD (n : Nat) : Bool := match parseL (deepS n) with
 | .ok _ => decide (n < 50)
 | .error (p, c) => decide (50 ≤ n) && p == 50 && c == 14
theorem chkD_all : (List.range 101).all chkD = true := by kernel_rfl
theorem deep_is {n : Nat} (hn : n ≤ 100) : (n < 50 ∧ ∃ t, parseL (deepS n) = .ok t) ∨ (50 ≤ n ∧ parseL (deepS n) = .error (50, 14)) := by
 have h := List.all_eq_true.1 chkD_all n (List.mem_range.2 (by omega))
 unfold chkD at h
 cases hx : parseL (deepS n) with
 | ok t =>
  rw [hx] at h
  exact .inl ⟨by simpa using h, t, rfl⟩
 | error q =>
  rw [hx] at h
  obtain ⟨p, c⟩ := q
  simp only [Bool.and_eq_true, decide_eq_true_eq, beq_iff_eq] at h
  obtain ⟨⟨h1, rfl⟩, rfl⟩ := h
  exact .inr ⟨h1, rfl⟩
def repB (n : Nat) (c : UInt8) : ByteArray := ⟨(List.replicate n c).toArray⟩
theorem repB_zero (c : UInt8) : repB 0 c = ⟨#[]⟩ := rfl
theorem ba_app (x y : ByteArray) : (x ++ y).data.toList = x.data.toList ++ y.data.toList := by simp
theorem repB_succ (n : Nat) (c : UInt8) : repB n c ++ ⟨#[c]⟩ = repB (n + 1) c := by
 apply WideShapes.bytes_inj
 rw [show (repB n c ++ ⟨#[c]⟩).data.toList = (repB n c).data.toList ++ [c] from by simp]
 simp [repB, List.replicate_succ']
theorem repB_size (n : Nat) (c : UInt8) : (repB n c).size = n := by simp [repB, ByteArray.size]
theorem ba_ext {x y : ByteArray} (h : x.data.toList = y.data.toList) : x = y := WideShapes.bytes_inj h
theorem dS_zero (j : Nat) : repB j 40 ++ ⟨#[49]⟩ = repB j 40 ++ ⟨#[49]⟩ ++ repB 0 41 := ba_ext (by rw [ba_app, ba_app, ba_app]; simp [repB])
theorem dS_succ (j i : Nat) : repB j 40 ++ ⟨#[49]⟩ ++ repB i 41 ++ ⟨#[41]⟩ = repB j 40 ++ ⟨#[49]⟩ ++ repB (i + 1) 41 := by rw [← repB_succ]; exact ba_ext (by simp only [ba_app, List.append_assoc])
theorem dS_size (j i : Nat) : (repB j 40 ++ ⟨#[49]⟩ ++ repB i 41).size = j + 1 + i := by
 rw [← ba_sz, ba_app, ba_app, List.length_append, List.length_append, ba_sz, ba_sz (repB i 41), repB_size, repB_size]; rfl
theorem repB_all (k : Nat) : (repB k 40 ++ ⟨#[49]⟩ ++ repB k 41).data.toList = deepS k := by
 rw [ba_app, ba_app]; simp [repB, deepS]
set_option maxHeartbeats 8000000 in
set_option maxRecDepth 100000 in
theorem deep_walk (n : Int) (hn : -9223372036854775808 ≤ n ∧ n ≤ 9223372036854775807) (w : World) (htab : Tabs w) :
  Calls Tryz.prog 9 #[.int .i64 n] w fun e w' => e = .returned (.bool true) ∧ Below w.heap.size w w' := by
 have AW := kH fun W (hW : Below w.heap.size w W) => awake_any W (htab.next hW)
 have HB0 := kH (Below.refl w.heap.size w)
 clear htab
 by_cases h0 : n < 0 ∨ 100 < n
 ·
  rcases h0 with h0 | h0
  all_goals
   go_enter Tryz.func9, Tryz.ntmps9
   go_wp2_with fail
   refine (AW.out _ HB0.out).mono ?_
   rintro e w3 ⟨rfl, hb3⟩
   have HB3 := kH (HB0.out.trans (hb3.mono HB0.out.size))
   clear hb3 HB0
   go_wp2_with fail
   go_ret
   exact ⟨rfl, HB3.out⟩
 ·
  obtain ⟨k, rfl⟩ : ∃ k : Nat, n = (k : Int) := ⟨n.toNat, by omega⟩
  have hk : k ≤ 100 := by omega
  clear h0 hn
  go_enter Tryz.func9, Tryz.ntmps9
  go_wp2_with fail
  have HI : Hid (∀ g : Nat, ∃ j : Nat, j ≤ k ∧ True) := kH fun _ => ⟨0, Nat.zero_le _, trivial⟩
  clear HI
  go_loopg [3, 4] k (fun gk v3 v4 wr => ∃ j : Nat, j ≤ k ∧ gk = k - j ∧ v3 = .string (repB j 40) ∧ v4 = .int .i64 (j : Int) ∧ wr = w)
  case atStart => exact ⟨0, Nat.zero_le _, rfl, rfl, rfl, rfl⟩
  case round =>
   obtain ⟨j, hj, rfl, rfl, rfl, rfl⟩ := hrel
   by_cases hc : j < k
   ·
    have hci : (j : Int) < (k : Int) := by omega
    have hz := repB_size j 40
    have hz2 : (repB j 40).size + 1 ≤ 9223372036854775807 := by omega
    go_wp2_with fail
    go_roundg (k - (j + 1))
    case measure => omega
    case rel => exact ⟨j + 1, hc, rfl, by rw [repB_succ], by simp, rfl⟩
   ·
    obtain rfl : j = k := by omega
    clear hc
    have hz := repB_size j 40
    have hz2 : (repB j 40).size + 1 ≤ 9223372036854775807 := by omega
    go_wp2_with fail
    go_loopg [3, 5] j (fun gk v3 v5 wr2 => ∃ i : Nat, i ≤ j ∧ gk = j - i ∧ v3 = .string (repB j 40 ++ ⟨#[49]⟩ ++ repB i 41) ∧ v5 = .int .i64 (i : Int) ∧ wr2 = wr)
    case atStart => exact ⟨0, Nat.zero_le _, rfl, by rw [← dS_zero], rfl, rfl⟩
    case round =>
     obtain ⟨i, hi, rfl, rfl, rfl, rfl⟩ := hrel
     have hz3 := dS_size j i
     by_cases hc : i < j
     ·
      have hci : (i : Int) < (j : Int) := by omega
      have hz4 : (repB j 40 ++ ⟨#[49]⟩ ++ repB i 41).size + 1 ≤ 9223372036854775807 := by omega
      go_wp2_with fail
      go_roundg (j - (i + 1))
      case measure => omega
      case rel => exact ⟨i + 1, hc, rfl, by rw [dS_succ], by simp, rfl⟩
     ·
      obtain rfl : i = j := by omega
      clear hc
      have CP := kH fun W => parse_any (repB i 40 ++ ⟨#[49]⟩ ++ repB i 41) W (by omega)
      rw [repB_all] at CP
      rcases deep_is hk with ⟨h5, t, ht⟩ | ⟨h5, ht⟩
      ·
       rw [ht] at CP
       have h5i : (i : Int) < 50 := by omega
       have h5j : ¬ (50 : Int) ≤ (i : Int) := by omega
       go_wp2_with fail
       refine (CP.out _).mono ?_
       rintro e w2 ⟨hb2, n, rfl, tr2⟩
       have HB2 := kH (hb2.alloc hb2.size (nB n))
       clear hb2 tr2
       unfold An.val
       go_wp2_with fail
       refine (AW.out _ HB2.out).mono ?_
       rintro e w4 ⟨rfl, hb4⟩
       have HB4 := kH (HB2.out.trans (hb4.mono HB2.out.size))
       clear hb4 HB2
       go_wp2_with fail
       go_ret
       exact ⟨rfl, HB4.out⟩
      ·
       rw [ht] at CP
       have h5i : (50 : Int) ≤ (i : Int) := by omega
       go_wp2_with fail
       refine (CP.out _).mono ?_
       rintro e w2 ⟨hb2, rfl⟩
       have HB2 := kH (hb2.alloc hb2.size zN)
       clear hb2
       go_wp2_with fail
       refine (AW.out _ HB2.out).mono ?_
       rintro e w4 ⟨rfl, hb4⟩
       have HB4 := kH (HB2.out.trans (hb4.mono HB2.out.size))
       clear hb4 HB2
       go_wp2_with fail
       go_ret
       exact ⟨rfl, HB4.out⟩
end Go.Proofs.YtmbfdkiejneheaaGreatDoor
