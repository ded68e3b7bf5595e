/-
 THE WALK of the law ParseBanned: whatever the number, it returns true and writes to nothing that was there.
-/
import Derived.Test.YtmbfdkiejneheaaGreatDoorPaXJ
namespace Go.Proofs.YtmbfdkiejneheaaGreatDoor
open Go.RowKit

theorem ban0 : parseL [66, 69, 71, 73, 78, 123, 120, 61, 103, 101, 116, 108, 105, 110, 101, 125] = .error (8, 10) := by kernel_rfl
theorem ban1 : parseL [66, 69, 71, 73, 78, 123, 120, 61, 115, 121, 115, 116, 101, 109, 40, 34, 120, 34, 41, 125] = .error (8, 10) := by kernel_rfl
theorem ban2 : parseL [66, 69, 71, 73, 78, 123, 120, 61, 99, 108, 111, 115, 101, 40, 102, 41, 125] = .error (8, 10) := by kernel_rfl
theorem ban3 : parseL [66, 69, 71, 73, 78, 123, 120, 61, 102, 102, 108, 117, 115, 104, 40, 41, 125] = .error (8, 10) := by kernel_rfl
theorem ban4 : parseL [66, 69, 71, 73, 78, 123, 120, 61, 115, 121, 115, 116, 105, 109, 101, 40, 41, 125] = .error (8, 10) := by kernel_rfl
theorem ban5 : parseL [66, 69, 71, 73, 78, 123, 120, 61, 115, 116, 114, 102, 116, 105, 109, 101, 40, 49, 41, 125] = .error (8, 10) := by kernel_rfl
theorem banP : parseL [123, 112, 114, 105, 110, 116, 32, 124, 32, 34, 115, 104, 34, 125] = .error (7, 10) := by kernel_rfl
theorem banS : parseL [123, 32, 115, 114, 97, 110, 100, 40, 41, 32, 125] = .error (2, 10) := by kernel_rfl
set_option maxHeartbeats 8000000 in
set_option maxRecDepth 100000 in
theorem banned_walk (n : Int) (hn : -9223372036854775808 ≤ n ∧ n ≤ 9223372036854775807) (w : World) (htab : Tabs w) :
  Calls Tryz.prog 7 #[.int .i64 n] w fun e w' => e = .returned (.bool true) ∧ Below w.heap.size w w' := by
 have AW := kH fun W (hW : Below w.heap.size w W) => awake_any W (htab.next hW)
 have HB0 := kH (Below.refl w.heap.size w)
 have C0 := kH fun W => parse_any ((⟨#[66, 69, 71, 73, 78, 123, 120, 61]⟩ : ByteArray) ++ ⟨#[103, 101, 116, 108, 105, 110, 101]⟩ ++ ⟨#[125]⟩) W (by decide)
 rw [show ((⟨#[66, 69, 71, 73, 78, 123, 120, 61]⟩ : ByteArray) ++ ⟨#[103, 101, 116, 108, 105, 110, 101]⟩ ++ ⟨#[125]⟩).data.toList = [66, 69, 71, 73, 78, 123, 120, 61, 103, 101, 116, 108, 105, 110, 101, 125] from by decide, ban0] at C0
 have C1 := kH fun W => parse_any ((⟨#[66, 69, 71, 73, 78, 123, 120, 61]⟩ : ByteArray) ++ ⟨#[115, 121, 115, 116, 101, 109, 40, 34, 120, 34, 41]⟩ ++ ⟨#[125]⟩) W (by decide)
 rw [show ((⟨#[66, 69, 71, 73, 78, 123, 120, 61]⟩ : ByteArray) ++ ⟨#[115, 121, 115, 116, 101, 109, 40, 34, 120, 34, 41]⟩ ++ ⟨#[125]⟩).data.toList = [66, 69, 71, 73, 78, 123, 120, 61, 115, 121, 115, 116, 101, 109, 40, 34, 120, 34, 41, 125] from by decide, ban1] at C1
 have C2 := kH fun W => parse_any ((⟨#[66, 69, 71, 73, 78, 123, 120, 61]⟩ : ByteArray) ++ ⟨#[99, 108, 111, 115, 101, 40, 102, 41]⟩ ++ ⟨#[125]⟩) W (by decide)
 rw [show ((⟨#[66, 69, 71, 73, 78, 123, 120, 61]⟩ : ByteArray) ++ ⟨#[99, 108, 111, 115, 101, 40, 102, 41]⟩ ++ ⟨#[125]⟩).data.toList = [66, 69, 71, 73, 78, 123, 120, 61, 99, 108, 111, 115, 101, 40, 102, 41, 125] from by decide, ban2] at C2
 have C3 := kH fun W => parse_any ((⟨#[66, 69, 71, 73, 78, 123, 120, 61]⟩ : ByteArray) ++ ⟨#[102, 102, 108, 117, 115, 104, 40, 41]⟩ ++ ⟨#[125]⟩) W (by decide)
 rw [show ((⟨#[66, 69, 71, 73, 78, 123, 120, 61]⟩ : ByteArray) ++ ⟨#[102, 102, 108, 117, 115, 104, 40, 41]⟩ ++ ⟨#[125]⟩).data.toList = [66, 69, 71, 73, 78, 123, 120, 61, 102, 102, 108, 117, 115, 104, 40, 41, 125] from by decide, ban3] at C3
 have C4 := kH fun W => parse_any ((⟨#[66, 69, 71, 73, 78, 123, 120, 61]⟩ : ByteArray) ++ ⟨#[115, 121, 115, 116, 105, 109, 101, 40, 41]⟩ ++ ⟨#[125]⟩) W (by decide)
 rw [show ((⟨#[66, 69, 71, 73, 78, 123, 120, 61]⟩ : ByteArray) ++ ⟨#[115, 121, 115, 116, 105, 109, 101, 40, 41]⟩ ++ ⟨#[125]⟩).data.toList = [66, 69, 71, 73, 78, 123, 120, 61, 115, 121, 115, 116, 105, 109, 101, 40, 41, 125] from by decide, ban4] at C4
 have C5 := kH fun W => parse_any ((⟨#[66, 69, 71, 73, 78, 123, 120, 61]⟩ : ByteArray) ++ ⟨#[115, 116, 114, 102, 116, 105, 109, 101, 40, 49, 41]⟩ ++ ⟨#[125]⟩) W (by decide)
 rw [show ((⟨#[66, 69, 71, 73, 78, 123, 120, 61]⟩ : ByteArray) ++ ⟨#[115, 116, 114, 102, 116, 105, 109, 101, 40, 49, 41]⟩ ++ ⟨#[125]⟩).data.toList = [66, 69, 71, 73, 78, 123, 120, 61, 115, 116, 114, 102, 116, 105, 109, 101, 40, 49, 41, 125] from by decide, ban5] at C5
 have CP := kH fun W => parse_any ⟨#[123, 112, 114, 105, 110, 116, 32, 124, 32, 34, 115, 104, 34, 125]⟩ W (by decide)
 rw [show (⟨#[123, 112, 114, 105, 110, 116, 32, 124, 32, 34, 115, 104, 34, 125]⟩ : ByteArray).data.toList = [123, 112, 114, 105, 110, 116, 32, 124, 32, 34, 115, 104, 34, 125] from rfl, banP] at CP
 have CS := kH fun W => parse_any ⟨#[123, 32, 115, 114, 97, 110, 100, 40, 41, 32, 125]⟩ W (by decide)
 rw [show (⟨#[123, 32, 115, 114, 97, 110, 100, 40, 41, 32, 125]⟩ : ByteArray).data.toList = [123, 32, 115, 114, 97, 110, 100, 40, 41, 32, 125] from rfl, banS] at CS
 clear htab
 have HB1 := kH (HB0.out.alloc (Nat.le_refl _) (.cells #[.string ⟨#[103, 101, 116, 108, 105, 110, 101]⟩, .string ⟨#[115, 121, 115, 116, 101, 109, 40, 34, 120, 34, 41]⟩, .string ⟨#[99, 108, 111, 115, 101, 40, 102, 41]⟩, .string ⟨#[102, 102, 108, 117, 115, 104, 40, 41]⟩, .string ⟨#[115, 121, 115, 116, 105, 109, 101, 40, 41]⟩, .string ⟨#[115, 116, 114, 102, 116, 105, 109, 101, 40, 49, 41]⟩] 9))
 by_cases h0 : n < 0 ∨ 6 ≤ n
 ·
  rcases h0 with h0 | h0
  all_goals
   go_enter Tryz.func7, Tryz.ntmps7
   go_wp2_with fail
   generalize w.alloc (.cells #[.string ⟨#[103, 101, 116, 108, 105, 110, 101]⟩, .string ⟨#[115, 121, 115, 116, 101, 109, 40, 34, 120, 34, 41]⟩, .string ⟨#[99, 108, 111, 115, 101, 40, 102, 41]⟩, .string ⟨#[102, 102, 108, 117, 115, 104, 40, 41]⟩, .string ⟨#[115, 121, 115, 116, 105, 109, 101, 40, 41]⟩, .string ⟨#[115, 116, 114, 102, 116, 105, 109, 101, 40, 49, 41]⟩] 9) = w1 at *
   refine (AW.out _ HB1.out).mono ?_
   rintro e w3 ⟨rfl, hb3⟩
   have HB3 := kH (HB1.out.trans (hb3.mono HB1.out.size))
   clear hb3 HB1
   go_wp2_with fail
   go_ret
   exact ⟨rfl, HB3.out⟩
 ·
  have h6 : n = 0 ∨ n = 1 ∨ n = 2 ∨ n = 3 ∨ n = 4 ∨ n = 5 := by omega
  clear h0 hn
  rcases h6 with rfl | rfl | rfl | rfl | rfl | rfl
  ·
   go_enter Tryz.func7, Tryz.ntmps7
   go_wp2_with fail
   generalize w.alloc (.cells #[.string ⟨#[103, 101, 116, 108, 105, 110, 101]⟩, .string ⟨#[115, 121, 115, 116, 101, 109, 40, 34, 120, 34, 41]⟩, .string ⟨#[99, 108, 111, 115, 101, 40, 102, 41]⟩, .string ⟨#[102, 102, 108, 117, 115, 104, 40, 41]⟩, .string ⟨#[115, 121, 115, 116, 105, 109, 101, 40, 41]⟩, .string ⟨#[115, 116, 114, 102, 116, 105, 109, 101, 40, 49, 41]⟩] 9) = w1 at *
   refine (C0.out _).mono ?_
   rintro e w2 ⟨hb2, rfl⟩
   have HB2 := kH ((HB1.out.trans (hb2.mono HB1.out.size)).alloc (HB1.out.trans (hb2.mono HB1.out.size)).size zN)
   clear hb2 HB1
   go_wp2_with fail
   generalize w2.alloc zN = w3 at *
   refine (CP.out _).mono ?_
   rintro e w4 ⟨hb4, rfl⟩
   have HB4 := kH ((HB2.out.trans (hb4.mono HB2.out.size)).alloc (HB2.out.trans (hb4.mono HB2.out.size)).size zN)
   clear hb4 HB2
   go_wp2_with fail
   generalize w4.alloc zN = w5 at *
   refine (CS.out _).mono ?_
   rintro e w6 ⟨hb6, rfl⟩
   have HB6 := kH ((HB4.out.trans (hb6.mono HB4.out.size)).alloc (HB4.out.trans (hb6.mono HB4.out.size)).size zN)
   clear hb6 HB4
   go_wp2_with fail
   generalize w6.alloc zN = w7 at *
   refine (AW.out _ HB6.out).mono ?_
   rintro e w8 ⟨rfl, hb8⟩
   have HB8 := kH (HB6.out.trans (hb8.mono HB6.out.size))
   clear hb8 HB6
   go_wp2_with fail
   go_ret
   exact ⟨rfl, HB8.out⟩
  ·
   go_enter Tryz.func7, Tryz.ntmps7
   go_wp2_with fail
   generalize w.alloc (.cells #[.string ⟨#[103, 101, 116, 108, 105, 110, 101]⟩, .string ⟨#[115, 121, 115, 116, 101, 109, 40, 34, 120, 34, 41]⟩, .string ⟨#[99, 108, 111, 115, 101, 40, 102, 41]⟩, .string ⟨#[102, 102, 108, 117, 115, 104, 40, 41]⟩, .string ⟨#[115, 121, 115, 116, 105, 109, 101, 40, 41]⟩, .string ⟨#[115, 116, 114, 102, 116, 105, 109, 101, 40, 49, 41]⟩] 9) = w1 at *
   refine (C1.out _).mono ?_
   rintro e w2 ⟨hb2, rfl⟩
   have HB2 := kH ((HB1.out.trans (hb2.mono HB1.out.size)).alloc (HB1.out.trans (hb2.mono HB1.out.size)).size zN)
   clear hb2 HB1
   go_wp2_with fail
   generalize w2.alloc zN = w3 at *
   refine (CP.out _).mono ?_
   rintro e w4 ⟨hb4, rfl⟩
   have HB4 := kH ((HB2.out.trans (hb4.mono HB2.out.size)).alloc (HB2.out.trans (hb4.mono HB2.out.size)).size zN)
   clear hb4 HB2
   go_wp2_with fail
   generalize w4.alloc zN = w5 at *
   refine (CS.out _).mono ?_
   rintro e w6 ⟨hb6, rfl⟩
   have HB6 := kH ((HB4.out.trans (hb6.mono HB4.out.size)).alloc (HB4.out.trans (hb6.mono HB4.out.size)).size zN)
   clear hb6 HB4
   go_wp2_with fail
   generalize w6.alloc zN = w7 at *
   refine (AW.out _ HB6.out).mono ?_
   rintro e w8 ⟨rfl, hb8⟩
   have HB8 := kH (HB6.out.trans (hb8.mono HB6.out.size))
   clear hb8 HB6
   go_wp2_with fail
   go_ret
   exact ⟨rfl, HB8.out⟩
  ·
   go_enter Tryz.func7, Tryz.ntmps7
   go_wp2_with fail
   generalize w.alloc (.cells #[.string ⟨#[103, 101, 116, 108, 105, 110, 101]⟩, .string ⟨#[115, 121, 115, 116, 101, 109, 40, 34, 120, 34, 41]⟩, .string ⟨#[99, 108, 111, 115, 101, 40, 102, 41]⟩, .string ⟨#[102, 102, 108, 117, 115, 104, 40, 41]⟩, .string ⟨#[115, 121, 115, 116, 105, 109, 101, 40, 41]⟩, .string ⟨#[115, 116, 114, 102, 116, 105, 109, 101, 40, 49, 41]⟩] 9) = w1 at *
   refine (C2.out _).mono ?_
   rintro e w2 ⟨hb2, rfl⟩
   have HB2 := kH ((HB1.out.trans (hb2.mono HB1.out.size)).alloc (HB1.out.trans (hb2.mono HB1.out.size)).size zN)
   clear hb2 HB1
   go_wp2_with fail
   generalize w2.alloc zN = w3 at *
   refine (CP.out _).mono ?_
   rintro e w4 ⟨hb4, rfl⟩
   have HB4 := kH ((HB2.out.trans (hb4.mono HB2.out.size)).alloc (HB2.out.trans (hb4.mono HB2.out.size)).size zN)
   clear hb4 HB2
   go_wp2_with fail
   generalize w4.alloc zN = w5 at *
   refine (CS.out _).mono ?_
   rintro e w6 ⟨hb6, rfl⟩
   have HB6 := kH ((HB4.out.trans (hb6.mono HB4.out.size)).alloc (HB4.out.trans (hb6.mono HB4.out.size)).size zN)
   clear hb6 HB4
   go_wp2_with fail
   generalize w6.alloc zN = w7 at *
   refine (AW.out _ HB6.out).mono ?_
   rintro e w8 ⟨rfl, hb8⟩
   have HB8 := kH (HB6.out.trans (hb8.mono HB6.out.size))
   clear hb8 HB6
   go_wp2_with fail
   go_ret
   exact ⟨rfl, HB8.out⟩
  ·
   go_enter Tryz.func7, Tryz.ntmps7
   go_wp2_with fail
   generalize w.alloc (.cells #[.string ⟨#[103, 101, 116, 108, 105, 110, 101]⟩, .string ⟨#[115, 121, 115, 116, 101, 109, 40, 34, 120, 34, 41]⟩, .string ⟨#[99, 108, 111, 115, 101, 40, 102, 41]⟩, .string ⟨#[102, 102, 108, 117, 115, 104, 40, 41]⟩, .string ⟨#[115, 121, 115, 116, 105, 109, 101, 40, 41]⟩, .string ⟨#[115, 116, 114, 102, 116, 105, 109, 101, 40, 49, 41]⟩] 9) = w1 at *
   refine (C3.out _).mono ?_
   rintro e w2 ⟨hb2, rfl⟩
   have HB2 := kH ((HB1.out.trans (hb2.mono HB1.out.size)).alloc (HB1.out.trans (hb2.mono HB1.out.size)).size zN)
   clear hb2 HB1
   go_wp2_with fail
   generalize w2.alloc zN = w3 at *
   refine (CP.out _).mono ?_
   rintro e w4 ⟨hb4, rfl⟩
   have HB4 := kH ((HB2.out.trans (hb4.mono HB2.out.size)).alloc (HB2.out.trans (hb4.mono HB2.out.size)).size zN)
   clear hb4 HB2
   go_wp2_with fail
   generalize w4.alloc zN = w5 at *
   refine (CS.out _).mono ?_
   rintro e w6 ⟨hb6, rfl⟩
   have HB6 := kH ((HB4.out.trans (hb6.mono HB4.out.size)).alloc (HB4.out.trans (hb6.mono HB4.out.size)).size zN)
   clear hb6 HB4
   go_wp2_with fail
   generalize w6.alloc zN = w7 at *
   refine (AW.out _ HB6.out).mono ?_
   rintro e w8 ⟨rfl, hb8⟩
   have HB8 := kH (HB6.out.trans (hb8.mono HB6.out.size))
   clear hb8 HB6
   go_wp2_with fail
   go_ret
   exact ⟨rfl, HB8.out⟩
  ·
   go_enter Tryz.func7, Tryz.ntmps7
   go_wp2_with fail
   generalize w.alloc (.cells #[.string ⟨#[103, 101, 116, 108, 105, 110, 101]⟩, .string ⟨#[115, 121, 115, 116, 101, 109, 40, 34, 120, 34, 41]⟩, .string ⟨#[99, 108, 111, 115, 101, 40, 102, 41]⟩, .string ⟨#[102, 102, 108, 117, 115, 104, 40, 41]⟩, .string ⟨#[115, 121, 115, 116, 105, 109, 101, 40, 41]⟩, .string ⟨#[115, 116, 114, 102, 116, 105, 109, 101, 40, 49, 41]⟩] 9) = w1 at *
   refine (C4.out _).mono ?_
   rintro e w2 ⟨hb2, rfl⟩
   have HB2 := kH ((HB1.out.trans (hb2.mono HB1.out.size)).alloc (HB1.out.trans (hb2.mono HB1.out.size)).size zN)
   clear hb2 HB1
   go_wp2_with fail
   generalize w2.alloc zN = w3 at *
   refine (CP.out _).mono ?_
   rintro e w4 ⟨hb4, rfl⟩
   have HB4 := kH ((HB2.out.trans (hb4.mono HB2.out.size)).alloc (HB2.out.trans (hb4.mono HB2.out.size)).size zN)
   clear hb4 HB2
   go_wp2_with fail
   generalize w4.alloc zN = w5 at *
   refine (CS.out _).mono ?_
   rintro e w6 ⟨hb6, rfl⟩
   have HB6 := kH ((HB4.out.trans (hb6.mono HB4.out.size)).alloc (HB4.out.trans (hb6.mono HB4.out.size)).size zN)
   clear hb6 HB4
   go_wp2_with fail
   generalize w6.alloc zN = w7 at *
   refine (AW.out _ HB6.out).mono ?_
   rintro e w8 ⟨rfl, hb8⟩
   have HB8 := kH (HB6.out.trans (hb8.mono HB6.out.size))
   clear hb8 HB6
   go_wp2_with fail
   go_ret
   exact ⟨rfl, HB8.out⟩
  ·
   go_enter Tryz.func7, Tryz.ntmps7
   go_wp2_with fail
   generalize w.alloc (.cells #[.string ⟨#[103, 101, 116, 108, 105, 110, 101]⟩, .string ⟨#[115, 121, 115, 116, 101, 109, 40, 34, 120, 34, 41]⟩, .string ⟨#[99, 108, 111, 115, 101, 40, 102, 41]⟩, .string ⟨#[102, 102, 108, 117, 115, 104, 40, 41]⟩, .string ⟨#[115, 121, 115, 116, 105, 109, 101, 40, 41]⟩, .string ⟨#[115, 116, 114, 102, 116, 105, 109, 101, 40, 49, 41]⟩] 9) = w1 at *
   refine (C5.out _).mono ?_
   rintro e w2 ⟨hb2, rfl⟩
   have HB2 := kH ((HB1.out.trans (hb2.mono HB1.out.size)).alloc (HB1.out.trans (hb2.mono HB1.out.size)).size zN)
   clear hb2 HB1
   go_wp2_with fail
   generalize w2.alloc zN = w3 at *
   refine (CP.out _).mono ?_
   rintro e w4 ⟨hb4, rfl⟩
   have HB4 := kH ((HB2.out.trans (hb4.mono HB2.out.size)).alloc (HB2.out.trans (hb4.mono HB2.out.size)).size zN)
   clear hb4 HB2
   go_wp2_with fail
   generalize w4.alloc zN = w5 at *
   refine (CS.out _).mono ?_
   rintro e w6 ⟨hb6, rfl⟩
   have HB6 := kH ((HB4.out.trans (hb6.mono HB4.out.size)).alloc (HB4.out.trans (hb6.mono HB4.out.size)).size zN)
   clear hb6 HB4
   go_wp2_with fail
   generalize w6.alloc zN = w7 at *
   refine (AW.out _ HB6.out).mono ?_
   rintro e w8 ⟨rfl, hb8⟩
   have HB8 := kH (HB6.out.trans (hb8.mono HB6.out.size))
   clear hb8 HB6
   go_wp2_with fail
   go_ret
   exact ⟨rfl, HB8.out⟩
end Go.Proofs.YtmbfdkiejneheaaGreatDoor
