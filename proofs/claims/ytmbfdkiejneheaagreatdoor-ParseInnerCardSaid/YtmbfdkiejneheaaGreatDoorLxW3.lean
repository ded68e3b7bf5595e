/-
 CONTRACT of layer 11's nameKind: what a name is, by itself or by what stands behind it. It reads alone.
-/
import Derived.Test.YtmbfdkiejneheaaGreatDoorLxW2
namespace Go.Proofs.YtmbfdkiejneheaaGreatDoor
open Go.RowKit

/-- Is a text this one? Either it is, or the test says no. -/
theorem is_or (t : ByteArray) (l : List UInt8) : t = ⟨l.toArray⟩ ∨ ((t.toList == l) = false ∧ ¬ t.data.toList = l) := by
 by_cases h : t.data.toList = l
 ·
  exact .inl (ba_of t l h)
 ·
  exact .inr ⟨by rw [ByteArray.toList_eq]; exact beq_eq_false_iff_ne.2 h, h⟩
def KdPost (n : Nat) (w : World) (e : Ending) (w' : World) : Prop := e = .returned (.int .i64 (n : Int)) ∧ w' = w
theorem kind_0 (b : ByteArray) (w : World) : Calls Tryz.prog 33 #[.string ⟨#[66, 69, 71, 73, 78]⟩, .string b] w (KdPost 7 w) := by
 go_enter Tryz.func33, Tryz.ntmps33
 go_wp2
 go_ret
 exact ⟨rfl, rfl⟩
theorem kind_1 (b : ByteArray) (w : World) : Calls Tryz.prog 33 #[.string ⟨#[69, 78, 68]⟩, .string b] w (KdPost 7 w) := by
 go_enter Tryz.func33, Tryz.ntmps33
 go_wp2
 go_ret
 exact ⟨rfl, rfl⟩
theorem kind_2 (b : ByteArray) (w : World) : Calls Tryz.prog 33 #[.string ⟨#[102, 117, 110, 99, 116, 105, 111, 110]⟩, .string b] w (KdPost 7 w) := by
 go_enter Tryz.func33, Tryz.ntmps33
 go_wp2
 go_ret
 exact ⟨rfl, rfl⟩
theorem kind_3 (b : ByteArray) (w : World) : Calls Tryz.prog 33 #[.string ⟨#[105, 102]⟩, .string b] w (KdPost 7 w) := by
 go_enter Tryz.func33, Tryz.ntmps33
 go_wp2
 go_ret
 exact ⟨rfl, rfl⟩
theorem kind_4 (b : ByteArray) (w : World) : Calls Tryz.prog 33 #[.string ⟨#[101, 108, 115, 101]⟩, .string b] w (KdPost 7 w) := by
 go_enter Tryz.func33, Tryz.ntmps33
 go_wp2
 go_ret
 exact ⟨rfl, rfl⟩
theorem kind_5 (b : ByteArray) (w : World) : Calls Tryz.prog 33 #[.string ⟨#[119, 104, 105, 108, 101]⟩, .string b] w (KdPost 7 w) := by
 go_enter Tryz.func33, Tryz.ntmps33
 go_wp2
 go_ret
 exact ⟨rfl, rfl⟩
theorem kind_6 (b : ByteArray) (w : World) : Calls Tryz.prog 33 #[.string ⟨#[102, 111, 114]⟩, .string b] w (KdPost 7 w) := by
 go_enter Tryz.func33, Tryz.ntmps33
 go_wp2
 go_ret
 exact ⟨rfl, rfl⟩
theorem kind_7 (b : ByteArray) (w : World) : Calls Tryz.prog 33 #[.string ⟨#[105, 110]⟩, .string b] w (KdPost 7 w) := by
 go_enter Tryz.func33, Tryz.ntmps33
 go_wp2
 go_ret
 exact ⟨rfl, rfl⟩
theorem kind_8 (b : ByteArray) (w : World) : Calls Tryz.prog 33 #[.string ⟨#[98, 114, 101, 97, 107]⟩, .string b] w (KdPost 7 w) := by
 go_enter Tryz.func33, Tryz.ntmps33
 go_wp2
 go_ret
 exact ⟨rfl, rfl⟩
theorem kind_9 (b : ByteArray) (w : World) : Calls Tryz.prog 33 #[.string ⟨#[99, 111, 110, 116, 105, 110, 117, 101]⟩, .string b] w (KdPost 7 w) := by
 go_enter Tryz.func33, Tryz.ntmps33
 go_wp2
 go_ret
 exact ⟨rfl, rfl⟩
theorem kind_10 (b : ByteArray) (w : World) : Calls Tryz.prog 33 #[.string ⟨#[110, 101, 120, 116]⟩, .string b] w (KdPost 7 w) := by
 go_enter Tryz.func33, Tryz.ntmps33
 go_wp2
 go_ret
 exact ⟨rfl, rfl⟩
theorem kind_11 (b : ByteArray) (w : World) : Calls Tryz.prog 33 #[.string ⟨#[101, 120, 105, 116]⟩, .string b] w (KdPost 7 w) := by
 go_enter Tryz.func33, Tryz.ntmps33
 go_wp2
 go_ret
 exact ⟨rfl, rfl⟩
theorem kind_12 (b : ByteArray) (w : World) : Calls Tryz.prog 33 #[.string ⟨#[114, 101, 116, 117, 114, 110]⟩, .string b] w (KdPost 7 w) := by
 go_enter Tryz.func33, Tryz.ntmps33
 go_wp2
 go_ret
 exact ⟨rfl, rfl⟩
theorem kind_13 (b : ByteArray) (w : World) : Calls Tryz.prog 33 #[.string ⟨#[100, 101, 108, 101, 116, 101]⟩, .string b] w (KdPost 7 w) := by
 go_enter Tryz.func33, Tryz.ntmps33
 go_wp2
 go_ret
 exact ⟨rfl, rfl⟩
theorem kind_14 (b : ByteArray) (w : World) : Calls Tryz.prog 33 #[.string ⟨#[112, 114, 105, 110, 116]⟩, .string b] w (KdPost 7 w) := by
 go_enter Tryz.func33, Tryz.ntmps33
 go_wp2
 go_ret
 exact ⟨rfl, rfl⟩
theorem kind_15 (b : ByteArray) (w : World) : Calls Tryz.prog 33 #[.string ⟨#[112, 114, 105, 110, 116, 102]⟩, .string b] w (KdPost 7 w) := by
 go_enter Tryz.func33, Tryz.ntmps33
 go_wp2
 go_ret
 exact ⟨rfl, rfl⟩
theorem kind_16 (b : ByteArray) (w : World) : Calls Tryz.prog 33 #[.string ⟨#[108, 101, 110, 103, 116, 104]⟩, .string b] w (KdPost 9 w) := by
 go_enter Tryz.func33, Tryz.ntmps33
 go_wp2
 go_ret
 exact ⟨rfl, rfl⟩
theorem kind_17 (b : ByteArray) (w : World) : Calls Tryz.prog 33 #[.string ⟨#[115, 117, 98, 115, 116, 114]⟩, .string b] w (KdPost 9 w) := by
 go_enter Tryz.func33, Tryz.ntmps33
 go_wp2
 go_ret
 exact ⟨rfl, rfl⟩
theorem kind_18 (b : ByteArray) (w : World) : Calls Tryz.prog 33 #[.string ⟨#[105, 110, 100, 101, 120]⟩, .string b] w (KdPost 9 w) := by
 go_enter Tryz.func33, Tryz.ntmps33
 go_wp2
 go_ret
 exact ⟨rfl, rfl⟩
theorem kind_19 (b : ByteArray) (w : World) : Calls Tryz.prog 33 #[.string ⟨#[115, 112, 108, 105, 116]⟩, .string b] w (KdPost 9 w) := by
 go_enter Tryz.func33, Tryz.ntmps33
 go_wp2
 go_ret
 exact ⟨rfl, rfl⟩
theorem kind_20 (b : ByteArray) (w : World) : Calls Tryz.prog 33 #[.string ⟨#[115, 117, 98]⟩, .string b] w (KdPost 9 w) := by
 go_enter Tryz.func33, Tryz.ntmps33
 go_wp2
 go_ret
 exact ⟨rfl, rfl⟩
theorem kind_21 (b : ByteArray) (w : World) : Calls Tryz.prog 33 #[.string ⟨#[103, 115, 117, 98]⟩, .string b] w (KdPost 9 w) := by
 go_enter Tryz.func33, Tryz.ntmps33
 go_wp2
 go_ret
 exact ⟨rfl, rfl⟩
theorem kind_22 (b : ByteArray) (w : World) : Calls Tryz.prog 33 #[.string ⟨#[109, 97, 116, 99, 104]⟩, .string b] w (KdPost 9 w) := by
 go_enter Tryz.func33, Tryz.ntmps33
 go_wp2
 go_ret
 exact ⟨rfl, rfl⟩
theorem kind_23 (b : ByteArray) (w : World) : Calls Tryz.prog 33 #[.string ⟨#[116, 111, 108, 111, 119, 101, 114]⟩, .string b] w (KdPost 9 w) := by
 go_enter Tryz.func33, Tryz.ntmps33
 go_wp2
 go_ret
 exact ⟨rfl, rfl⟩
theorem kind_24 (b : ByteArray) (w : World) : Calls Tryz.prog 33 #[.string ⟨#[116, 111, 117, 112, 112, 101, 114]⟩, .string b] w (KdPost 9 w) := by
 go_enter Tryz.func33, Tryz.ntmps33
 go_wp2
 go_ret
 exact ⟨rfl, rfl⟩
theorem kind_25 (b : ByteArray) (w : World) : Calls Tryz.prog 33 #[.string ⟨#[105, 110, 116]⟩, .string b] w (KdPost 9 w) := by
 go_enter Tryz.func33, Tryz.ntmps33
 go_wp2
 go_ret
 exact ⟨rfl, rfl⟩
theorem kind_26 (b : ByteArray) (w : World) : Calls Tryz.prog 33 #[.string ⟨#[115, 112, 114, 105, 110, 116, 102]⟩, .string b] w (KdPost 9 w) := by
 go_enter Tryz.func33, Tryz.ntmps33
 go_wp2
 go_ret
 exact ⟨rfl, rfl⟩
theorem kind_27 (b : ByteArray) (w : World) : Calls Tryz.prog 33 #[.string ⟨#[114, 97, 110, 100]⟩, .string b] w (KdPost 9 w) := by
 go_enter Tryz.func33, Tryz.ntmps33
 go_wp2
 go_ret
 exact ⟨rfl, rfl⟩
theorem kind_28 (b : ByteArray) (w : World) : Calls Tryz.prog 33 #[.string ⟨#[115, 114, 97, 110, 100]⟩, .string b] w (KdPost 9 w) := by
 go_enter Tryz.func33, Tryz.ntmps33
 go_wp2
 go_ret
 exact ⟨rfl, rfl⟩
theorem kind_29 (b : ByteArray) (w : World) : Calls Tryz.prog 33 #[.string ⟨#[103, 101, 116, 108, 105, 110, 101]⟩, .string b] w (KdPost 10 w) := by
 go_enter Tryz.func33, Tryz.ntmps33
 go_wp2
 go_ret
 exact ⟨rfl, rfl⟩
theorem kind_30 (b : ByteArray) (w : World) : Calls Tryz.prog 33 #[.string ⟨#[115, 121, 115, 116, 101, 109]⟩, .string b] w (KdPost 10 w) := by
 go_enter Tryz.func33, Tryz.ntmps33
 go_wp2
 go_ret
 exact ⟨rfl, rfl⟩
theorem kind_31 (b : ByteArray) (w : World) : Calls Tryz.prog 33 #[.string ⟨#[99, 108, 111, 115, 101]⟩, .string b] w (KdPost 10 w) := by
 go_enter Tryz.func33, Tryz.ntmps33
 go_wp2
 go_ret
 exact ⟨rfl, rfl⟩
theorem kind_32 (b : ByteArray) (w : World) : Calls Tryz.prog 33 #[.string ⟨#[102, 102, 108, 117, 115, 104]⟩, .string b] w (KdPost 10 w) := by
 go_enter Tryz.func33, Tryz.ntmps33
 go_wp2
 go_ret
 exact ⟨rfl, rfl⟩
theorem kind_33 (b : ByteArray) (w : World) : Calls Tryz.prog 33 #[.string ⟨#[115, 121, 115, 116, 105, 109, 101]⟩, .string b] w (KdPost 10 w) := by
 go_enter Tryz.func33, Tryz.ntmps33
 go_wp2
 go_ret
 exact ⟨rfl, rfl⟩
theorem kind_34 (b : ByteArray) (w : World) : Calls Tryz.prog 33 #[.string ⟨#[115, 116, 114, 102, 116, 105, 109, 101]⟩, .string b] w (KdPost 10 w) := by
 go_enter Tryz.func33, Tryz.ntmps33
 go_wp2
 go_ret
 exact ⟨rfl, rfl⟩
set_option maxHeartbeats 2000000 in
theorem kind_true (a b : ByteArray) (w : World)
  (h0 : (a.toList == [66, 69, 71, 73, 78]) = false)
  (h1 : (a.toList == [69, 78, 68]) = false)
  (h2 : (a.toList == [102, 117, 110, 99, 116, 105, 111, 110]) = false)
  (h3 : (a.toList == [105, 102]) = false)
  (h4 : (a.toList == [101, 108, 115, 101]) = false)
  (h5 : (a.toList == [119, 104, 105, 108, 101]) = false)
  (h6 : (a.toList == [102, 111, 114]) = false)
  (h7 : (a.toList == [105, 110]) = false)
  (h8 : (a.toList == [98, 114, 101, 97, 107]) = false)
  (h9 : (a.toList == [99, 111, 110, 116, 105, 110, 117, 101]) = false)
  (h10 : (a.toList == [110, 101, 120, 116]) = false)
  (h11 : (a.toList == [101, 120, 105, 116]) = false)
  (h12 : (a.toList == [114, 101, 116, 117, 114, 110]) = false)
  (h13 : (a.toList == [100, 101, 108, 101, 116, 101]) = false)
  (h14 : (a.toList == [112, 114, 105, 110, 116]) = false)
  (h15 : (a.toList == [112, 114, 105, 110, 116, 102]) = false)
  (h16 : (a.toList == [108, 101, 110, 103, 116, 104]) = false)
  (h17 : (a.toList == [115, 117, 98, 115, 116, 114]) = false)
  (h18 : (a.toList == [105, 110, 100, 101, 120]) = false)
  (h19 : (a.toList == [115, 112, 108, 105, 116]) = false)
  (h20 : (a.toList == [115, 117, 98]) = false)
  (h21 : (a.toList == [103, 115, 117, 98]) = false)
  (h22 : (a.toList == [109, 97, 116, 99, 104]) = false)
  (h23 : (a.toList == [116, 111, 108, 111, 119, 101, 114]) = false)
  (h24 : (a.toList == [116, 111, 117, 112, 112, 101, 114]) = false)
  (h25 : (a.toList == [105, 110, 116]) = false)
  (h26 : (a.toList == [115, 112, 114, 105, 110, 116, 102]) = false)
  (h27 : (a.toList == [114, 97, 110, 100]) = false)
  (h28 : (a.toList == [115, 114, 97, 110, 100]) = false)
  (h29 : (a.toList == [103, 101, 116, 108, 105, 110, 101]) = false)
  (h30 : (a.toList == [115, 121, 115, 116, 101, 109]) = false)
  (h31 : (a.toList == [99, 108, 111, 115, 101]) = false)
  (h32 : (a.toList == [102, 102, 108, 117, 115, 104]) = false)
  (h33 : (a.toList == [115, 121, 115, 116, 105, 109, 101]) = false)
  (h34 : (a.toList == [115, 116, 114, 102, 116, 105, 109, 101]) = false)
  (hb : decide (b.data.toList.head? = some 40) = true) : Calls Tryz.prog 33 #[.string a, .string b] w (KdPost 6 w) := by
 have C := kH fun W => hp_is b 40 true hb W
 clear hb
 go_enter Tryz.func33, Tryz.ntmps33
 go_wp2_with ((with_reducible refine (C.out _).mono ?_); rintro e w1 ⟨rfl, rfl⟩)
 go_ret
 exact ⟨rfl, rfl⟩
set_option maxHeartbeats 2000000 in
theorem kind_false (a b : ByteArray) (w : World)
  (h0 : (a.toList == [66, 69, 71, 73, 78]) = false)
  (h1 : (a.toList == [69, 78, 68]) = false)
  (h2 : (a.toList == [102, 117, 110, 99, 116, 105, 111, 110]) = false)
  (h3 : (a.toList == [105, 102]) = false)
  (h4 : (a.toList == [101, 108, 115, 101]) = false)
  (h5 : (a.toList == [119, 104, 105, 108, 101]) = false)
  (h6 : (a.toList == [102, 111, 114]) = false)
  (h7 : (a.toList == [105, 110]) = false)
  (h8 : (a.toList == [98, 114, 101, 97, 107]) = false)
  (h9 : (a.toList == [99, 111, 110, 116, 105, 110, 117, 101]) = false)
  (h10 : (a.toList == [110, 101, 120, 116]) = false)
  (h11 : (a.toList == [101, 120, 105, 116]) = false)
  (h12 : (a.toList == [114, 101, 116, 117, 114, 110]) = false)
  (h13 : (a.toList == [100, 101, 108, 101, 116, 101]) = false)
  (h14 : (a.toList == [112, 114, 105, 110, 116]) = false)
  (h15 : (a.toList == [112, 114, 105, 110, 116, 102]) = false)
  (h16 : (a.toList == [108, 101, 110, 103, 116, 104]) = false)
  (h17 : (a.toList == [115, 117, 98, 115, 116, 114]) = false)
  (h18 : (a.toList == [105, 110, 100, 101, 120]) = false)
  (h19 : (a.toList == [115, 112, 108, 105, 116]) = false)
  (h20 : (a.toList == [115, 117, 98]) = false)
  (h21 : (a.toList == [103, 115, 117, 98]) = false)
  (h22 : (a.toList == [109, 97, 116, 99, 104]) = false)
  (h23 : (a.toList == [116, 111, 108, 111, 119, 101, 114]) = false)
  (h24 : (a.toList == [116, 111, 117, 112, 112, 101, 114]) = false)
  (h25 : (a.toList == [105, 110, 116]) = false)
  (h26 : (a.toList == [115, 112, 114, 105, 110, 116, 102]) = false)
  (h27 : (a.toList == [114, 97, 110, 100]) = false)
  (h28 : (a.toList == [115, 114, 97, 110, 100]) = false)
  (h29 : (a.toList == [103, 101, 116, 108, 105, 110, 101]) = false)
  (h30 : (a.toList == [115, 121, 115, 116, 101, 109]) = false)
  (h31 : (a.toList == [99, 108, 111, 115, 101]) = false)
  (h32 : (a.toList == [102, 102, 108, 117, 115, 104]) = false)
  (h33 : (a.toList == [115, 121, 115, 116, 105, 109, 101]) = false)
  (h34 : (a.toList == [115, 116, 114, 102, 116, 105, 109, 101]) = false)
  (hb : decide (b.data.toList.head? = some 40) = false) : Calls Tryz.prog 33 #[.string a, .string b] w (KdPost 5 w) := by
 have C := kH fun W => hp_is b 40 false hb W
 clear hb
 go_enter Tryz.func33, Tryz.ntmps33
 go_wp2_with ((with_reducible refine (C.out _).mono ?_); rintro e w1 ⟨rfl, rfl⟩)
 go_ret
 exact ⟨rfl, rfl⟩
theorem kind_any (a b : ByteArray) (w : World) : Calls Tryz.prog 33 #[.string a, .string b] w fun e w' => e = .returned (.int .i64 (kindL a.data.toList b.data.toList : Nat)) ∧ w' = w := by
 show Calls Tryz.prog 33 #[.string a, .string b] w (KdPost (kindL a.data.toList b.data.toList) w)
 rcases is_or a [66, 69, 71, 73, 78] with h | ⟨n0, m0⟩
 ·
  subst h
  rw [show kindL (⟨#[66, 69, 71, 73, 78]⟩ : ByteArray).data.toList b.data.toList = 7 from by unfold kindL; rw [if_pos (by decide)]]
  exact kind_0 b w
 rcases is_or a [69, 78, 68] with h | ⟨n1, m1⟩
 ·
  subst h
  rw [show kindL (⟨#[69, 78, 68]⟩ : ByteArray).data.toList b.data.toList = 7 from by unfold kindL; rw [if_pos (by decide)]]
  exact kind_1 b w
 rcases is_or a [102, 117, 110, 99, 116, 105, 111, 110] with h | ⟨n2, m2⟩
 ·
  subst h
  rw [show kindL (⟨#[102, 117, 110, 99, 116, 105, 111, 110]⟩ : ByteArray).data.toList b.data.toList = 7 from by unfold kindL; rw [if_pos (by decide)]]
  exact kind_2 b w
 rcases is_or a [105, 102] with h | ⟨n3, m3⟩
 ·
  subst h
  rw [show kindL (⟨#[105, 102]⟩ : ByteArray).data.toList b.data.toList = 7 from by unfold kindL; rw [if_pos (by decide)]]
  exact kind_3 b w
 rcases is_or a [101, 108, 115, 101] with h | ⟨n4, m4⟩
 ·
  subst h
  rw [show kindL (⟨#[101, 108, 115, 101]⟩ : ByteArray).data.toList b.data.toList = 7 from by unfold kindL; rw [if_pos (by decide)]]
  exact kind_4 b w
 rcases is_or a [119, 104, 105, 108, 101] with h | ⟨n5, m5⟩
 ·
  subst h
  rw [show kindL (⟨#[119, 104, 105, 108, 101]⟩ : ByteArray).data.toList b.data.toList = 7 from by unfold kindL; rw [if_pos (by decide)]]
  exact kind_5 b w
 rcases is_or a [102, 111, 114] with h | ⟨n6, m6⟩
 ·
  subst h
  rw [show kindL (⟨#[102, 111, 114]⟩ : ByteArray).data.toList b.data.toList = 7 from by unfold kindL; rw [if_pos (by decide)]]
  exact kind_6 b w
 rcases is_or a [105, 110] with h | ⟨n7, m7⟩
 ·
  subst h
  rw [show kindL (⟨#[105, 110]⟩ : ByteArray).data.toList b.data.toList = 7 from by unfold kindL; rw [if_pos (by decide)]]
  exact kind_7 b w
 rcases is_or a [98, 114, 101, 97, 107] with h | ⟨n8, m8⟩
 ·
  subst h
  rw [show kindL (⟨#[98, 114, 101, 97, 107]⟩ : ByteArray).data.toList b.data.toList = 7 from by unfold kindL; rw [if_pos (by decide)]]
  exact kind_8 b w
 rcases is_or a [99, 111, 110, 116, 105, 110, 117, 101] with h | ⟨n9, m9⟩
 ·
  subst h
  rw [show kindL (⟨#[99, 111, 110, 116, 105, 110, 117, 101]⟩ : ByteArray).data.toList b.data.toList = 7 from by unfold kindL; rw [if_pos (by decide)]]
  exact kind_9 b w
 rcases is_or a [110, 101, 120, 116] with h | ⟨n10, m10⟩
 ·
  subst h
  rw [show kindL (⟨#[110, 101, 120, 116]⟩ : ByteArray).data.toList b.data.toList = 7 from by unfold kindL; rw [if_pos (by decide)]]
  exact kind_10 b w
 rcases is_or a [101, 120, 105, 116] with h | ⟨n11, m11⟩
 ·
  subst h
  rw [show kindL (⟨#[101, 120, 105, 116]⟩ : ByteArray).data.toList b.data.toList = 7 from by unfold kindL; rw [if_pos (by decide)]]
  exact kind_11 b w
 rcases is_or a [114, 101, 116, 117, 114, 110] with h | ⟨n12, m12⟩
 ·
  subst h
  rw [show kindL (⟨#[114, 101, 116, 117, 114, 110]⟩ : ByteArray).data.toList b.data.toList = 7 from by unfold kindL; rw [if_pos (by decide)]]
  exact kind_12 b w
 rcases is_or a [100, 101, 108, 101, 116, 101] with h | ⟨n13, m13⟩
 ·
  subst h
  rw [show kindL (⟨#[100, 101, 108, 101, 116, 101]⟩ : ByteArray).data.toList b.data.toList = 7 from by unfold kindL; rw [if_pos (by decide)]]
  exact kind_13 b w
 rcases is_or a [112, 114, 105, 110, 116] with h | ⟨n14, m14⟩
 ·
  subst h
  rw [show kindL (⟨#[112, 114, 105, 110, 116]⟩ : ByteArray).data.toList b.data.toList = 7 from by unfold kindL; rw [if_pos (by decide)]]
  exact kind_14 b w
 rcases is_or a [112, 114, 105, 110, 116, 102] with h | ⟨n15, m15⟩
 ·
  subst h
  rw [show kindL (⟨#[112, 114, 105, 110, 116, 102]⟩ : ByteArray).data.toList b.data.toList = 7 from by unfold kindL; rw [if_pos (by decide)]]
  exact kind_15 b w
 rcases is_or a [108, 101, 110, 103, 116, 104] with h | ⟨n16, m16⟩
 ·
  subst h
  rw [show kindL (⟨#[108, 101, 110, 103, 116, 104]⟩ : ByteArray).data.toList b.data.toList = 9 from by unfold kindL; rw [if_neg (by decide), if_pos (by decide)]]
  exact kind_16 b w
 rcases is_or a [115, 117, 98, 115, 116, 114] with h | ⟨n17, m17⟩
 ·
  subst h
  rw [show kindL (⟨#[115, 117, 98, 115, 116, 114]⟩ : ByteArray).data.toList b.data.toList = 9 from by unfold kindL; rw [if_neg (by decide), if_pos (by decide)]]
  exact kind_17 b w
 rcases is_or a [105, 110, 100, 101, 120] with h | ⟨n18, m18⟩
 ·
  subst h
  rw [show kindL (⟨#[105, 110, 100, 101, 120]⟩ : ByteArray).data.toList b.data.toList = 9 from by unfold kindL; rw [if_neg (by decide), if_pos (by decide)]]
  exact kind_18 b w
 rcases is_or a [115, 112, 108, 105, 116] with h | ⟨n19, m19⟩
 ·
  subst h
  rw [show kindL (⟨#[115, 112, 108, 105, 116]⟩ : ByteArray).data.toList b.data.toList = 9 from by unfold kindL; rw [if_neg (by decide), if_pos (by decide)]]
  exact kind_19 b w
 rcases is_or a [115, 117, 98] with h | ⟨n20, m20⟩
 ·
  subst h
  rw [show kindL (⟨#[115, 117, 98]⟩ : ByteArray).data.toList b.data.toList = 9 from by unfold kindL; rw [if_neg (by decide), if_pos (by decide)]]
  exact kind_20 b w
 rcases is_or a [103, 115, 117, 98] with h | ⟨n21, m21⟩
 ·
  subst h
  rw [show kindL (⟨#[103, 115, 117, 98]⟩ : ByteArray).data.toList b.data.toList = 9 from by unfold kindL; rw [if_neg (by decide), if_pos (by decide)]]
  exact kind_21 b w
 rcases is_or a [109, 97, 116, 99, 104] with h | ⟨n22, m22⟩
 ·
  subst h
  rw [show kindL (⟨#[109, 97, 116, 99, 104]⟩ : ByteArray).data.toList b.data.toList = 9 from by unfold kindL; rw [if_neg (by decide), if_pos (by decide)]]
  exact kind_22 b w
 rcases is_or a [116, 111, 108, 111, 119, 101, 114] with h | ⟨n23, m23⟩
 ·
  subst h
  rw [show kindL (⟨#[116, 111, 108, 111, 119, 101, 114]⟩ : ByteArray).data.toList b.data.toList = 9 from by unfold kindL; rw [if_neg (by decide), if_pos (by decide)]]
  exact kind_23 b w
 rcases is_or a [116, 111, 117, 112, 112, 101, 114] with h | ⟨n24, m24⟩
 ·
  subst h
  rw [show kindL (⟨#[116, 111, 117, 112, 112, 101, 114]⟩ : ByteArray).data.toList b.data.toList = 9 from by unfold kindL; rw [if_neg (by decide), if_pos (by decide)]]
  exact kind_24 b w
 rcases is_or a [105, 110, 116] with h | ⟨n25, m25⟩
 ·
  subst h
  rw [show kindL (⟨#[105, 110, 116]⟩ : ByteArray).data.toList b.data.toList = 9 from by unfold kindL; rw [if_neg (by decide), if_pos (by decide)]]
  exact kind_25 b w
 rcases is_or a [115, 112, 114, 105, 110, 116, 102] with h | ⟨n26, m26⟩
 ·
  subst h
  rw [show kindL (⟨#[115, 112, 114, 105, 110, 116, 102]⟩ : ByteArray).data.toList b.data.toList = 9 from by unfold kindL; rw [if_neg (by decide), if_pos (by decide)]]
  exact kind_26 b w
 rcases is_or a [114, 97, 110, 100] with h | ⟨n27, m27⟩
 ·
  subst h
  rw [show kindL (⟨#[114, 97, 110, 100]⟩ : ByteArray).data.toList b.data.toList = 9 from by unfold kindL; rw [if_neg (by decide), if_pos (by decide)]]
  exact kind_27 b w
 rcases is_or a [115, 114, 97, 110, 100] with h | ⟨n28, m28⟩
 ·
  subst h
  rw [show kindL (⟨#[115, 114, 97, 110, 100]⟩ : ByteArray).data.toList b.data.toList = 9 from by unfold kindL; rw [if_neg (by decide), if_pos (by decide)]]
  exact kind_28 b w
 rcases is_or a [103, 101, 116, 108, 105, 110, 101] with h | ⟨n29, m29⟩
 ·
  subst h
  rw [show kindL (⟨#[103, 101, 116, 108, 105, 110, 101]⟩ : ByteArray).data.toList b.data.toList = 10 from by unfold kindL; rw [if_neg (by decide), if_neg (by decide), if_pos (by decide)]]
  exact kind_29 b w
 rcases is_or a [115, 121, 115, 116, 101, 109] with h | ⟨n30, m30⟩
 ·
  subst h
  rw [show kindL (⟨#[115, 121, 115, 116, 101, 109]⟩ : ByteArray).data.toList b.data.toList = 10 from by unfold kindL; rw [if_neg (by decide), if_neg (by decide), if_pos (by decide)]]
  exact kind_30 b w
 rcases is_or a [99, 108, 111, 115, 101] with h | ⟨n31, m31⟩
 ·
  subst h
  rw [show kindL (⟨#[99, 108, 111, 115, 101]⟩ : ByteArray).data.toList b.data.toList = 10 from by unfold kindL; rw [if_neg (by decide), if_neg (by decide), if_pos (by decide)]]
  exact kind_31 b w
 rcases is_or a [102, 102, 108, 117, 115, 104] with h | ⟨n32, m32⟩
 ·
  subst h
  rw [show kindL (⟨#[102, 102, 108, 117, 115, 104]⟩ : ByteArray).data.toList b.data.toList = 10 from by unfold kindL; rw [if_neg (by decide), if_neg (by decide), if_pos (by decide)]]
  exact kind_32 b w
 rcases is_or a [115, 121, 115, 116, 105, 109, 101] with h | ⟨n33, m33⟩
 ·
  subst h
  rw [show kindL (⟨#[115, 121, 115, 116, 105, 109, 101]⟩ : ByteArray).data.toList b.data.toList = 10 from by unfold kindL; rw [if_neg (by decide), if_neg (by decide), if_pos (by decide)]]
  exact kind_33 b w
 rcases is_or a [115, 116, 114, 102, 116, 105, 109, 101] with h | ⟨n34, m34⟩
 ·
  subst h
  rw [show kindL (⟨#[115, 116, 114, 102, 116, 105, 109, 101]⟩ : ByteArray).data.toList b.data.toList = 10 from by unfold kindL; rw [if_neg (by decide), if_neg (by decide), if_pos (by decide)]]
  exact kind_34 b w
 have e1 : a.data.toList ∉ wordsL := by
  simp only [wordsL, List.mem_cons, List.not_mem_nil, not_or]
  exact ⟨m0, m1, m2, m3, m4, m5, m6, m7, m8, m9, m10, m11, m12, m13, m14, m15, fun h => h⟩
 have e2 : a.data.toList ∉ builtL := by
  simp only [builtL, List.mem_cons, List.not_mem_nil, not_or]
  exact ⟨m16, m17, m18, m19, m20, m21, m22, m23, m24, m25, m26, m27, m28, fun h => h⟩
 have e3 : a.data.toList ∉ bannL := by
  simp only [bannL, List.mem_cons, List.not_mem_nil, not_or]
  exact ⟨m29, m30, m31, m32, m33, m34, fun h => h⟩
 unfold kindL
 rw [if_neg e1, if_neg e2, if_neg e3]
 by_cases h : b.data.toList.head? = some 40
 ·
  rw [if_pos h]; exact kind_true a b w n0 n1 n2 n3 n4 n5 n6 n7 n8 n9 n10 n11 n12 n13 n14 n15 n16 n17 n18 n19 n20 n21 n22 n23 n24 n25 n26 n27 n28 n29 n30 n31 n32 n33 n34 (decide_eq_true h)
 ·
  rw [if_neg h]; exact kind_false a b w n0 n1 n2 n3 n4 n5 n6 n7 n8 n9 n10 n11 n12 n13 n14 n15 n16 n17 n18 n19 n20 n21 n22 n23 n24 n25 n26 n27 n28 n29 n30 n31 n32 n33 n34 (decide_eq_false h)
end Go.Proofs.YtmbfdkiejneheaaGreatDoor
