/-
  CONTRACTS of layer 9's sets: With, Not, or.
-/
import Derived.Test.YtjjejcgpeefclaaDoorRgW2
namespace Go.Proofs.YtjjejcgpeefclaaDoor
open Go.RowKit

def W4.val (s : W4) : Value := .agg #[.int .u64 s.a, .int .u64 s.b, .int .u64 s.c, .int .u64 s.d]
def orU (x y : Int) : Int := bits BinOp.or IntKind.u64 x y
def bitU (n : Nat) : Int := IntKind.u64.wrap (2 ^ n)
def withW (s : W4) (c : UInt8) : W4 :=
  if c.toNat / 64 = 0 then ⟨orU s.a (bitU (c.toNat % 64)), s.b, s.c, s.d⟩
  else if c.toNat / 64 = 1 then ⟨s.a, orU s.b (bitU (c.toNat % 64)), s.c, s.d⟩
  else if c.toNat / 64 = 2 then ⟨s.a, s.b, orU s.c (bitU (c.toNat % 64)), s.d⟩
  else ⟨s.a, s.b, s.c, orU s.d (bitU (c.toNat % 64))⟩
set_option maxHeartbeats 2000000 in
theorem rwith_any (s : W4) (c : UInt8) (w : World) :
    Calls Tryd.prog 77 #[s.val, .int .u8 (c.toNat : Int)] w fun e w' => e = .returned (withW s c).val ∧ Below w.heap.size w w' := by
  have key : ∀ x, withW s c = x → Hid (Calls Tryd.prog 77 #[s.val, .int .u8 (c.toNat : Int)] w fun e w' => e = .returned x.val ∧ Below w.heap.size w w') → Calls Tryd.prog 77 #[s.val, .int .u8 (c.toNat : Int)] w fun e w' => e = .returned (withW s c).val ∧ Below w.heap.size w w' := fun x h k => by rw [h]; exact k.out
  have hcb := c.toNat_lt
  have hcb2 : (c.toNat : Int) ≤ 255 := by omega
  have hcb0 : 0 ≤ (c.toNat : Int) := by omega
  obtain ⟨q, hq⟩ : ∃ q : Int, (c.toNat : Int) % 64 = q := ⟨_, rfl⟩
  have hqn : c.toNat % 64 = q.toNat := by omega
  have hq0 : 0 ≤ q := by omega
  have hq1 : q ≤ 63 := by omega
  have hd : c.toNat / 64 = 0 ∨ c.toNat / 64 = 1 ∨ c.toNat / 64 = 2 ∨ c.toNat / 64 = 3 := by omega
  obtain ⟨a, b, cc, d⟩ := s
  rcases hd with hd | hd | hd | hd
  · refine key ⟨orU a (bitU q.toNat), b, cc, d⟩ (by unfold withW; rw [if_pos hd, hqn]) (Lib.hid ?_)
    have hdi : (c.toNat : Int) / 64 = 0 := by omega
    unfold W4.val
    clear key hd hqn
    go_enter Tryd.func77, Tryd.ntmps77
    go_wp2
    exact bodyPost_ret (v := (⟨orU a (bitU q.toNat), b, cc, d⟩ : W4).val) (by simp [results, Tryd.results77, go_sem, W4.val, orU, bitU]) rfl ⟨rfl, ((Below.refl _ _).alloc (Nat.le_refl _) _).alloc (by simp) _⟩
  · refine key ⟨a, orU b (bitU q.toNat), cc, d⟩ (by unfold withW; rw [if_neg (by omega), if_pos hd, hqn]) (Lib.hid ?_)
    have hdi : (c.toNat : Int) / 64 = 1 := by omega
    unfold W4.val
    clear key hd hqn
    go_enter Tryd.func77, Tryd.ntmps77
    go_wp2
    exact bodyPost_ret (v := (⟨a, orU b (bitU q.toNat), cc, d⟩ : W4).val) (by simp [results, Tryd.results77, go_sem, W4.val, orU, bitU]) rfl ⟨rfl, ((Below.refl _ _).alloc (Nat.le_refl _) _).alloc (by simp) _⟩
  · refine key ⟨a, b, orU cc (bitU q.toNat), d⟩ (by unfold withW; rw [if_neg (by omega), if_neg (by omega), if_pos hd, hqn]) (Lib.hid ?_)
    have hdi : (c.toNat : Int) / 64 = 2 := by omega
    unfold W4.val
    clear key hd hqn
    go_enter Tryd.func77, Tryd.ntmps77
    go_wp2
    exact bodyPost_ret (v := (⟨a, b, orU cc (bitU q.toNat), d⟩ : W4).val) (by simp [results, Tryd.results77, go_sem, W4.val, orU, bitU]) rfl ⟨rfl, ((Below.refl _ _).alloc (Nat.le_refl _) _).alloc (by simp) _⟩
  · refine key ⟨a, b, cc, orU d (bitU q.toNat)⟩ (by unfold withW; rw [if_neg (by omega), if_neg (by omega), if_neg (by omega), hqn]) (Lib.hid ?_)
    have hdi : (c.toNat : Int) / 64 = 3 := by omega
    unfold W4.val
    clear key hd hqn
    go_enter Tryd.func77, Tryd.ntmps77
    go_wp2
    exact bodyPost_ret (v := (⟨a, b, cc, orU d (bitU q.toNat)⟩ : W4).val) (by simp [results, Tryd.results77, go_sem, W4.val, orU, bitU]) rfl ⟨rfl, ((Below.refl _ _).alloc (Nat.le_refl _) _).alloc (by simp) _⟩
def notU (x : Int) : Int := bits BinOp.xor IntKind.u64 (if IntKind.u64.signed = true then -1 else IntKind.u64.max) x
def notW (s : W4) : W4 := ⟨notU s.a, notU s.b, notU s.c, notU s.d⟩
def orW (s t : W4) : W4 := ⟨orU s.a t.a, orU s.b t.b, orU s.c t.c, orU s.d t.d⟩
set_option maxHeartbeats 4000000 in
theorem rnot_any (s : W4) (w : World) :
    Calls Tryd.prog 76 #[s.val] w fun e w' => e = .returned (notW s).val ∧ Below w.heap.size w w' := by
  obtain ⟨a, b, c, d⟩ := s
  unfold W4.val
  go_enter Tryd.func76, Tryd.ntmps76
  go_wp2
  go_loopw [4] (fun iv wr => (iv = .int .i64 0 ∧ wr = ((w.alloc (.cells #[.int .u64 a, .int .u64 b, .int .u64 c, .int .u64 d] 47)).alloc (.cells #[.int .u64 0, .int .u64 0, .int .u64 0, .int .u64 0] 47))) ∨ (iv = .int .i64 1 ∧ wr = ((w.alloc (.cells #[.int .u64 (notU a), .int .u64 b, .int .u64 c, .int .u64 d] 47)).alloc (.cells #[.int .u64 0, .int .u64 0, .int .u64 0, .int .u64 0] 47))) ∨ (iv = .int .i64 2 ∧ wr = ((w.alloc (.cells #[.int .u64 (notU a), .int .u64 (notU b), .int .u64 c, .int .u64 d] 47)).alloc (.cells #[.int .u64 0, .int .u64 0, .int .u64 0, .int .u64 0] 47))) ∨ (iv = .int .i64 3 ∧ wr = ((w.alloc (.cells #[.int .u64 (notU a), .int .u64 (notU b), .int .u64 (notU c), .int .u64 d] 47)).alloc (.cells #[.int .u64 0, .int .u64 0, .int .u64 0, .int .u64 0] 47))) ∨ (iv = .int .i64 4 ∧ wr = ((w.alloc (.cells #[.int .u64 (notU a), .int .u64 (notU b), .int .u64 (notU c), .int .u64 (notU d)] 47)).alloc (.cells #[.int .u64 0, .int .u64 0, .int .u64 0, .int .u64 0] 47)))) (fun iv _ => 4 - (intOf iv).toNat)
  case atStart => exact .inl ⟨rfl, rfl⟩
  case round =>
    rcases hrel with ⟨rfl, rfl⟩ | ⟨rfl, rfl⟩ | ⟨rfl, rfl⟩ | ⟨rfl, rfl⟩ | ⟨rfl, rfl⟩
    · go_wp2
      go_roundw
      case rel => exact .inr (.inl ⟨rfl, rfl⟩)
      case measure => simp [intOf]
    · go_wp2
      go_roundw
      case rel => exact .inr (.inr (.inl ⟨rfl, rfl⟩))
      case measure => simp [intOf]
    · go_wp2
      go_roundw
      case rel => exact .inr (.inr (.inr (.inl ⟨rfl, rfl⟩)))
      case measure => simp [intOf]
    · go_wp2
      go_roundw
      case rel => exact .inr (.inr (.inr (.inr (⟨rfl, rfl⟩))))
      case measure => simp [intOf]
    · go_wp2
      exact bodyPost_ret (v := (⟨notU a, notU b, notU c, notU d⟩ : W4).val) (by simp [results, Tryd.results76, go_sem, W4.val]) rfl ⟨rfl, ((Below.refl _ _).alloc (Nat.le_refl _) _).alloc (by simp) _⟩
theorem rg_setN (w : World) (n : Nat) (a : Addr) (v : Value) : (w.drewN n).setCell a v = (w.setCell a v).drewN n := rfl
theorem rg_bN {B : Nat} {a w : World} (h : Below B a w) (n : Nat) : Below B a (w.drewN n) := ⟨h.os, h.tape, h.output, h.size, h.block⟩
set_option maxHeartbeats 4000000 in
theorem ror_any (s t : W4) (w : World) :
    Calls Tryd.prog 80 #[s.val, t.val] w fun e w' => e = .returned (orW s t).val ∧ Below w.heap.size w w' := by
  obtain ⟨a, b, c, d⟩ := s
  obtain ⟨x, y, z, u⟩ := t
  unfold W4.val
  go_enter Tryd.func80, Tryd.ntmps80
  go_wp2
  go_loopw [6] (fun iv wr => (iv = .int .i64 0 ∧ ∃ n, wr = (((w.alloc (.cells #[.int .u64 a, .int .u64 b, .int .u64 c, .int .u64 d] 47)).alloc (.cells #[.int .u64 x, .int .u64 y, .int .u64 z, .int .u64 u] 47)).alloc (.cells #[.int .u64 0, .int .u64 0, .int .u64 0, .int .u64 0] 47)).drewN n) ∨ (iv = .int .i64 1 ∧ ∃ n, wr = (((w.alloc (.cells #[.int .u64 (orU a x), .int .u64 b, .int .u64 c, .int .u64 d] 47)).alloc (.cells #[.int .u64 x, .int .u64 y, .int .u64 z, .int .u64 u] 47)).alloc (.cells #[.int .u64 0, .int .u64 0, .int .u64 0, .int .u64 0] 47)).drewN n) ∨ (iv = .int .i64 2 ∧ ∃ n, wr = (((w.alloc (.cells #[.int .u64 (orU a x), .int .u64 (orU b y), .int .u64 c, .int .u64 d] 47)).alloc (.cells #[.int .u64 x, .int .u64 y, .int .u64 z, .int .u64 u] 47)).alloc (.cells #[.int .u64 0, .int .u64 0, .int .u64 0, .int .u64 0] 47)).drewN n) ∨ (iv = .int .i64 3 ∧ ∃ n, wr = (((w.alloc (.cells #[.int .u64 (orU a x), .int .u64 (orU b y), .int .u64 (orU c z), .int .u64 d] 47)).alloc (.cells #[.int .u64 x, .int .u64 y, .int .u64 z, .int .u64 u] 47)).alloc (.cells #[.int .u64 0, .int .u64 0, .int .u64 0, .int .u64 0] 47)).drewN n) ∨ (iv = .int .i64 4 ∧ ∃ n, wr = (((w.alloc (.cells #[.int .u64 (orU a x), .int .u64 (orU b y), .int .u64 (orU c z), .int .u64 (orU d u)] 47)).alloc (.cells #[.int .u64 x, .int .u64 y, .int .u64 z, .int .u64 u] 47)).alloc (.cells #[.int .u64 0, .int .u64 0, .int .u64 0, .int .u64 0] 47)).drewN n)) (fun iv _ => 4 - (intOf iv).toNat)
  case atStart => exact .inl ⟨rfl, 0, rfl⟩
  case round =>
    rcases hrel with ⟨rfl, n, rfl⟩ | ⟨rfl, n, rfl⟩ | ⟨rfl, n, rfl⟩ | ⟨rfl, n, rfl⟩ | ⟨rfl, n, rfl⟩
    · go_wp2
      go_region
      go_wp2
      go_roundw
      case rel => exact .inr (.inl ⟨rfl, n + 1, by rw [rg_setN]; simp [go_sem, orU]⟩)
      case measure => simp [intOf]
    · go_wp2
      go_region
      go_wp2
      go_roundw
      case rel => exact .inr (.inr (.inl ⟨rfl, n + 1, by rw [rg_setN]; simp [go_sem, orU]⟩))
      case measure => simp [intOf]
    · go_wp2
      go_region
      go_wp2
      go_roundw
      case rel => exact .inr (.inr (.inr (.inl ⟨rfl, n + 1, by rw [rg_setN]; simp [go_sem, orU]⟩)))
      case measure => simp [intOf]
    · go_wp2
      go_region
      go_wp2
      go_roundw
      case rel => exact .inr (.inr (.inr (.inr (⟨rfl, n + 1, by rw [rg_setN]; simp [go_sem, orU]⟩))))
      case measure => simp [intOf]
    · go_wp2
      exact bodyPost_ret (v := (⟨orU a x, orU b y, orU c z, orU d u⟩ : W4).val) (by simp [results, Tryd.results80, go_sem, W4.val]) rfl ⟨rfl, ((((rg_bN ((((Below.refl w.heap.size w).alloc (Nat.le_refl _) _).alloc (by simp) _).alloc (by simp; omega) _) _).setCell (by simp; omega) _).setCell (by simp; omega) _).setCell (by simp; omega) _).setCell (by simp; omega) _⟩
end Go.Proofs.YtjjejcgpeefclaaDoor
