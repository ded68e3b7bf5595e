/-
 CONTRACTS of layer 9's sets: With, Not, or.
-/
import Derived.Test.YtmbfdkiejneheaaGreatDoorLxM
import Derived.Test.YtmbfdkiejneheaaGreatDoorRgW1
namespace Go.Proofs.YtmbfdkiejneheaaGreatDoor
open Go.RowKit

/-- What reads answers a value and stands behind it, or the first error is told and all is over. -/
def RdP {α : Type} (V : World → Value → α → Prop) (G : Value → Prop) (b : Nat) (s : ByteArray) (op : Nat) (x : PR α) (w : World) (e : Ending) (w' : World) : Prop :=
 match x with
 | .ok (a, r) => r <:+ s.data.toList ∧ ∃ v, e = .returned v ∧ V w' v a ∧ Rg w' b s (s.size - r.length) op 0 0 ∧ Onl b w w'
 | .error (n, k) => (k = 9 ∨ k = 14) ∧ n ≤ s.size ∧ ∃ v, e = .returned v ∧ G v ∧ Rg w' b s s.size op (s.size - n) k ∧ Onl b w w'
def VU8 (_ : World) (v : Value) (c : UInt8) : Prop := v = .int .u8 (c.toNat : Int)
def GU8 (v : Value) : Prop := v = .int .u8 0
set_option maxHeartbeats 2000000 in
theorem rnext_any (b : Nat) (s : ByteArray) (op : Nat) (l : List UInt8) (w : World) (h : Rg w b s (s.size - l.length) op 0 0) (hl : l <:+ s.data.toList) (hs : s.size ≤ 100000) (hne : l ≠ []) :
  Calls Tryz.prog 142 #[.pointer (some ⟨b, 0, none⟩)] w (RdP VU8 GU8 b s op (nextR l) w) := by
 match l, hne with
 | c :: r, _ =>
 obtain ⟨p, hp, hc, e1, e2, hr, hlen⟩ := rg_cons hl
 rw [List.length_cons, e1] at h
 by_cases h92 : c = 92
 ·
  subst h92
  have T := kH (rtake_yes b s p op 0 0 92 w h hp hc hs)
  rw [show (((92 : UInt8).toNat : Nat) : Int) = 92 from rfl] at T
  have hpi : ((p + 1 : Nat) : Int) ≤ (s.size : Int) := by omega
  have hrest := rg_rest hr
  have hrsz := rg_rest_size hr
  rw [e2] at hrest hrsz
  have FL := kH fun W H => rfail0 b s (p + 1) op 0 p 9 W H
  have HL : Hid (s.size - (r.length + 1) = p) := kH e1
  rcases r with _ | ⟨e, r2⟩
  ·
   have hR0 : s.extract (p + 1) s.size = ⟨#[]⟩ := WideShapes.bytes_inj hrest
   have E := kH fun W => resc_none W
   clear h hrest hrsz e1 e2 hlen hr hl hc
   have HR0 := kH hR0
   clear hR0
   rw [show nextR [92] = .error (1, 9) from rfl]
   go_enter Tryz.func142, Tryz.ntmps142
   go_wp2_with fail
   refine T.out.mono ?_
   rintro e w1 ⟨rfl, hr, o1⟩
   obtain ⟨c0, c1, c2, c3, c4, f1, f2, f3, f4⟩ := hr.cells
   have HR := kH hr
   have HO := kH o1
   clear hr o1 T
   go_wp2_with fail
   go_quiet ((rw [HR0.out]; go_at_call 145; exact Calls.quiet_of (E.out _)))
   go_wp2_with fail
   refine (FL.out _ (HR.out.drewN _)).mono ?_
   rintro e w2 ⟨rfl, hr2, o2⟩
   go_wp2_with fail
   go_ret
   refine ⟨.inl rfl, by omega, _, rfl, rfl, ?_, (HO.out.trans (Onl.refl b w1).drewN).trans o2⟩
   rw [show s.size - 1 = p from HL.out]; exact hr2
  ·
   obtain ⟨p2, hp2, hc2, e3, e4, hr2, hlen2⟩ := rg_cons hr
   obtain rfl : p + 1 = p2 := by rw [← e2, List.length_cons]; exact e3
   have hz : 0 < (s.extract (p + 1) s.size).size := by rw [hrsz]; simp
   have hzb : (s.extract (p + 1) s.size).size ≤ 100000 := by rw [hrsz]; simp; omega
   have hg : (s.extract (p + 1) s.size)[0] = e := by
    have h3 := rg_at _ 0 hz
    rw [hrest] at h3
    simpa using h3.symm
   have E := kH fun W => rgesc_any (s.extract (p + 1) s.size) hz hzb W
   rw [hg] at E
   have HS : Hid (r2 <:+ s.data.toList ∧ s.size - r2.length = p + 1 + 1) := kH ⟨hr2, e4⟩
   have hsl : r2.length + 2 ≤ s.size := by rw [List.length_cons] at hlen; omega
   cases hx : escB e with
   | none =>
    have E : Hid (∀ W, Calls Tryz.prog 145 #[.string (s.extract (p + 1) s.size)] W fun e' w' => e' = .returned (.tuple #[.int .u8 (escZ e), .bool false]) ∧ ∃ n, w' = W.drewN n) := kH fun W => by have := E.out W; unfold EscPost at this; rw [hx] at this; exact this
    have hN : nextR (92 :: e :: r2) = .error (r2.length + 2, 9) := by simp only [nextR, if_true, hx]
    rw [hN]
    clear h hrest hrsz e1 e2 hlen hr hl hc hz hzb hg hx hN hr2 e3 e4 hlen2 hp2 hc2
    go_enter Tryz.func142, Tryz.ntmps142
    go_wp2_with fail
    refine T.out.mono ?_
    rintro e w1 ⟨rfl, hr, o1⟩
    obtain ⟨c0, c1, c2, c3, c4, f1, f2, f3, f4⟩ := hr.cells
    have HR := kH hr
    have HO := kH o1
    clear hr o1 T
    go_wp2_with fail
    go_quiet ((go_at_call 145; exact Calls.quiet_of (E.out _)))
    go_wp2_with fail
    refine (FL.out _ (HR.out.drewN _)).mono ?_
    rintro e w2 ⟨rfl, hr2, o2⟩
    go_wp2_with fail
    go_ret
    refine ⟨.inl rfl, hsl, _, rfl, rfl, ?_, (HO.out.trans (Onl.refl b w1).drewN).trans o2⟩
    rw [show s.size - (r2.length + 2) = p from HL.out]; exact hr2
   | some x =>
    have E : Hid (∀ W, Calls Tryz.prog 145 #[.string (s.extract (p + 1) s.size)] W fun e w' => e = .returned (.tuple #[.int .u8 (x.toNat : Int), .bool true]) ∧ ∃ n, w' = W.drewN n) := kH fun W => by have := E.out W; unfold EscPost escZ at this; rw [hx] at this; exact this
    have hN : nextR (92 :: e :: r2) = .ok (x, r2) := by simp only [nextR, if_true, hx]
    rw [hN]
    clear h hrest hrsz e1 e2 hlen hr hl hc hz hzb hg hx hN hr2 e3 e4 hlen2 hp2 hc2
    go_enter Tryz.func142, Tryz.ntmps142
    go_wp2_with fail
    refine T.out.mono ?_
    rintro e w1 ⟨rfl, hr, o1⟩
    obtain ⟨c0, c1, c2, c3, c4, f1, f2, f3, f4⟩ := hr.cells
    have HR := kH hr
    have HO := kH o1
    clear hr o1 T
    go_wp2_with fail
    go_quiet ((go_at_call 145; exact Calls.quiet_of (E.out _)))
    go_wp2_with fail
    go_ret
    refine ⟨HS.out.1, _, rfl, rfl, ?_, (HO.out.trans (Onl.refl b w1).drewN).setCell 1 _⟩
    rw [HS.out.2]; exact (HR.out.drewN _).setP (p + 1 + 1)
 ·
  have T := kH (rtake_no b s p op 0 0 92 w h hp (by rw [hc]; exact h92))
  have hx : nextR (c :: r) = .ok (c, r) := by simp only [nextR]; rw [if_neg h92]
  rw [hx]
  rw [show (((92 : UInt8).toNat : Nat) : Int) = 92 from rfl] at T
  have HR := kH h
  have hpi : (p : Int) < (s.size : Int) := by omega
  have hpi2 : decide ((p : Int) < (s.size : Int)) = true := by simpa using hpi
  obtain ⟨c0, c1, c2, c3, c4, f1, f2, f3, f4⟩ := h.cells
  have hfin : ∀ n, RdP VU8 GU8 b s op (.ok (c, r)) w (.returned (.int .u8 (s[p].toNat : Int))) ((w.drewN n).setCell ⟨b, 1, none⟩ (.int .i64 ((p + 1 : Nat) : Int))) := fun n => by
   refine ⟨hr, _, rfl, by rw [hc]; rfl, ?_, (Onl.drewN (Onl.refl b w)).setCell 1 _⟩
   rw [e2]; exact (h.drewN n).setP (p + 1)
  have HF := kH hfin
  clear h hfin hx e1 e2
  subst hc
  go_enter Tryz.func142, Tryz.ntmps142
  go_wp2_with fail
  refine T.out.mono ?_
  rintro e w1 ⟨rfl, n, rfl⟩
  go_wp2_with fail
  go_quiet (fail)
  go_wp2_with fail
  go_ret
  exact HF.out _
end Go.Proofs.YtmbfdkiejneheaaGreatDoor

namespace Go.Proofs.YtmbfdkiejneheaaGreatDoor
open Go.RowKit

def W4.val (s : W4) : Value := .agg #[.int .u64 s.a, .int .u64 s.b, .int .u64 s.c, .int .u64 s.d]
def orU (x y : Int) : Int := bits BinOp.or IntKind.u64 x y
def bitU (n : Nat) : Int := IntKind.u64.wrap (2 ^ n)
def withW (s : W4) (c : UInt8) : W4 :=
 if c.toNat / 64 = 0 then ⟨orU s.a (bitU (c.toNat % 64)), s.b, s.c, s.d⟩
 else if c.toNat / 64 = 1 then ⟨s.a, orU s.b (bitU (c.toNat % 64)), s.c, s.d⟩
 else if c.toNat / 64 = 2 then ⟨s.a, s.b, orU s.c (bitU (c.toNat % 64)), s.d⟩
 else ⟨s.a, s.b, s.c, orU s.d (bitU (c.toNat % 64))⟩
set_option maxHeartbeats 2000000 in
theorem rwith_any (s : W4) (c : UInt8) (w : World) :
  Calls Tryz.prog 141 #[s.val, .int .u8 (c.toNat : Int)] w fun e w' => e = .returned (withW s c).val ∧ Below w.heap.size w w' := by
 have key : ∀ x, withW s c = x → Hid (Calls Tryz.prog 141 #[s.val, .int .u8 (c.toNat : Int)] w fun e w' => e = .returned x.val ∧ Below w.heap.size w w') → Calls Tryz.prog 141 #[s.val, .int .u8 (c.toNat : Int)] w fun e w' => e = .returned (withW s c).val ∧ Below w.heap.size w w' := fun x h k => by rw [h]; exact k.out
 have hcb := c.toNat_lt
 have hcb2 : (c.toNat : Int) ≤ 255 := by omega
 have hcb0 : 0 ≤ (c.toNat : Int) := by omega
 obtain ⟨q, hq⟩ : ∃ q : Int, (c.toNat : Int) % 64 = q := ⟨_, rfl⟩
 have hqn : c.toNat % 64 = q.toNat := by omega
 have hq0 : 0 ≤ q := by omega
 have hq1 : q ≤ 63 := by omega
 have hd : c.toNat / 64 = 0 ∨ c.toNat / 64 = 1 ∨ c.toNat / 64 = 2 ∨ c.toNat / 64 = 3 := by omega
 obtain ⟨a, b, cc, d⟩ := s
 rcases hd with hd | hd | hd | hd
 ·
  refine key ⟨orU a (bitU q.toNat), b, cc, d⟩ (by unfold withW; rw [if_pos hd, hqn]) (kH ?_)
  have hdi : (c.toNat : Int) / 64 = 0 := by omega
  unfold W4.val
  clear key hd hqn
  go_enter Tryz.func141, Tryz.ntmps141
  go_wp2
  exact bodyPost_ret (v := (⟨orU a (bitU q.toNat), b, cc, d⟩ : W4).val) (by simp [results, Tryz.results141, go_sem, W4.val, orU, bitU]) rfl ⟨rfl, ((Below.refl _ _).alloc (Nat.le_refl _) _).alloc (by simp) _⟩
 ·
  refine key ⟨a, orU b (bitU q.toNat), cc, d⟩ (by unfold withW; rw [if_neg (by omega), if_pos hd, hqn]) (kH ?_)
  have hdi : (c.toNat : Int) / 64 = 1 := by omega
  unfold W4.val
  clear key hd hqn
  go_enter Tryz.func141, Tryz.ntmps141
  go_wp2
  exact bodyPost_ret (v := (⟨a, orU b (bitU q.toNat), cc, d⟩ : W4).val) (by simp [results, Tryz.results141, go_sem, W4.val, orU, bitU]) rfl ⟨rfl, ((Below.refl _ _).alloc (Nat.le_refl _) _).alloc (by simp) _⟩
 ·
  refine key ⟨a, b, orU cc (bitU q.toNat), d⟩ (by unfold withW; rw [if_neg (by omega), if_neg (by omega), if_pos hd, hqn]) (kH ?_)
  have hdi : (c.toNat : Int) / 64 = 2 := by omega
  unfold W4.val
  clear key hd hqn
  go_enter Tryz.func141, Tryz.ntmps141
  go_wp2
  exact bodyPost_ret (v := (⟨a, b, orU cc (bitU q.toNat), d⟩ : W4).val) (by simp [results, Tryz.results141, go_sem, W4.val, orU, bitU]) rfl ⟨rfl, ((Below.refl _ _).alloc (Nat.le_refl _) _).alloc (by simp) _⟩
 ·
  refine key ⟨a, b, cc, orU d (bitU q.toNat)⟩ (by unfold withW; rw [if_neg (by omega), if_neg (by omega), if_neg (by omega), hqn]) (kH ?_)
  have hdi : (c.toNat : Int) / 64 = 3 := by omega
  unfold W4.val
  clear key hd hqn
  go_enter Tryz.func141, Tryz.ntmps141
  go_wp2
  exact bodyPost_ret (v := (⟨a, b, cc, orU d (bitU q.toNat)⟩ : W4).val) (by simp [results, Tryz.results141, go_sem, W4.val, orU, bitU]) rfl ⟨rfl, ((Below.refl _ _).alloc (Nat.le_refl _) _).alloc (by simp) _⟩
def notU (x : Int) : Int := bits BinOp.xor IntKind.u64 (if IntKind.u64.signed = true then -1 else IntKind.u64.max) x
def notW (s : W4) : W4 := ⟨notU s.a, notU s.b, notU s.c, notU s.d⟩
def orW (s t : W4) : W4 := ⟨orU s.a t.a, orU s.b t.b, orU s.c t.c, orU s.d t.d⟩
set_option maxHeartbeats 4000000 in
theorem rnot_any (s : W4) (w : World) :
  Calls Tryz.prog 140 #[s.val] w fun e w' => e = .returned (notW s).val ∧ Below w.heap.size w w' := by
 obtain ⟨a, b, c, d⟩ := s
 unfold W4.val
 go_enter Tryz.func140, Tryz.ntmps140
 go_wp2
 go_loopw [4] (fun iv wr => (iv = .int .i64 0 ∧ wr = ((w.alloc (.cells #[.int .u64 a, .int .u64 b, .int .u64 c, .int .u64 d] 97)).alloc (.cells #[.int .u64 0, .int .u64 0, .int .u64 0, .int .u64 0] 97))) ∨ (iv = .int .i64 1 ∧ wr = ((w.alloc (.cells #[.int .u64 (notU a), .int .u64 b, .int .u64 c, .int .u64 d] 97)).alloc (.cells #[.int .u64 0, .int .u64 0, .int .u64 0, .int .u64 0] 97))) ∨ (iv = .int .i64 2 ∧ wr = ((w.alloc (.cells #[.int .u64 (notU a), .int .u64 (notU b), .int .u64 c, .int .u64 d] 97)).alloc (.cells #[.int .u64 0, .int .u64 0, .int .u64 0, .int .u64 0] 97))) ∨ (iv = .int .i64 3 ∧ wr = ((w.alloc (.cells #[.int .u64 (notU a), .int .u64 (notU b), .int .u64 (notU c), .int .u64 d] 97)).alloc (.cells #[.int .u64 0, .int .u64 0, .int .u64 0, .int .u64 0] 97))) ∨ (iv = .int .i64 4 ∧ wr = ((w.alloc (.cells #[.int .u64 (notU a), .int .u64 (notU b), .int .u64 (notU c), .int .u64 (notU d)] 97)).alloc (.cells #[.int .u64 0, .int .u64 0, .int .u64 0, .int .u64 0] 97)))) (fun iv _ => 4 - (intOf iv).toNat)
 case atStart => exact .inl ⟨rfl, rfl⟩
 case round =>
  rcases hrel with ⟨rfl, rfl⟩ | ⟨rfl, rfl⟩ | ⟨rfl, rfl⟩ | ⟨rfl, rfl⟩ | ⟨rfl, rfl⟩
  ·
   go_wp2
   go_roundw
   case rel => exact .inr (.inl ⟨rfl, rfl⟩)
   case measure => simp [intOf]
  ·
   go_wp2
   go_roundw
   case rel => exact .inr (.inr (.inl ⟨rfl, rfl⟩))
   case measure => simp [intOf]
  ·
   go_wp2
   go_roundw
   case rel => exact .inr (.inr (.inr (.inl ⟨rfl, rfl⟩)))
   case measure => simp [intOf]
  ·
   go_wp2
   go_roundw
   case rel => exact .inr (.inr (.inr (.inr (⟨rfl, rfl⟩))))
   case measure => simp [intOf]
  ·
   go_wp2
   exact bodyPost_ret (v := (⟨notU a, notU b, notU c, notU d⟩ : W4).val) (by simp [results, Tryz.results140, go_sem, W4.val]) rfl ⟨rfl, ((Below.refl _ _).alloc (Nat.le_refl _) _).alloc (by simp) _⟩
theorem rg_setN (w : World) (n : Nat) (a : Addr) (v : Value) : (w.drewN n).setCell a v = (w.setCell a v).drewN n := rfl
theorem rg_bN {B : Nat} {a w : World} (h : Below B a w) (n : Nat) : Below B a (w.drewN n) := ⟨h.os, h.tape, h.output, h.size, h.block⟩
set_option maxHeartbeats 4000000 in
theorem ror_any (s t : W4) (w : World) :
  Calls Tryz.prog 144 #[s.val, t.val] w fun e w' => e = .returned (orW s t).val ∧ Below w.heap.size w w' := by
 obtain ⟨a, b, c, d⟩ := s
 obtain ⟨x, y, z, u⟩ := t
 unfold W4.val
 go_enter Tryz.func144, Tryz.ntmps144
 go_wp2
 go_loopw [6] (fun iv wr => (iv = .int .i64 0 ∧ ∃ n, wr = (((w.alloc (.cells #[.int .u64 a, .int .u64 b, .int .u64 c, .int .u64 d] 97)).alloc (.cells #[.int .u64 x, .int .u64 y, .int .u64 z, .int .u64 u] 97)).alloc (.cells #[.int .u64 0, .int .u64 0, .int .u64 0, .int .u64 0] 97)).drewN n) ∨ (iv = .int .i64 1 ∧ ∃ n, wr = (((w.alloc (.cells #[.int .u64 (orU a x), .int .u64 b, .int .u64 c, .int .u64 d] 97)).alloc (.cells #[.int .u64 x, .int .u64 y, .int .u64 z, .int .u64 u] 97)).alloc (.cells #[.int .u64 0, .int .u64 0, .int .u64 0, .int .u64 0] 97)).drewN n) ∨ (iv = .int .i64 2 ∧ ∃ n, wr = (((w.alloc (.cells #[.int .u64 (orU a x), .int .u64 (orU b y), .int .u64 c, .int .u64 d] 97)).alloc (.cells #[.int .u64 x, .int .u64 y, .int .u64 z, .int .u64 u] 97)).alloc (.cells #[.int .u64 0, .int .u64 0, .int .u64 0, .int .u64 0] 97)).drewN n) ∨ (iv = .int .i64 3 ∧ ∃ n, wr = (((w.alloc (.cells #[.int .u64 (orU a x), .int .u64 (orU b y), .int .u64 (orU c z), .int .u64 d] 97)).alloc (.cells #[.int .u64 x, .int .u64 y, .int .u64 z, .int .u64 u] 97)).alloc (.cells #[.int .u64 0, .int .u64 0, .int .u64 0, .int .u64 0] 97)).drewN n) ∨ (iv = .int .i64 4 ∧ ∃ n, wr = (((w.alloc (.cells #[.int .u64 (orU a x), .int .u64 (orU b y), .int .u64 (orU c z), .int .u64 (orU d u)] 97)).alloc (.cells #[.int .u64 x, .int .u64 y, .int .u64 z, .int .u64 u] 97)).alloc (.cells #[.int .u64 0, .int .u64 0, .int .u64 0, .int .u64 0] 97)).drewN n)) (fun iv _ => 4 - (intOf iv).toNat)
 case atStart => exact .inl ⟨rfl, 0, rfl⟩
 case round =>
  rcases hrel with ⟨rfl, n, rfl⟩ | ⟨rfl, n, rfl⟩ | ⟨rfl, n, rfl⟩ | ⟨rfl, n, rfl⟩ | ⟨rfl, n, rfl⟩
  ·
   go_wp2
   go_region
   go_wp2
   go_roundw
   case rel => exact .inr (.inl ⟨rfl, n + 1, by rw [rg_setN]; simp [go_sem, orU]⟩)
   case measure => simp [intOf]
  ·
   go_wp2
   go_region
   go_wp2
   go_roundw
   case rel => exact .inr (.inr (.inl ⟨rfl, n + 1, by rw [rg_setN]; simp [go_sem, orU]⟩))
   case measure => simp [intOf]
  ·
   go_wp2
   go_region
   go_wp2
   go_roundw
   case rel => exact .inr (.inr (.inr (.inl ⟨rfl, n + 1, by rw [rg_setN]; simp [go_sem, orU]⟩)))
   case measure => simp [intOf]
  ·
   go_wp2
   go_region
   go_wp2
   go_roundw
   case rel => exact .inr (.inr (.inr (.inr (⟨rfl, n + 1, by rw [rg_setN]; simp [go_sem, orU]⟩))))
   case measure => simp [intOf]
  ·
   go_wp2
   exact bodyPost_ret (v := (⟨orU a x, orU b y, orU c z, orU d u⟩ : W4).val) (by simp [results, Tryz.results144, go_sem, W4.val]) rfl ⟨rfl, ((((rg_bN ((((Below.refl w.heap.size w).alloc (Nat.le_refl _) _).alloc (by simp) _).alloc (by simp; omega) _) _).setCell (by simp; omega) _).setCell (by simp; omega) _).setCell (by simp; omega) _).setCell (by simp; omega) _⟩
end Go.Proofs.YtmbfdkiejneheaaGreatDoor
