/-
 CONTRACT of layer 9's span: a byte or a range of a set.
-/
import Derived.Test.YtmbfdkiejneheaaGreatDoorLxM
import Derived.Test.YtmbfdkiejneheaaGreatDoorRgS
namespace Go.Proofs.YtmbfdkiejneheaaGreatDoor
open Go.RowKit

/-- A set lies in block g. -/
def Blk4 (w : World) (g : Nat) (a : W4) : Prop := w.heap[g]? = some (.cells #[.int .u64 a.a, .int .u64 a.b, .int .u64 a.c, .int .u64 a.d] 97 (0, 0))
structure Blk4C (w : World) (g : Nat) (a : W4) : Prop where
 c0 : w.cell? ⟨g, 0, none⟩ = some (.int .u64 a.a)
 c1 : w.cell? ⟨g, 1, none⟩ = some (.int .u64 a.b)
 c2 : w.cell? ⟨g, 2, none⟩ = some (.int .u64 a.c)
 c3 : w.cell? ⟨g, 3, none⟩ = some (.int .u64 a.d)
 f0 : w.frozen? ⟨g, 0, none⟩ = false
 f1 : w.frozen? ⟨g, 1, none⟩ = false
 f2 : w.frozen? ⟨g, 2, none⟩ = false
 f3 : w.frozen? ⟨g, 3, none⟩ = false
section
variable {w w' : World} {g b : Nat} {a : W4}
theorem Blk4.cells (h : Blk4 w g a) : Blk4C w g a := ⟨rg_cell h, rg_cell h, rg_cell h, rg_cell h, rg_frozen h, rg_frozen h, rg_frozen h, rg_frozen h⟩
theorem Blk4.lt (h : Blk4 w g a) : g < w.heap.size := (Array.getElem?_eq_some_iff.1 h).1
theorem Blk4.drewN (h : Blk4 w g a) (n : Nat) : Blk4 (w.drewN n) g a := h
theorem Blk4.alloc (h : Blk4 w g a) (o : Obj) : Blk4 (w.alloc o) g a := (Below.heap_alloc w o g h.lt).trans h
theorem Blk4.setNew (h : Blk4 w g a) {p : Addr} (hp : p.block ≠ g) (v : Value) : Blk4 (w.setCell p v) g a := (Below.heap_setCell w p v g (Ne.symm hp)).trans h
theorem Blk4.below (h : Blk4 w g a) (hb : Below w.heap.size w w') : Blk4 w' g a := (hb.block g h.lt).trans h
theorem Blk4.onl (h : Blk4 w g a) (hb : Onl b w w') (hg : g ≠ b) : Blk4 w' g a := (hb.block g h.lt hg).trans h
theorem Blk4.new (w : World) (a : W4) : Blk4 (w.alloc (.cells #[.int .u64 a.a, .int .u64 a.b, .int .u64 a.c, .int .u64 a.d] 97)) w.heap.size a := by
 exact heap_alloc_new w _
theorem Blk4.put (h : Blk4 w g a) (t : W4) : Blk4 ((((w.setCell ⟨g, 0, none⟩ (.int .u64 t.a)).setCell ⟨g, 1, none⟩ (.int .u64 t.b)).setCell ⟨g, 2, none⟩ (.int .u64 t.c)).setCell ⟨g, 3, none⟩ (.int .u64 t.d)) g t :=
 rg_setCell (rg_setCell (rg_setCell (rg_setCell h _) _) _) _
end
def VW4 (_ : World) (v : Value) (a : W4) : Prop := v = a.val
def GW4 (v : Value) : Prop := ∃ a : W4, v = a.val
/-- The end of a function whose result is a set. -/
theorem Onl.put4 {b g : Nat} {u w : World} (h : Onl b u w) (hg : u.heap.size ≤ g) (t : W4) : Onl b u ((((w.setCell ⟨g, 0, none⟩ (.int .u64 t.a)).setCell ⟨g, 1, none⟩ (.int .u64 t.b)).setCell ⟨g, 2, none⟩ (.int .u64 t.c)).setCell ⟨g, 3, none⟩ (.int .u64 t.d)) :=
 (((h.setNew hg _).setNew hg _).setNew hg _).setNew hg _
theorem Rg.put4 {w : World} {b g : Nat} {s : ByteArray} {p op bad er : Nat} (h : Rg w b s p op bad er) (hg : g ≠ b) (t : W4) : Rg ((((w.setCell ⟨g, 0, none⟩ (.int .u64 t.a)).setCell ⟨g, 1, none⟩ (.int .u64 t.b)).setCell ⟨g, 2, none⟩ (.int .u64 t.c)).setCell ⟨g, 3, none⟩ (.int .u64 t.d)) b s p op bad er :=
 (((h.setNew hg _).setNew hg _).setNew hg _).setNew hg _
theorem rwith_x (x : Nat) (hx : x ≤ 255) (a b c d : Int) (W : World) :
  Calls Tryz.prog 141 #[.agg #[.int .u64 a, .int .u64 b, .int .u64 c, .int .u64 d], .int .u8 (x : Int)] W fun e w' => e = .returned (.agg #[.int .u64 (withW ⟨a, b, c, d⟩ (UInt8.ofNat x)).a, .int .u64 (withW ⟨a, b, c, d⟩ (UInt8.ofNat x)).b, .int .u64 (withW ⟨a, b, c, d⟩ (UInt8.ofNat x)).c, .int .u64 (withW ⟨a, b, c, d⟩ (UInt8.ofNat x)).d]) ∧ Below W.heap.size W w' := by
 have := rwith_any ⟨a, b, c, d⟩ (UInt8.ofNat x) W
 rw [UInt8.toNat_ofNat_of_lt' (show x < 256 by omega)] at this
 exact this
set_option maxHeartbeats 8000000 in
set_option maxRecDepth 100000 in
theorem rspan_any (b : Nat) (s : ByteArray) (op n : Nat) (l : List UInt8) (w : World) (h : Rg w b s (s.size - l.length) op 0 0) (hl : l <:+ s.data.toList) (hs : s.size ≤ 100000) (hn : n ≤ s.size) :
  Calls Tryz.prog 143 #[.pointer (some ⟨b, 0, none⟩), .int .i64 ((s.size - n : Nat) : Int)] w (RdP VW4 GW4 b s op (spanR withW n l) w) := by
 have CW := kH rwith_x
 have HB : Hid (b ≠ w.heap.size) := kH (by have := h.lt; omega)
 obtain ⟨z0, hz0⟩ : ∃ z : UInt8, z = 0 := ⟨0, rfl⟩
 have Z0 := kH hz0
 clear hz0
 rcases l with _ | ⟨c, r⟩
 ·
  have D := kH fun W (H : Rg W b s s.size op 0 0) => rdone_yes b s op 0 0 W H
  have HR := kH (show Rg w b s s.size op 0 0 from h)
  have HL := kH hl
  rw [show spanR withW n [] = .ok (W4.zero, []) from rfl]
  clear h hl
  go_enter Tryz.func143, Tryz.ntmps143
  go_wp2_with fail
  refine (D.out _ (HR.out.alloc _)).mono ?_
  rintro e w1 ⟨rfl, m, rfl⟩
  go_wp2_with fail
  exact bodyPost_ret (v := W4.zero.val) (by simp [results, Tryz.results143, go_sem, W4.val, W4.zero]) rfl (by
   refine ⟨HL.out, _, rfl, rfl, ?_, ?_⟩
   ·
    exact (((((HR.out.alloc _).drewN _).setNew (fun e => HB.out e.symm) _).setNew (fun e => HB.out e.symm) _).setNew (fun e => HB.out e.symm) _).setNew (fun e => HB.out e.symm) _
   ·
    exact ((((((Onl.refl b w).alloc _).drewN).setNew (Nat.le_refl _) _).setNew (Nat.le_refl _) _).setNew (Nat.le_refl _) _).setNew (Nat.le_refl _) _)
 ·
  obtain ⟨p, hp, hc, e1, e2, hr, hlen⟩ := rg_cons hl
  have hp1 : s.size - (c :: r).length = p := e1
  have D := kH fun W (H : Rg W b s p op 0 0) => rdone_no b s p op 0 0 W H hp
  have NX := kH fun W (H : Rg W b s (s.size - (c :: r).length) op 0 0) => rnext_any b s op (c :: r) W H hl hs (by simp)
  rw [hp1] at NX
  have HR := kH h
  rw [hp1] at HR
  have DE := kH fun W bad er H => rdash_any b s op bad er [] W H (List.nil_suffix) hs
  cases hx : nextR (c :: r) with
  | error x =>
   obtain ⟨bd, er⟩ := x
   rw [show spanR withW n (c :: r) = .error (bd, er) from by simp only [spanR, hx]]
   obtain ⟨F, hF⟩ : ∃ F, rangeN withW z0.toNat (z0.toNat + 1 - z0.toNat) W4.zero = F := ⟨_, rfl⟩
   have HF := kH hF
   rw [hx] at NX
   clear h hl hF e1 e2 hr hlen hx hp1
   go_enter Tryz.func143, Tryz.ntmps143
   go_wp2_with fail
   refine (D.out _ (HR.out.alloc _)).mono ?_
   rintro e w1 ⟨rfl, m, rfl⟩
   go_wp2_with fail
   refine (NX.out _ ((HR.out.alloc _).drewN _)).mono ?_
   rintro e w1 ⟨her, hbd, v, rfl, hv, hr1, o1⟩
   obtain rfl : v = .int .u8 (z0.toNat : Int) := by rw [hv, Z0.out]; rfl
   have H4 := kH (((Blk4.new w W4.zero).drewN m).onl o1 (fun e => HB.out e.symm))
   have HR := kH hr1
   have HO := kH (((Onl.refl b w).alloc (.cells #[.int .u64 W4.zero.a, .int .u64 W4.zero.b, .int .u64 W4.zero.c, .int .u64 W4.zero.d] 97)).drewN.trans o1)
   have HE := kH (And.intro her hbd)
   clear hr1 o1 NX her hbd hv
   go_wp2_with fail
   refine (DE.out _ _ _ HR.out).mono ?_
   rintro e w2 ⟨rfl, m2, rfl⟩
   rw [show dashB [] = false from rfl]
   have HR := kH (HR.out.drewN m2)
   have HO := kH (HO.out.drewN (n := m2))
   have H4 := kH (H4.out.drewN m2)
   generalize w1.drewN m2 = wc at *
   have HN := kH (Blk4.new wc W4.zero)
   have HR7 := kH (HR.out.alloc (.cells #[.int .u64 W4.zero.a, .int .u64 W4.zero.b, .int .u64 W4.zero.c, .int .u64 W4.zero.d] 97))
   have HO7 := kH (HO.out.alloc (.cells #[.int .u64 W4.zero.a, .int .u64 W4.zero.b, .int .u64 W4.zero.c, .int .u64 W4.zero.d] 97))
   have H47 := kH (H4.out.alloc (.cells #[.int .u64 W4.zero.a, .int .u64 W4.zero.b, .int .u64 W4.zero.c, .int .u64 W4.zero.d] 97))
   obtain ⟨g7, hg7⟩ : ∃ g7, wc.heap.size = g7 := ⟨_, rfl⟩
   have HG : Hid (g7 ≠ b ∧ w.heap.size ≤ g7 ∧ w.heap.size ≠ g7) := kH ⟨by have := HR.out.lt; omega, by have := HO.out.size; omega, by have := H4.out.lt; omega⟩
   clear HR HO H4
   have hlb : (z0.toNat : Int) ≤ 255 := by have := z0.toNat_lt; omega
   have hlb0 : 0 ≤ (z0.toNat : Int) := by omega
   go_wp2_with fail
   rw [hg7] at HN
   clear hg7
   go_loopw [8] (fun cv wr => ∃ (x : Nat) (cur : W4), x ≤ 256 ∧ cv = .int .i64 (x : Int) ∧ Hid (rangeN withW x (z0.toNat + 1 - x) cur = F) ∧ Hid (Blk4 wr g7 cur) ∧ Hid (Blk4 wr w.heap.size W4.zero) ∧ Hid (Rg wr b s s.size op (s.size - bd) er) ∧ Hid (Onl b w wr)) (fun cv _ => 256 - (intOf cv).toNat)
   case atStart => exact ⟨z0.toNat, W4.zero, by have := z0.toNat_lt; omega, rfl, HF, HN, H47, HR7, HO7⟩
   case round =>
    clear HN HR7 HO7 H47
    obtain ⟨x, cur, hx, rfl, HF, HN, H4, HR, HO⟩ := hrel
    have hhb := z0.toNat_lt
    by_cases hle : x ≤ z0.toNat
    ·
     have hle2 : (x : Int) ≤ (z0.toNat : Int) := by omega
     have hw8 : IntKind.u8.wrap (x : Int) = (x : Int) := by rw [IntKind.wrap_u8]; omega
     have hx5 : x ≤ 255 := by omega
     have HF2 : Hid (rangeN withW (x + 1) (z0.toNat + 1 - (x + 1)) (withW cur (UInt8.ofNat x)) = F) := kH (by
      have h := HF.out
      rw [show z0.toNat + 1 - x = (z0.toNat + 1 - (x + 1)) + 1 from by omega] at h
      exact h)
     clear HF
     obtain ⟨c0, c1, c2, c3, f0, f1, f2, f3⟩ := HN.out.cells
     go_wp2_with fail
     refine (CW.out x hx5 _ _ _ _ _).mono ?_
     rintro e w7 ⟨rfl, hb7⟩
     have HN7 := kH ((HN.out.below hb7).put (withW cur (UInt8.ofNat x)))
     have H47 := kH (((((H4.out.below hb7).setNew (p := ⟨g7, 0, none⟩) (Ne.symm HG.out.2.2) (.int .u64 (withW cur (UInt8.ofNat x)).a)).setNew (p := ⟨g7, 1, none⟩) (Ne.symm HG.out.2.2) (.int .u64 (withW cur (UInt8.ofNat x)).b)).setNew (p := ⟨g7, 2, none⟩) (Ne.symm HG.out.2.2) (.int .u64 (withW cur (UInt8.ofNat x)).c)).setNew (p := ⟨g7, 3, none⟩) (Ne.symm HG.out.2.2) (.int .u64 (withW cur (UInt8.ofNat x)).d))
     have HR7 := kH ((HR.out.below hb7).put4 HG.out.1 (withW cur (UInt8.ofNat x)))
     have HO7 := kH ((HO.out.trans (Onl.of_below hb7 (Nat.le_refl _))).put4 HG.out.2.1 (withW cur (UInt8.ofNat x)))
     clear c0 c1 c2 c3 f0 f1 f2 f3
     obtain ⟨c0, c1, c2, c3, f0, f1, f2, f3⟩ := (HN.out.below hb7).cells
     clear hb7 HN H4 HR HO
     rw [show withW ⟨cur.a, cur.b, cur.c, cur.d⟩ (UInt8.ofNat x) = withW cur (UInt8.ofNat x) from rfl]
     generalize withW cur (UInt8.ofNat x) = nx at *
     go_wp2_with fail
     go_roundw
     case rel => exact ⟨x + 1, nx, by omega, by go_num, HF2, HN7, H47, HR7, HO7⟩
     case measure => simp [intOf]; omega
    ·
     have hle2 : ¬ (x : Int) ≤ (z0.toNat : Int) := by omega
     have hF : cur = F := by
      have h := HF.out
      rw [show z0.toNat + 1 - x = 0 from by omega] at h
      exact h
     have HFF := kH hF
     clear hF HF
     obtain ⟨c0, c1, c2, c3, f0, f1, f2, f3⟩ := HN.out.cells
     obtain ⟨d0, d1, d2, d3, k0, k1, k2, k3⟩ := H4.out.cells
     go_wp2_with fail
     exact bodyPost_ret (v := cur.val) (by simp [results, Tryz.results143, go_sem, W4.val, d0, d1, d2, d3]) rfl (by
      have hR := HR.out.put4 (fun e => HB.out e.symm) cur
      have hO := HO.out.put4 (Nat.le_refl _) cur
      rw [HFF.out] at hR hO ⊢
      exact ⟨HE.out.1, HE.out.2, _, rfl, ⟨_, rfl⟩, hR, hO⟩)
  | ok x =>
   obtain ⟨lo, r1⟩ := x
   have hlo := lo.toNat_lt
   rw [hx] at NX
   have DA := kH fun W (hq : r1 <:+ s.data.toList) (H : Rg W b s (s.size - r1.length) op 0 0) => rdash_any b s op 0 0 r1 W H hq hs
   cases hd : dashB r1 with
   | false =>
    rw [show spanR withW n (c :: r) = .ok (rangeW withW lo lo, r1) from by simp only [spanR, hx]; rw [if_neg (by rw [hd]; simp)]]
    obtain ⟨F, hF⟩ : ∃ F, rangeN withW lo.toNat (lo.toNat + 1 - lo.toNat) W4.zero = F := ⟨_, rfl⟩
    rw [show rangeW withW lo lo = F from hF]
    have HF := kH hF
    rw [hd] at DA
    clear h hl hF e1 e2 hr hlen hx hp1 hd
    go_enter Tryz.func143, Tryz.ntmps143
    go_wp2_with fail
    refine (D.out _ (HR.out.alloc _)).mono ?_
    rintro e w1 ⟨rfl, m, rfl⟩
    go_wp2_with fail
    refine (NX.out _ ((HR.out.alloc _).drewN _)).mono ?_
    rintro e w1 ⟨hs1, v, rfl, rfl, hr1, o1⟩
    have H4 := kH (((Blk4.new w W4.zero).drewN m).onl o1 (fun e => HB.out e.symm))
    have HR := kH hr1
    have HO := kH (((Onl.refl b w).alloc (.cells #[.int .u64 W4.zero.a, .int .u64 W4.zero.b, .int .u64 W4.zero.c, .int .u64 W4.zero.d] 97)).drewN.trans o1)
    have HS := kH hs1
    clear hr1 o1 NX hs1
    go_wp2_with fail
    refine (DA.out _ HS.out HR.out).mono ?_
    rintro e w2 ⟨rfl, m2, rfl⟩
    have HR := kH (HR.out.drewN m2)
    have HO := kH (HO.out.drewN (n := m2))
    have H4 := kH (H4.out.drewN m2)
    generalize w1.drewN m2 = wc at *
    have HN := kH (Blk4.new wc W4.zero)
    have HR7 := kH (HR.out.alloc (.cells #[.int .u64 W4.zero.a, .int .u64 W4.zero.b, .int .u64 W4.zero.c, .int .u64 W4.zero.d] 97))
    have HO7 := kH (HO.out.alloc (.cells #[.int .u64 W4.zero.a, .int .u64 W4.zero.b, .int .u64 W4.zero.c, .int .u64 W4.zero.d] 97))
    have H47 := kH (H4.out.alloc (.cells #[.int .u64 W4.zero.a, .int .u64 W4.zero.b, .int .u64 W4.zero.c, .int .u64 W4.zero.d] 97))
    obtain ⟨g7, hg7⟩ : ∃ g7, wc.heap.size = g7 := ⟨_, rfl⟩
    have HG : Hid (g7 ≠ b ∧ w.heap.size ≤ g7 ∧ w.heap.size ≠ g7) := kH ⟨by have := HR.out.lt; omega, by have := HO.out.size; omega, by have := H4.out.lt; omega⟩
    clear HR HO H4
    have hlb : (lo.toNat : Int) ≤ 255 := by have := lo.toNat_lt; omega
    have hlb0 : 0 ≤ (lo.toNat : Int) := by omega
    go_wp2_with fail
    rw [hg7] at HN
    clear hg7
    go_loopw [8] (fun cv wr => ∃ (x : Nat) (cur : W4), x ≤ 256 ∧ cv = .int .i64 (x : Int) ∧ Hid (rangeN withW x (lo.toNat + 1 - x) cur = F) ∧ Hid (Blk4 wr g7 cur) ∧ Hid (Blk4 wr w.heap.size W4.zero) ∧ Hid (Rg wr b s (s.size - r1.length) op 0 0) ∧ Hid (Onl b w wr)) (fun cv _ => 256 - (intOf cv).toNat)
    case atStart => exact ⟨lo.toNat, W4.zero, by have := lo.toNat_lt; omega, rfl, HF, HN, H47, HR7, HO7⟩
    case round =>
     clear HN HR7 HO7 H47
     obtain ⟨x, cur, hx, rfl, HF, HN, H4, HR, HO⟩ := hrel
     have hhb := lo.toNat_lt
     by_cases hle : x ≤ lo.toNat
     ·
      have hle2 : (x : Int) ≤ (lo.toNat : Int) := by omega
      have hw8 : IntKind.u8.wrap (x : Int) = (x : Int) := by rw [IntKind.wrap_u8]; omega
      have hx5 : x ≤ 255 := by omega
      have HF2 : Hid (rangeN withW (x + 1) (lo.toNat + 1 - (x + 1)) (withW cur (UInt8.ofNat x)) = F) := kH (by
       have h := HF.out
       rw [show lo.toNat + 1 - x = (lo.toNat + 1 - (x + 1)) + 1 from by omega] at h
       exact h)
      clear HF
      obtain ⟨c0, c1, c2, c3, f0, f1, f2, f3⟩ := HN.out.cells
      go_wp2_with fail
      refine (CW.out x hx5 _ _ _ _ _).mono ?_
      rintro e w7 ⟨rfl, hb7⟩
      have HN7 := kH ((HN.out.below hb7).put (withW cur (UInt8.ofNat x)))
      have H47 := kH (((((H4.out.below hb7).setNew (p := ⟨g7, 0, none⟩) (Ne.symm HG.out.2.2) (.int .u64 (withW cur (UInt8.ofNat x)).a)).setNew (p := ⟨g7, 1, none⟩) (Ne.symm HG.out.2.2) (.int .u64 (withW cur (UInt8.ofNat x)).b)).setNew (p := ⟨g7, 2, none⟩) (Ne.symm HG.out.2.2) (.int .u64 (withW cur (UInt8.ofNat x)).c)).setNew (p := ⟨g7, 3, none⟩) (Ne.symm HG.out.2.2) (.int .u64 (withW cur (UInt8.ofNat x)).d))
      have HR7 := kH ((HR.out.below hb7).put4 HG.out.1 (withW cur (UInt8.ofNat x)))
      have HO7 := kH ((HO.out.trans (Onl.of_below hb7 (Nat.le_refl _))).put4 HG.out.2.1 (withW cur (UInt8.ofNat x)))
      clear c0 c1 c2 c3 f0 f1 f2 f3
      obtain ⟨c0, c1, c2, c3, f0, f1, f2, f3⟩ := (HN.out.below hb7).cells
      clear hb7 HN H4 HR HO
      rw [show withW ⟨cur.a, cur.b, cur.c, cur.d⟩ (UInt8.ofNat x) = withW cur (UInt8.ofNat x) from rfl]
      generalize withW cur (UInt8.ofNat x) = nx at *
      go_wp2_with fail
      go_roundw
      case rel => exact ⟨x + 1, nx, by omega, by go_num, HF2, HN7, H47, HR7, HO7⟩
      case measure => simp [intOf]; omega
     ·
      have hle2 : ¬ (x : Int) ≤ (lo.toNat : Int) := by omega
      have hF : cur = F := by
       have h := HF.out
       rw [show lo.toNat + 1 - x = 0 from by omega] at h
       exact h
      have HFF := kH hF
      clear hF HF
      obtain ⟨c0, c1, c2, c3, f0, f1, f2, f3⟩ := HN.out.cells
      obtain ⟨d0, d1, d2, d3, k0, k1, k2, k3⟩ := H4.out.cells
      go_wp2_with fail
      exact bodyPost_ret (v := cur.val) (by simp [results, Tryz.results143, go_sem, W4.val, d0, d1, d2, d3]) rfl (by
       have hR := HR.out.put4 (fun e => HB.out e.symm) cur
       have hO := HO.out.put4 (Nat.le_refl _) cur
       rw [HFF.out] at hR hO ⊢
       exact ⟨HS.out, _, rfl, rfl, hR, hO⟩)
   | true =>
    have hdr : r1.drop 1 ≠ [] := by
     rcases r1 with _ | ⟨x, _ | ⟨y, r'⟩⟩
     ·
      simp [dashB] at hd
     ·
      simp [dashB] at hd
     ·
      simp
    have hdl : r1 = r1.headD 0 :: r1.drop 1 := by
     rcases r1 with _ | ⟨x, r'⟩
     ·
      simp [dashB] at hd
     ·
      rfl
    have hq1 : r1 <:+ s.data.toList → r1.drop 1 <:+ s.data.toList ∧ s.size - (r1.drop 1).length = s.size - r1.length + 1 := fun h => by
     rw [hdl] at h
     obtain ⟨p2, _, _, k1, k2, k3, _⟩ := rg_cons h
     refine ⟨k3, ?_⟩
     rw [k2]
     conv => rhs; rw [hdl]
     rw [List.length_cons, k1]
    have HQ := kH hq1
    have N2 := kH fun W (hq : r1.drop 1 <:+ s.data.toList) (H : Rg W b s (s.size - (r1.drop 1).length) op 0 0) => rnext_any b s op (r1.drop 1) W H hq hs hdr
    rw [hd] at DA
    have hlo0 : 0 ≤ (lo.toNat : Int) := by omega
    cases hy : nextR (r1.drop 1) with
    | error y =>
     obtain ⟨bd, er⟩ := y
     rw [show spanR withW n (c :: r) = .error (bd, er) from by simp only [spanR, hx]; rw [if_pos hd]; simp only [hy]]
     rw [hy] at N2
     obtain ⟨F, hF⟩ : ∃ F, rangeN withW lo.toNat (z0.toNat + 1 - lo.toNat) W4.zero = F := ⟨_, rfl⟩
     have HF := kH hF
     clear h hl hF e1 e2 hr hlen hx hp1 hd hdr hdl hq1 hy
     go_enter Tryz.func143, Tryz.ntmps143
     go_wp2_with fail
     refine (D.out _ (HR.out.alloc _)).mono ?_
     rintro e w1 ⟨rfl, m, rfl⟩
     go_wp2_with fail
     refine (NX.out _ ((HR.out.alloc _).drewN _)).mono ?_
     rintro e w1 ⟨hs1, v, rfl, rfl, hr1, o1⟩
     have H4 := kH (((Blk4.new w W4.zero).drewN m).onl o1 (fun e => HB.out e.symm))
     have HR := kH hr1
     have HO := kH (((Onl.refl b w).alloc (.cells #[.int .u64 W4.zero.a, .int .u64 W4.zero.b, .int .u64 W4.zero.c, .int .u64 W4.zero.d] 97)).drewN.trans o1)
     have HS := kH hs1
     clear hr1 o1 NX hs1
     go_wp2_with fail
     refine (DA.out _ HS.out HR.out).mono ?_
     rintro e w2 ⟨rfl, m2, rfl⟩
     have HR := kH (HR.out.drewN m2)
     have HO := kH (HO.out.drewN (n := m2))
     have H4 := kH (H4.out.drewN m2)
     generalize w1.drewN m2 = wd at *
     have hpb : ((s.size - r1.length : Nat) : Int) ≤ 100000 := by omega
     obtain ⟨c0, c1, c2, c3, c4, f1, f2, f3, f4⟩ := HR.out.cells
     go_wp2_with fail
     refine (N2.out _ (HQ.out HS.out).1 (by rw [(HQ.out HS.out).2]; exact HR.out.setP _)).mono ?_
     rintro e w3 ⟨her, hbd, v, rfl, hv, hr3, o3⟩
     obtain rfl : v = .int .u8 (z0.toNat : Int) := by rw [hv, Z0.out]; rfl
     have H4 := kH ((H4.out.setNew (p := ⟨b, 1, none⟩) HB.out (.int .i64 ((s.size - r1.length + 1 : Nat) : Int))).onl o3 (fun e => HB.out e.symm))
     have HR := kH hr3
     have HO := kH ((HO.out.setCell 1 (.int .i64 ((s.size - r1.length + 1 : Nat) : Int))).trans o3)
     have HE := kH (And.intro her hbd)
     clear hr3 o3 her hbd hv c0 c1 c2 c3 c4 f1 f2 f3 f4
     by_cases hgt : z0.toNat < lo.toNat
     ·
      have hgt2 : (z0.toNat : Int) < (lo.toNat : Int) := by omega
      have FA := kH fun W H => rfail1 b s s.size op (s.size - bd) er (s.size - n) 9 W H (by rcases HE.out.1 with h | h <;> omega)
      go_wp2_with fail
      refine (FA.out _ HR.out).mono ?_
      rintro e w4 ⟨rfl, hr4, o4⟩
      have H4 := kH (H4.out.onl o4 (fun e => HB.out e.symm))
      have HR := kH hr4
      have HO := kH (HO.out.trans o4)
      clear hr4 o4
      have HN := kH (Blk4.new w4 W4.zero)
      have HR7 := kH (HR.out.alloc (.cells #[.int .u64 W4.zero.a, .int .u64 W4.zero.b, .int .u64 W4.zero.c, .int .u64 W4.zero.d] 97))
      have HO7 := kH (HO.out.alloc (.cells #[.int .u64 W4.zero.a, .int .u64 W4.zero.b, .int .u64 W4.zero.c, .int .u64 W4.zero.d] 97))
      have H47 := kH (H4.out.alloc (.cells #[.int .u64 W4.zero.a, .int .u64 W4.zero.b, .int .u64 W4.zero.c, .int .u64 W4.zero.d] 97))
      obtain ⟨g7, hg7⟩ : ∃ g7, w4.heap.size = g7 := ⟨_, rfl⟩
      have HG : Hid (g7 ≠ b ∧ w.heap.size ≤ g7 ∧ w.heap.size ≠ g7) := kH ⟨by have := HR.out.lt; omega, by have := HO.out.size; omega, by have := H4.out.lt; omega⟩
      clear HR HO H4
      have hlb : (lo.toNat : Int) ≤ 255 := by have := lo.toNat_lt; omega
      have hlb0 : 0 ≤ (lo.toNat : Int) := by omega
      go_wp2_with fail
      rw [hg7] at HN
      clear hg7
      go_loopw [8] (fun cv wr => ∃ (x : Nat) (cur : W4), x ≤ 256 ∧ cv = .int .i64 (x : Int) ∧ Hid (rangeN withW x (z0.toNat + 1 - x) cur = F) ∧ Hid (Blk4 wr g7 cur) ∧ Hid (Blk4 wr w.heap.size W4.zero) ∧ Hid (Rg wr b s s.size op (s.size - bd) er) ∧ Hid (Onl b w wr)) (fun cv _ => 256 - (intOf cv).toNat)
      case atStart => exact ⟨lo.toNat, W4.zero, by have := lo.toNat_lt; omega, rfl, HF, HN, H47, HR7, HO7⟩
      case round =>
       clear HN HR7 HO7 H47
       obtain ⟨x, cur, hx, rfl, HF, HN, H4, HR, HO⟩ := hrel
       have hhb := z0.toNat_lt
       by_cases hle : x ≤ z0.toNat
       ·
        have hle2 : (x : Int) ≤ (z0.toNat : Int) := by omega
        have hw8 : IntKind.u8.wrap (x : Int) = (x : Int) := by rw [IntKind.wrap_u8]; omega
        have hx5 : x ≤ 255 := by omega
        have HF2 : Hid (rangeN withW (x + 1) (z0.toNat + 1 - (x + 1)) (withW cur (UInt8.ofNat x)) = F) := kH (by
         have h := HF.out
         rw [show z0.toNat + 1 - x = (z0.toNat + 1 - (x + 1)) + 1 from by omega] at h
         exact h)
        clear HF
        obtain ⟨c0, c1, c2, c3, f0, f1, f2, f3⟩ := HN.out.cells
        go_wp2_with fail
        refine (CW.out x hx5 _ _ _ _ _).mono ?_
        rintro e w7 ⟨rfl, hb7⟩
        have HN7 := kH ((HN.out.below hb7).put (withW cur (UInt8.ofNat x)))
        have H47 := kH (((((H4.out.below hb7).setNew (p := ⟨g7, 0, none⟩) (Ne.symm HG.out.2.2) (.int .u64 (withW cur (UInt8.ofNat x)).a)).setNew (p := ⟨g7, 1, none⟩) (Ne.symm HG.out.2.2) (.int .u64 (withW cur (UInt8.ofNat x)).b)).setNew (p := ⟨g7, 2, none⟩) (Ne.symm HG.out.2.2) (.int .u64 (withW cur (UInt8.ofNat x)).c)).setNew (p := ⟨g7, 3, none⟩) (Ne.symm HG.out.2.2) (.int .u64 (withW cur (UInt8.ofNat x)).d))
        have HR7 := kH ((HR.out.below hb7).put4 HG.out.1 (withW cur (UInt8.ofNat x)))
        have HO7 := kH ((HO.out.trans (Onl.of_below hb7 (Nat.le_refl _))).put4 HG.out.2.1 (withW cur (UInt8.ofNat x)))
        clear c0 c1 c2 c3 f0 f1 f2 f3
        obtain ⟨c0, c1, c2, c3, f0, f1, f2, f3⟩ := (HN.out.below hb7).cells
        clear hb7 HN H4 HR HO
        rw [show withW ⟨cur.a, cur.b, cur.c, cur.d⟩ (UInt8.ofNat x) = withW cur (UInt8.ofNat x) from rfl]
        generalize withW cur (UInt8.ofNat x) = nx at *
        go_wp2_with fail
        go_roundw
        case rel => exact ⟨x + 1, nx, by omega, by go_num, HF2, HN7, H47, HR7, HO7⟩
        case measure => simp [intOf]; omega
       ·
        have hle2 : ¬ (x : Int) ≤ (z0.toNat : Int) := by omega
        have hF : cur = F := by
         have h := HF.out
         rw [show z0.toNat + 1 - x = 0 from by omega] at h
         exact h
        have HFF := kH hF
        clear hF HF
        obtain ⟨c0, c1, c2, c3, f0, f1, f2, f3⟩ := HN.out.cells
        obtain ⟨d0, d1, d2, d3, k0, k1, k2, k3⟩ := H4.out.cells
        go_wp2_with fail
        exact bodyPost_ret (v := cur.val) (by simp [results, Tryz.results143, go_sem, W4.val, d0, d1, d2, d3]) rfl (by
         have hR := HR.out.put4 (fun e => HB.out e.symm) cur
         have hO := HO.out.put4 (Nat.le_refl _) cur
         rw [HFF.out] at hR hO ⊢
         exact ⟨HE.out.1, HE.out.2, _, rfl, ⟨_, rfl⟩, hR, hO⟩)
     ·
      have hgt2 : ¬ (z0.toNat : Int) < (lo.toNat : Int) := by omega
      have HN := kH (Blk4.new w3 W4.zero)
      have HR7 := kH (HR.out.alloc (.cells #[.int .u64 W4.zero.a, .int .u64 W4.zero.b, .int .u64 W4.zero.c, .int .u64 W4.zero.d] 97))
      have HO7 := kH (HO.out.alloc (.cells #[.int .u64 W4.zero.a, .int .u64 W4.zero.b, .int .u64 W4.zero.c, .int .u64 W4.zero.d] 97))
      have H47 := kH (H4.out.alloc (.cells #[.int .u64 W4.zero.a, .int .u64 W4.zero.b, .int .u64 W4.zero.c, .int .u64 W4.zero.d] 97))
      obtain ⟨g7, hg7⟩ : ∃ g7, w3.heap.size = g7 := ⟨_, rfl⟩
      have HG : Hid (g7 ≠ b ∧ w.heap.size ≤ g7 ∧ w.heap.size ≠ g7) := kH ⟨by have := HR.out.lt; omega, by have := HO.out.size; omega, by have := H4.out.lt; omega⟩
      clear HR HO H4
      have hlb : (lo.toNat : Int) ≤ 255 := by have := lo.toNat_lt; omega
      have hlb0 : 0 ≤ (lo.toNat : Int) := by omega
      go_wp2_with fail
      rw [hg7] at HN
      clear hg7
      go_loopw [8] (fun cv wr => ∃ (x : Nat) (cur : W4), x ≤ 256 ∧ cv = .int .i64 (x : Int) ∧ Hid (rangeN withW x (z0.toNat + 1 - x) cur = F) ∧ Hid (Blk4 wr g7 cur) ∧ Hid (Blk4 wr w.heap.size W4.zero) ∧ Hid (Rg wr b s s.size op (s.size - bd) er) ∧ Hid (Onl b w wr)) (fun cv _ => 256 - (intOf cv).toNat)
      case atStart => exact ⟨lo.toNat, W4.zero, by have := lo.toNat_lt; omega, rfl, HF, HN, H47, HR7, HO7⟩
      case round =>
       clear HN HR7 HO7 H47
       obtain ⟨x, cur, hx, rfl, HF, HN, H4, HR, HO⟩ := hrel
       have hhb := z0.toNat_lt
       by_cases hle : x ≤ z0.toNat
       ·
        have hle2 : (x : Int) ≤ (z0.toNat : Int) := by omega
        have hw8 : IntKind.u8.wrap (x : Int) = (x : Int) := by rw [IntKind.wrap_u8]; omega
        have hx5 : x ≤ 255 := by omega
        have HF2 : Hid (rangeN withW (x + 1) (z0.toNat + 1 - (x + 1)) (withW cur (UInt8.ofNat x)) = F) := kH (by
         have h := HF.out
         rw [show z0.toNat + 1 - x = (z0.toNat + 1 - (x + 1)) + 1 from by omega] at h
         exact h)
        clear HF
        obtain ⟨c0, c1, c2, c3, f0, f1, f2, f3⟩ := HN.out.cells
        go_wp2_with fail
        refine (CW.out x hx5 _ _ _ _ _).mono ?_
        rintro e w7 ⟨rfl, hb7⟩
        have HN7 := kH ((HN.out.below hb7).put (withW cur (UInt8.ofNat x)))
        have H47 := kH (((((H4.out.below hb7).setNew (p := ⟨g7, 0, none⟩) (Ne.symm HG.out.2.2) (.int .u64 (withW cur (UInt8.ofNat x)).a)).setNew (p := ⟨g7, 1, none⟩) (Ne.symm HG.out.2.2) (.int .u64 (withW cur (UInt8.ofNat x)).b)).setNew (p := ⟨g7, 2, none⟩) (Ne.symm HG.out.2.2) (.int .u64 (withW cur (UInt8.ofNat x)).c)).setNew (p := ⟨g7, 3, none⟩) (Ne.symm HG.out.2.2) (.int .u64 (withW cur (UInt8.ofNat x)).d))
        have HR7 := kH ((HR.out.below hb7).put4 HG.out.1 (withW cur (UInt8.ofNat x)))
        have HO7 := kH ((HO.out.trans (Onl.of_below hb7 (Nat.le_refl _))).put4 HG.out.2.1 (withW cur (UInt8.ofNat x)))
        clear c0 c1 c2 c3 f0 f1 f2 f3
        obtain ⟨c0, c1, c2, c3, f0, f1, f2, f3⟩ := (HN.out.below hb7).cells
        clear hb7 HN H4 HR HO
        rw [show withW ⟨cur.a, cur.b, cur.c, cur.d⟩ (UInt8.ofNat x) = withW cur (UInt8.ofNat x) from rfl]
        generalize withW cur (UInt8.ofNat x) = nx at *
        go_wp2_with fail
        go_roundw
        case rel => exact ⟨x + 1, nx, by omega, by go_num, HF2, HN7, H47, HR7, HO7⟩
        case measure => simp [intOf]; omega
       ·
        have hle2 : ¬ (x : Int) ≤ (z0.toNat : Int) := by omega
        have hF : cur = F := by
         have h := HF.out
         rw [show z0.toNat + 1 - x = 0 from by omega] at h
         exact h
        have HFF := kH hF
        clear hF HF
        obtain ⟨c0, c1, c2, c3, f0, f1, f2, f3⟩ := HN.out.cells
        obtain ⟨d0, d1, d2, d3, k0, k1, k2, k3⟩ := H4.out.cells
        go_wp2_with fail
        exact bodyPost_ret (v := cur.val) (by simp [results, Tryz.results143, go_sem, W4.val, d0, d1, d2, d3]) rfl (by
         have hR := HR.out.put4 (fun e => HB.out e.symm) cur
         have hO := HO.out.put4 (Nat.le_refl _) cur
         rw [HFF.out] at hR hO ⊢
         exact ⟨HE.out.1, HE.out.2, _, rfl, ⟨_, rfl⟩, hR, hO⟩)
    | ok y =>
     obtain ⟨hi, r2⟩ := y
     rw [hy] at N2
     obtain ⟨F, hF⟩ : ∃ F, rangeN withW lo.toNat (hi.toNat + 1 - lo.toNat) W4.zero = F := ⟨_, rfl⟩
     have HF := kH hF
     have hrw : rangeW withW lo hi = F := hF
     by_cases hgt : hi < lo
     ·
      rw [show spanR withW n (c :: r) = .error (n, 9) from by simp only [spanR, hx]; rw [if_pos hd]; simp only [hy]; rw [if_pos hgt]]
      have hgt2 : (hi.toNat : Int) < (lo.toNat : Int) := by rw [UInt8.lt_iff_toNat_lt] at hgt; omega
      have FA := kH fun W p H => rfail0 b s p op 0 (s.size - n) 9 W H
      clear h hl hF e1 e2 hr hlen hx hp1 hd hdr hdl hq1 hy hrw hgt
      go_enter Tryz.func143, Tryz.ntmps143
      go_wp2_with fail
      refine (D.out _ (HR.out.alloc _)).mono ?_
      rintro e w1 ⟨rfl, m, rfl⟩
      go_wp2_with fail
      refine (NX.out _ ((HR.out.alloc _).drewN _)).mono ?_
      rintro e w1 ⟨hs1, v, rfl, rfl, hr1, o1⟩
      have H4 := kH (((Blk4.new w W4.zero).drewN m).onl o1 (fun e => HB.out e.symm))
      have HR := kH hr1
      have HO := kH (((Onl.refl b w).alloc (.cells #[.int .u64 W4.zero.a, .int .u64 W4.zero.b, .int .u64 W4.zero.c, .int .u64 W4.zero.d] 97)).drewN.trans o1)
      have HS := kH hs1
      clear hr1 o1 NX hs1
      go_wp2_with fail
      refine (DA.out _ HS.out HR.out).mono ?_
      rintro e w2 ⟨rfl, m2, rfl⟩
      have HR := kH (HR.out.drewN m2)
      have HO := kH (HO.out.drewN (n := m2))
      have H4 := kH (H4.out.drewN m2)
      generalize w1.drewN m2 = wd at *
      have hpb : ((s.size - r1.length : Nat) : Int) ≤ 100000 := by omega
      obtain ⟨c0, c1, c2, c3, c4, f1, f2, f3, f4⟩ := HR.out.cells
      go_wp2_with fail
      refine (N2.out _ (HQ.out HS.out).1 (by rw [(HQ.out HS.out).2]; exact HR.out.setP _)).mono ?_
      rintro e w3 ⟨hs2, v, rfl, rfl, hr3, o3⟩
      have H4 := kH ((H4.out.setNew (p := ⟨b, 1, none⟩) HB.out (.int .i64 ((s.size - r1.length + 1 : Nat) : Int))).onl o3 (fun e => HB.out e.symm))
      have HR := kH hr3
      have HO := kH ((HO.out.setCell 1 (.int .i64 ((s.size - r1.length + 1 : Nat) : Int))).trans o3)
      clear hr3 o3 c0 c1 c2 c3 c4 f1 f2 f3 f4 hs2
      go_wp2_with fail
      refine (FA.out _ _ HR.out).mono ?_
      rintro e w4 ⟨rfl, hr4, o4⟩
      have H4 := kH (H4.out.onl o4 (fun e => HB.out e.symm))
      have HR := kH hr4
      have HO := kH (HO.out.trans o4)
      clear hr4 o4
      have HN := kH (Blk4.new w4 W4.zero)
      have HR7 := kH (HR.out.alloc (.cells #[.int .u64 W4.zero.a, .int .u64 W4.zero.b, .int .u64 W4.zero.c, .int .u64 W4.zero.d] 97))
      have HO7 := kH (HO.out.alloc (.cells #[.int .u64 W4.zero.a, .int .u64 W4.zero.b, .int .u64 W4.zero.c, .int .u64 W4.zero.d] 97))
      have H47 := kH (H4.out.alloc (.cells #[.int .u64 W4.zero.a, .int .u64 W4.zero.b, .int .u64 W4.zero.c, .int .u64 W4.zero.d] 97))
      obtain ⟨g7, hg7⟩ : ∃ g7, w4.heap.size = g7 := ⟨_, rfl⟩
      have HG : Hid (g7 ≠ b ∧ w.heap.size ≤ g7 ∧ w.heap.size ≠ g7) := kH ⟨by have := HR.out.lt; omega, by have := HO.out.size; omega, by have := H4.out.lt; omega⟩
      clear HR HO H4
      have hlb : (lo.toNat : Int) ≤ 255 := by have := lo.toNat_lt; omega
      have hlb0 : 0 ≤ (lo.toNat : Int) := by omega
      go_wp2_with fail
      rw [hg7] at HN
      clear hg7
      go_loopw [8] (fun cv wr => ∃ (x : Nat) (cur : W4), x ≤ 256 ∧ cv = .int .i64 (x : Int) ∧ Hid (rangeN withW x (hi.toNat + 1 - x) cur = F) ∧ Hid (Blk4 wr g7 cur) ∧ Hid (Blk4 wr w.heap.size W4.zero) ∧ Hid (Rg wr b s s.size op (s.size - n) 9) ∧ Hid (Onl b w wr)) (fun cv _ => 256 - (intOf cv).toNat)
      case atStart => exact ⟨lo.toNat, W4.zero, by have := lo.toNat_lt; omega, rfl, HF, HN, H47, HR7, HO7⟩
      case round =>
       clear HN HR7 HO7 H47
       obtain ⟨x, cur, hx, rfl, HF, HN, H4, HR, HO⟩ := hrel
       have hhb := hi.toNat_lt
       by_cases hle : x ≤ hi.toNat
       ·
        have hle2 : (x : Int) ≤ (hi.toNat : Int) := by omega
        have hw8 : IntKind.u8.wrap (x : Int) = (x : Int) := by rw [IntKind.wrap_u8]; omega
        have hx5 : x ≤ 255 := by omega
        have HF2 : Hid (rangeN withW (x + 1) (hi.toNat + 1 - (x + 1)) (withW cur (UInt8.ofNat x)) = F) := kH (by
         have h := HF.out
         rw [show hi.toNat + 1 - x = (hi.toNat + 1 - (x + 1)) + 1 from by omega] at h
         exact h)
        clear HF
        obtain ⟨c0, c1, c2, c3, f0, f1, f2, f3⟩ := HN.out.cells
        go_wp2_with fail
        refine (CW.out x hx5 _ _ _ _ _).mono ?_
        rintro e w7 ⟨rfl, hb7⟩
        have HN7 := kH ((HN.out.below hb7).put (withW cur (UInt8.ofNat x)))
        have H47 := kH (((((H4.out.below hb7).setNew (p := ⟨g7, 0, none⟩) (Ne.symm HG.out.2.2) (.int .u64 (withW cur (UInt8.ofNat x)).a)).setNew (p := ⟨g7, 1, none⟩) (Ne.symm HG.out.2.2) (.int .u64 (withW cur (UInt8.ofNat x)).b)).setNew (p := ⟨g7, 2, none⟩) (Ne.symm HG.out.2.2) (.int .u64 (withW cur (UInt8.ofNat x)).c)).setNew (p := ⟨g7, 3, none⟩) (Ne.symm HG.out.2.2) (.int .u64 (withW cur (UInt8.ofNat x)).d))
        have HR7 := kH ((HR.out.below hb7).put4 HG.out.1 (withW cur (UInt8.ofNat x)))
        have HO7 := kH ((HO.out.trans (Onl.of_below hb7 (Nat.le_refl _))).put4 HG.out.2.1 (withW cur (UInt8.ofNat x)))
        clear c0 c1 c2 c3 f0 f1 f2 f3
        obtain ⟨c0, c1, c2, c3, f0, f1, f2, f3⟩ := (HN.out.below hb7).cells
        clear hb7 HN H4 HR HO
        rw [show withW ⟨cur.a, cur.b, cur.c, cur.d⟩ (UInt8.ofNat x) = withW cur (UInt8.ofNat x) from rfl]
        generalize withW cur (UInt8.ofNat x) = nx at *
        go_wp2_with fail
        go_roundw
        case rel => exact ⟨x + 1, nx, by omega, by go_num, HF2, HN7, H47, HR7, HO7⟩
        case measure => simp [intOf]; omega
       ·
        have hle2 : ¬ (x : Int) ≤ (hi.toNat : Int) := by omega
        have hF : cur = F := by
         have h := HF.out
         rw [show hi.toNat + 1 - x = 0 from by omega] at h
         exact h
        have HFF := kH hF
        clear hF HF
        obtain ⟨c0, c1, c2, c3, f0, f1, f2, f3⟩ := HN.out.cells
        obtain ⟨d0, d1, d2, d3, k0, k1, k2, k3⟩ := H4.out.cells
        go_wp2_with fail
        exact bodyPost_ret (v := cur.val) (by simp [results, Tryz.results143, go_sem, W4.val, d0, d1, d2, d3]) rfl (by
         have hR := HR.out.put4 (fun e => HB.out e.symm) cur
         have hO := HO.out.put4 (Nat.le_refl _) cur
         rw [HFF.out] at hR hO ⊢
         exact ⟨.inl rfl, hn, _, rfl, ⟨_, rfl⟩, hR, hO⟩)
     ·
      rw [show spanR withW n (c :: r) = .ok (rangeW withW lo hi, r2) from by simp only [spanR, hx]; rw [if_pos hd]; simp only [hy]; rw [if_neg hgt]]
      rw [hrw]
      have hgt2 : ¬ (hi.toNat : Int) < (lo.toNat : Int) := by rw [UInt8.lt_iff_toNat_lt] at hgt; omega
      have hgtn : ¬ hi.toNat < lo.toNat := by omega
      clear h hl hF e1 e2 hr hlen hx hp1 hd hdr hdl hq1 hy hrw hgt
      go_enter Tryz.func143, Tryz.ntmps143
      go_wp2_with fail
      refine (D.out _ (HR.out.alloc _)).mono ?_
      rintro e w1 ⟨rfl, m, rfl⟩
      go_wp2_with fail
      refine (NX.out _ ((HR.out.alloc _).drewN _)).mono ?_
      rintro e w1 ⟨hs1, v, rfl, rfl, hr1, o1⟩
      have H4 := kH (((Blk4.new w W4.zero).drewN m).onl o1 (fun e => HB.out e.symm))
      have HR := kH hr1
      have HO := kH (((Onl.refl b w).alloc (.cells #[.int .u64 W4.zero.a, .int .u64 W4.zero.b, .int .u64 W4.zero.c, .int .u64 W4.zero.d] 97)).drewN.trans o1)
      have HS := kH hs1
      clear hr1 o1 NX hs1
      go_wp2_with fail
      refine (DA.out _ HS.out HR.out).mono ?_
      rintro e w2 ⟨rfl, m2, rfl⟩
      have HR := kH (HR.out.drewN m2)
      have HO := kH (HO.out.drewN (n := m2))
      have H4 := kH (H4.out.drewN m2)
      generalize w1.drewN m2 = wd at *
      have hpb : ((s.size - r1.length : Nat) : Int) ≤ 100000 := by omega
      obtain ⟨c0, c1, c2, c3, c4, f1, f2, f3, f4⟩ := HR.out.cells
      go_wp2_with fail
      refine (N2.out _ (HQ.out HS.out).1 (by rw [(HQ.out HS.out).2]; exact HR.out.setP _)).mono ?_
      rintro e w3 ⟨hs2, v, rfl, rfl, hr3, o3⟩
      have HS2 := kH hs2
      have H4 := kH ((H4.out.setNew (p := ⟨b, 1, none⟩) HB.out (.int .i64 ((s.size - r1.length + 1 : Nat) : Int))).onl o3 (fun e => HB.out e.symm))
      have HR := kH hr3
      have HO := kH ((HO.out.setCell 1 (.int .i64 ((s.size - r1.length + 1 : Nat) : Int))).trans o3)
      clear hr3 o3 c0 c1 c2 c3 c4 f1 f2 f3 f4 hs2
      have HN := kH (Blk4.new w3 W4.zero)
      have HR7 := kH (HR.out.alloc (.cells #[.int .u64 W4.zero.a, .int .u64 W4.zero.b, .int .u64 W4.zero.c, .int .u64 W4.zero.d] 97))
      have HO7 := kH (HO.out.alloc (.cells #[.int .u64 W4.zero.a, .int .u64 W4.zero.b, .int .u64 W4.zero.c, .int .u64 W4.zero.d] 97))
      have H47 := kH (H4.out.alloc (.cells #[.int .u64 W4.zero.a, .int .u64 W4.zero.b, .int .u64 W4.zero.c, .int .u64 W4.zero.d] 97))
      obtain ⟨g7, hg7⟩ : ∃ g7, w3.heap.size = g7 := ⟨_, rfl⟩
      have HG : Hid (g7 ≠ b ∧ w.heap.size ≤ g7 ∧ w.heap.size ≠ g7) := kH ⟨by have := HR.out.lt; omega, by have := HO.out.size; omega, by have := H4.out.lt; omega⟩
      clear HR HO H4
      have hlb : (lo.toNat : Int) ≤ 255 := by have := lo.toNat_lt; omega
      have hlb0 : 0 ≤ (lo.toNat : Int) := by omega
      go_wp2_with fail
      rw [hg7] at HN
      clear hg7
      go_loopw [8] (fun cv wr => ∃ (x : Nat) (cur : W4), x ≤ 256 ∧ cv = .int .i64 (x : Int) ∧ Hid (rangeN withW x (hi.toNat + 1 - x) cur = F) ∧ Hid (Blk4 wr g7 cur) ∧ Hid (Blk4 wr w.heap.size W4.zero) ∧ Hid (Rg wr b s (s.size - r2.length) op 0 0) ∧ Hid (Onl b w wr)) (fun cv _ => 256 - (intOf cv).toNat)
      case atStart => exact ⟨lo.toNat, W4.zero, by have := lo.toNat_lt; omega, rfl, HF, HN, H47, HR7, HO7⟩
      case round =>
       clear HN HR7 HO7 H47
       obtain ⟨x, cur, hx, rfl, HF, HN, H4, HR, HO⟩ := hrel
       have hhb := hi.toNat_lt
       by_cases hle : x ≤ hi.toNat
       ·
        have hle2 : (x : Int) ≤ (hi.toNat : Int) := by omega
        have hw8 : IntKind.u8.wrap (x : Int) = (x : Int) := by rw [IntKind.wrap_u8]; omega
        have hx5 : x ≤ 255 := by omega
        have HF2 : Hid (rangeN withW (x + 1) (hi.toNat + 1 - (x + 1)) (withW cur (UInt8.ofNat x)) = F) := kH (by
         have h := HF.out
         rw [show hi.toNat + 1 - x = (hi.toNat + 1 - (x + 1)) + 1 from by omega] at h
         exact h)
        clear HF
        obtain ⟨c0, c1, c2, c3, f0, f1, f2, f3⟩ := HN.out.cells
        go_wp2_with fail
        refine (CW.out x hx5 _ _ _ _ _).mono ?_
        rintro e w7 ⟨rfl, hb7⟩
        have HN7 := kH ((HN.out.below hb7).put (withW cur (UInt8.ofNat x)))
        have H47 := kH (((((H4.out.below hb7).setNew (p := ⟨g7, 0, none⟩) (Ne.symm HG.out.2.2) (.int .u64 (withW cur (UInt8.ofNat x)).a)).setNew (p := ⟨g7, 1, none⟩) (Ne.symm HG.out.2.2) (.int .u64 (withW cur (UInt8.ofNat x)).b)).setNew (p := ⟨g7, 2, none⟩) (Ne.symm HG.out.2.2) (.int .u64 (withW cur (UInt8.ofNat x)).c)).setNew (p := ⟨g7, 3, none⟩) (Ne.symm HG.out.2.2) (.int .u64 (withW cur (UInt8.ofNat x)).d))
        have HR7 := kH ((HR.out.below hb7).put4 HG.out.1 (withW cur (UInt8.ofNat x)))
        have HO7 := kH ((HO.out.trans (Onl.of_below hb7 (Nat.le_refl _))).put4 HG.out.2.1 (withW cur (UInt8.ofNat x)))
        clear c0 c1 c2 c3 f0 f1 f2 f3
        obtain ⟨c0, c1, c2, c3, f0, f1, f2, f3⟩ := (HN.out.below hb7).cells
        clear hb7 HN H4 HR HO
        rw [show withW ⟨cur.a, cur.b, cur.c, cur.d⟩ (UInt8.ofNat x) = withW cur (UInt8.ofNat x) from rfl]
        generalize withW cur (UInt8.ofNat x) = nx at *
        go_wp2_with fail
        go_roundw
        case rel => exact ⟨x + 1, nx, by omega, by go_num, HF2, HN7, H47, HR7, HO7⟩
        case measure => simp [intOf]; omega
       ·
        have hle2 : ¬ (x : Int) ≤ (hi.toNat : Int) := by omega
        have hF : cur = F := by
         have h := HF.out
         rw [show hi.toNat + 1 - x = 0 from by omega] at h
         exact h
        have HFF := kH hF
        clear hF HF
        obtain ⟨c0, c1, c2, c3, f0, f1, f2, f3⟩ := HN.out.cells
        obtain ⟨d0, d1, d2, d3, k0, k1, k2, k3⟩ := H4.out.cells
        go_wp2_with fail
        exact bodyPost_ret (v := cur.val) (by simp [results, Tryz.results143, go_sem, W4.val, d0, d1, d2, d3]) rfl (by
         have hR := HR.out.put4 (fun e => HB.out e.symm) cur
         have hO := HO.out.put4 (Nat.le_refl _) cur
         rw [HFF.out] at hR hO ⊢
         exact ⟨HS2.out, _, rfl, rfl, hR, hO⟩)
end Go.Proofs.YtmbfdkiejneheaaGreatDoor
