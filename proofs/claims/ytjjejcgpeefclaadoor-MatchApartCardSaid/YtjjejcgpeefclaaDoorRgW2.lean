/-
  CONTRACTS of layer 9's next, With, Not, or, span: one byte of a text, sets, a byte or a range.
-/
import Derived.Test.YtjjejcgpeefclaaDoorRgW1
namespace Go.Proofs.YtjjejcgpeefclaaDoor
open Go.RowKit

/-- What reads answers a value and stands behind it, or the first error is told and all is over. -/
def RdP {α : Type} (V : World → Value → α → Prop) (G : Value → Prop) (b : Nat) (s : ByteArray) (op : Nat) (x : PR α) (w : World) (e : Ending) (w' : World) : Prop :=
  match x with
  | .ok (a, r) => r <:+ s.data.toList ∧ ∃ v, e = .returned v ∧ V w' v a ∧ Rg w' b s (s.size - r.length) op 0 0 ∧ Onl b w w'
  | .error (n, k) => (k = 9 ∨ k = 14) ∧ n ≤ s.size ∧ ∃ v, e = .returned v ∧ G v ∧ Rg w' b s s.size op (s.size - n) k ∧ Onl b w w'
def VU8 (_ : World) (v : Value) (c : UInt8) : Prop := v = .int .u8 (c.toNat : Int)
def GU8 (v : Value) : Prop := v = .int .u8 0
set_option maxHeartbeats 2000000 in
theorem rnext_any (b : Nat) (s : ByteArray) (op : Nat) (l : List UInt8) (w : World) (h : Rg w b s (s.size - l.length) op 0 0) (hl : l <:+ s.data.toList) (hs : s.size ≤ 100000) (hne : l ≠ []) :
    Calls Tryd.prog 78 #[.pointer (some ⟨b, 0, none⟩)] w (RdP VU8 GU8 b s op (nextR l) w) := by
  match l, hne with
  | c :: r, _ =>
  obtain ⟨p, hp, hc, e1, e2, hr, hlen⟩ := rg_cons hl
  rw [List.length_cons, e1] at h
  by_cases h92 : c = 92
  · subst h92
    have T := Lib.hid (rtake_yes b s p op 0 0 92 w h hp hc hs)
    rw [show (((92 : UInt8).toNat : Nat) : Int) = 92 from rfl] at T
    have hpi : ((p + 1 : Nat) : Int) ≤ (s.size : Int) := by omega
    have hrest := rg_rest hr
    have hrsz := rg_rest_size hr
    rw [e2] at hrest hrsz
    have FL := Lib.hid fun W H => rfail0 b s (p + 1) op 0 p 9 W H
    have HL : Hid (s.size - (r.length + 1) = p) := Lib.hid e1
    rcases r with _ | ⟨e, r2⟩
    · have hR0 : s.extract (p + 1) s.size = ⟨#[]⟩ := WideShapes.bytes_inj hrest
      have E := Lib.hid fun W => resc_none W
      clear h hrest hrsz e1 e2 hlen hr hl hc
      have HR0 := Lib.hid hR0
      clear hR0
      rw [show nextR [92] = .error (1, 9) from rfl]
      go_enter Tryd.func78, Tryd.ntmps78
      go_wp2_with fail
      refine T.out.mono ?_
      rintro e w1 ⟨rfl, hr, o1⟩
      obtain ⟨c0, c1, c2, c3, c4, f1, f2, f3, f4⟩ := hr.cells
      have HR := Lib.hid hr
      have HO := Lib.hid o1
      clear hr o1 T
      go_wp2_with fail
      go_quiet ((rw [HR0.out]; go_at_call 81; exact Calls.quiet_of (E.out _)))
      go_wp2_with fail
      refine (FL.out _ (HR.out.drewN _)).mono ?_
      rintro e w2 ⟨rfl, hr2, o2⟩
      go_wp2_with fail
      go_ret
      refine ⟨.inl rfl, by omega, _, rfl, rfl, ?_, (HO.out.trans (Onl.refl b w1).drewN).trans o2⟩
      rw [show s.size - 1 = p from HL.out]; exact hr2
    · obtain ⟨p2, hp2, hc2, e3, e4, hr2, hlen2⟩ := rg_cons hr
      obtain rfl : p + 1 = p2 := by rw [← e2, List.length_cons]; exact e3
      have hz : 0 < (s.extract (p + 1) s.size).size := by rw [hrsz]; simp
      have hzb : (s.extract (p + 1) s.size).size ≤ 100000 := by rw [hrsz]; simp; omega
      have hg : (s.extract (p + 1) s.size)[0] = e := by
        have h3 := rg_at _ 0 hz
        rw [hrest] at h3
        simpa using h3.symm
      have E := Lib.hid fun W => resc_any (s.extract (p + 1) s.size) hz hzb W
      rw [hg] at E
      have HS : Hid (r2 <:+ s.data.toList ∧ s.size - r2.length = p + 1 + 1) := Lib.hid ⟨hr2, e4⟩
      have hsl : r2.length + 2 ≤ s.size := by rw [List.length_cons] at hlen; omega
      cases hx : escB e with
      | none =>
        have E : Hid (∀ W, Calls Tryd.prog 81 #[.string (s.extract (p + 1) s.size)] W fun e' w' => e' = .returned (.tuple #[.int .u8 (escZ e), .bool false]) ∧ ∃ n, w' = W.drewN n) := Lib.hid fun W => by have := E.out W; unfold EscPost at this; rw [hx] at this; exact this
        have hN : nextR (92 :: e :: r2) = .error (r2.length + 2, 9) := by simp only [nextR, if_true, hx]
        rw [hN]
        clear h hrest hrsz e1 e2 hlen hr hl hc hz hzb hg hx hN hr2 e3 e4 hlen2 hp2 hc2
        go_enter Tryd.func78, Tryd.ntmps78
        go_wp2_with fail
        refine T.out.mono ?_
        rintro e w1 ⟨rfl, hr, o1⟩
        obtain ⟨c0, c1, c2, c3, c4, f1, f2, f3, f4⟩ := hr.cells
        have HR := Lib.hid hr
        have HO := Lib.hid o1
        clear hr o1 T
        go_wp2_with fail
        go_quiet ((go_at_call 81; exact Calls.quiet_of (E.out _)))
        go_wp2_with fail
        refine (FL.out _ (HR.out.drewN _)).mono ?_
        rintro e w2 ⟨rfl, hr2, o2⟩
        go_wp2_with fail
        go_ret
        refine ⟨.inl rfl, hsl, _, rfl, rfl, ?_, (HO.out.trans (Onl.refl b w1).drewN).trans o2⟩
        rw [show s.size - (r2.length + 2) = p from HL.out]; exact hr2
      | some x =>
        have E : Hid (∀ W, Calls Tryd.prog 81 #[.string (s.extract (p + 1) s.size)] W fun e w' => e = .returned (.tuple #[.int .u8 (x.toNat : Int), .bool true]) ∧ ∃ n, w' = W.drewN n) := Lib.hid fun W => by have := E.out W; unfold EscPost escZ at this; rw [hx] at this; exact this
        have hN : nextR (92 :: e :: r2) = .ok (x, r2) := by simp only [nextR, if_true, hx]
        rw [hN]
        clear h hrest hrsz e1 e2 hlen hr hl hc hz hzb hg hx hN hr2 e3 e4 hlen2 hp2 hc2
        go_enter Tryd.func78, Tryd.ntmps78
        go_wp2_with fail
        refine T.out.mono ?_
        rintro e w1 ⟨rfl, hr, o1⟩
        obtain ⟨c0, c1, c2, c3, c4, f1, f2, f3, f4⟩ := hr.cells
        have HR := Lib.hid hr
        have HO := Lib.hid o1
        clear hr o1 T
        go_wp2_with fail
        go_quiet ((go_at_call 81; exact Calls.quiet_of (E.out _)))
        go_wp2_with fail
        go_ret
        refine ⟨HS.out.1, _, rfl, rfl, ?_, (HO.out.trans (Onl.refl b w1).drewN).setCell 1 _⟩
        rw [HS.out.2]; exact (HR.out.drewN _).setP (p + 1 + 1)
  · have T := Lib.hid (rtake_no b s p op 0 0 92 w h hp (by rw [hc]; exact h92))
    have hx : nextR (c :: r) = .ok (c, r) := by simp only [nextR]; rw [if_neg h92]
    rw [hx]
    rw [show (((92 : UInt8).toNat : Nat) : Int) = 92 from rfl] at T
    have HR := Lib.hid h
    have hpi : (p : Int) < (s.size : Int) := by omega
    have hpi2 : decide ((p : Int) < (s.size : Int)) = true := by simpa using hpi
    obtain ⟨c0, c1, c2, c3, c4, f1, f2, f3, f4⟩ := h.cells
    have hfin : ∀ n, RdP VU8 GU8 b s op (.ok (c, r)) w (.returned (.int .u8 (s[p].toNat : Int))) ((w.drewN n).setCell ⟨b, 1, none⟩ (.int .i64 ((p + 1 : Nat) : Int))) := fun n => by
      refine ⟨hr, _, rfl, by rw [hc]; rfl, ?_, (Onl.drewN (Onl.refl b w)).setCell 1 _⟩
      rw [e2]; exact (h.drewN n).setP (p + 1)
    have HF := Lib.hid hfin
    clear h hfin hx e1 e2
    subst hc
    go_enter Tryd.func78, Tryd.ntmps78
    go_wp2_with fail
    refine T.out.mono ?_
    rintro e w1 ⟨rfl, n, rfl⟩
    go_wp2_with fail
    go_quiet (fail)
    go_wp2_with fail
    go_ret
    exact HF.out _
end Go.Proofs.YtjjejcgpeefclaaDoor
