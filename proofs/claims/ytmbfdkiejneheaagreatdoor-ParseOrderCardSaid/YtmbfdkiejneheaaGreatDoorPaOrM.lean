/-
 THE WALK of the law ParseOrder: whatever the numbers, it returns true and writes to nothing that was there.
-/
import Derived.Test.YtmbfdkiejneheaaGreatDoorPaSpW
namespace Go.Proofs.YtmbfdkiejneheaaGreatDoor
open Go.RowKit

def sgL : List (List UInt8) := [[124, 124], [38, 38], [126], [60], [43], [42], [45], [47], [37], [33, 126]]
def lvL : List Nat := [1, 2, 3, 4, 5, 6, 5, 6, 6, 3]
def opL : List (List UInt8) := [[111, 114], [97, 110, 100], [109, 97, 116, 99, 104], [108, 101, 115, 115], [97, 100, 100], [109, 117, 108], [115, 117, 98], [100, 105, 118], [109, 111, 100], [110, 111, 109, 97, 116, 99, 104]]
def sg (a : Nat) : List UInt8 := sgL.getD a []
def lv (a : Nat) : Nat := lvL.getD a 0
def opO (a : Nat) : List UInt8 := opL.getD a []
/-- The program that the law reads. -/
def ordS (a b : Nat) : List UInt8 := [66, 69, 71, 73, 78, 123, 120, 32] ++ sg a ++ [32, 121, 32] ++ sg b ++ [32, 122, 125]
def vr (c : UInt8) : PT := .mk [118, 97, 114] [c] 0 []
def wantO (a b : Nat) : PT := if lv a < lv b then nd (opO a) [vr 120, nd (opO b) [vr 121, vr 122]] else nd (opO b) [nd (opO a) [vr 120, vr 121], vr 122]
mutual
def eqT : PT → PT → Bool
 | .mk op tx pl ks, .mk op' tx' pl' ks' => op == op' && tx == tx' && pl == pl' && eqTs ks ks'
def eqTs : List PT → List PT → Bool
 | [], [] => true
 | t :: l, u :: m => eqT t u && eqTs l m
 | _, _ => false
end
mutual
theorem eqT_eq : ∀ t u : PT, eqT t u = true → t = u
 | .mk op tx pl ks, .mk op' tx' pl' ks', h => by
  rw [eqT] at h
  simp only [Bool.and_eq_true, beq_iff_eq] at h
  obtain ⟨⟨⟨rfl, rfl⟩, rfl⟩, h4⟩ := h
  rw [eqTs_eq ks ks' h4]
theorem eqTs_eq : ∀ ts us : List PT, eqTs ts us = true → ts = us
 | [], [], _ => rfl
 | [], _ :: _, h => by simp [eqTs] at h
 | _ :: _, [], h => by simp [eqTs] at h
 | t :: ts, u :: us, h => by
  rw [eqTs] at h
  simp only [Bool.and_eq_true] at h
  rw [eqT_eq t u h.1, eqTs_eq ts us h.2]
end
def chkO (a b : Nat) : Bool := match parseL (ordS a b) with
 | .ok (.mk _ _ _ [.mk _ _ _ [.mk _ _ _ [.mk _ _ _ [t]]]]) => !(a == 3 && b == 3) && eqT (fl t) (wantO a b)
 | .error (_, c) => a == 3 && b == 3 && c == 9
 | _ => false
theorem chkO_all : ((List.range 10).all fun a => (List.range 10).all fun b => chkO a b) = true := by kernel_rfl
theorem ord_is {a b : Nat} (ha : a < 10) (hb : b < 10) : ((a = 3 ∧ b = 3) ∧ ∃ p, parseL (ordS a b) = .error (p, 9)) ∨ (¬ (a = 3 ∧ b = 3) ∧ ∃ o1 x1 p1 o2 x2 p2 o3 x3 p3 o4 x4 p4 t, parseL (ordS a b) = .ok (.mk o1 x1 p1 [.mk o2 x2 p2 [.mk o3 x3 p3 [.mk o4 x4 p4 [t]]]]) ∧ fl t = wantO a b) := by
 have h := List.all_eq_true.1 (List.all_eq_true.1 chkO_all a (List.mem_range.2 ha)) b (List.mem_range.2 hb)
 unfold chkO at h
 split at h
 ·
  rename_i hx
  simp only [Bool.and_eq_true, Bool.not_eq_true', Bool.and_eq_false_iff, beq_eq_false_iff_ne] at h
  exact .inr ⟨fun e => by rcases h.1 with h1 | h1 <;> omega, _, _, _, _, _, _, _, _, _, _, _, _, _, hx, eqT_eq _ _ h.2⟩
 ·
  rename_i hx
  simp only [Bool.and_eq_true, beq_iff_eq] at h
  obtain ⟨h1, rfl⟩ := h
  exact .inl ⟨h1, _, hx⟩
 · cases h
theorem fl_vr (c : UInt8) : fl (vr c) = vr c := fl_mk _ _ _ _
theorem fl_want1 (a b : Nat) : fl (nd (opO b) [nd (opO a) [vr 120, vr 121], vr 122]) = nd (opO b) [nd (opO a) [vr 120, vr 121], vr 122] := by
 rw [fl_nd, List.map_cons, List.map_cons, List.map_nil, fl_nd, List.map_cons, List.map_cons, List.map_nil, fl_vr, fl_vr, fl_vr]
theorem fl_want2 (a b : Nat) : fl (nd (opO a) [vr 120, nd (opO b) [vr 121, vr 122]]) = nd (opO a) [vr 120, nd (opO b) [vr 121, vr 122]] := by
 rw [fl_nd, List.map_cons, List.map_cons, List.map_nil, fl_nd, List.map_cons, List.map_cons, List.map_nil, fl_vr, fl_vr, fl_vr]
end Go.Proofs.YtmbfdkiejneheaaGreatDoor
