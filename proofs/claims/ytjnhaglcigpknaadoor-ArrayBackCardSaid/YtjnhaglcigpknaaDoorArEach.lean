/-
  THE ITERATOR of an array's entries, as its contract with a loop's body has them.
-/
import Derived.Test.YtjnhaglcigpknaaDoorSeqP
import Derived.Test.YtjnhaglcigpknaaDoorArW6
import Derived.Sort.QuietTacIn
import Derived.RegionIn
import Derived.LoopIn
import Derived.LoopNIn
import Derived.OwnWalkIn
import Derived.TacticsInMore
import Derived.Shelf.Abstract
import Derived.Shelf.RegionOpen
namespace Go.Proofs.YtjnhaglcigpknaaDoor
open Go.RowKit Go.Shelf
attribute [local go_sem] Oper.semAt_some

theorem each_call (b : Nat) (w : World) :
    Calls Tryd.prog 18 #[.pointer (some ⟨b, 0, none⟩)] w fun e w' => ∃ bs, e = .returned (.func (.func 34) #[] #[.pointer (some ⟨bs, 0, none⟩)]) ∧ w.heap.size ≤ bs ∧ w'.cell? ⟨bs, 0, none⟩ = some (.pointer (some ⟨b, 0, none⟩)) ∧ Below w.heap.size w w' := by
  go_enter Tryd.func18, Tryd.ntmps18
  go_wp2
  go_ret
  exact ⟨w.heap.size, rfl, Nat.le_refl _, by simp [go_sem], (Below.refl _ _).alloc (Nat.le_refl _) _⟩
def gOf : Value → Option Nat
  | .pointer (some ⟨g, 0, none⟩) => some g
  | _ => none
/-- How many entries are left, read off the one that is next. -/
def leftE (L : List En) (v : Value) : Nat := match gOf v with | some g => (L.dropWhile (fun e => e.g != g)).length | none => 0
theorem leftE_nil (L : List En) : leftE L (.pointer none) = 0 := rfl
theorem leftE_mid {A B : List En} {e : En} (h : ∀ x ∈ A, x.g ≠ e.g) : leftE (A ++ e :: B) (.pointer (some ⟨e.g, 0, none⟩)) = B.length + 1 := by
  show ((A ++ e :: B).dropWhile (fun x => x.g != e.g)).length = _
  induction A with
  | nil => simp
  | cons y A ih =>
    rw [List.cons_append, List.dropWhile_cons, if_pos (by simpa using h y (by simp))]
    exact ih fun x hx => h x (List.mem_cons_of_mem _ hx)
theorem Same.below {C : Nat → Prop} {A B : World} {n : Nat} (hb : Below n A B) (h : ∀ k, C k → k < n) : Same C A B :=
  ⟨hb.os, hb.tape, hb.output, hb.size, fun k hk => hb.block k (h k hk)⟩
theorem Came.cell {C : Nat → Prop} {A B : World} (h : Came C A B) {a : Addr} (hk : a.block < A.heap.size) (hn : ¬ C a.block) : B.cell? a = A.cell? a := World.cell?_of_block (h.block _ hk hn)
theorem Came.frozen {C : Nat → Prop} {A B : World} (h : Came C A B) {a : Addr} (hk : a.block < A.heap.size) (hn : ¬ C a.block) : B.frozen? a = A.frozen? a := World.frozen?_of_block (h.block _ hk hn)
set_option maxHeartbeats 4000000 in
set_option maxRecDepth 100000 in
theorem each_seq {b : Nat} {mm : Option Nat} {L : List En} (bs n : Nat) (_hn : 1 ≤ n) (w : World) (hbs : w.cell? ⟨bs, 0, none⟩ = some (.pointer (some ⟨b, 0, none⟩))) (hA : AV w b mm L) :
    SeqC Fence.wide n Tryd.prog 34 #[.pointer (some ⟨bs, 0, none⟩)] (fun e : En => #[.pointer (some ⟨e.g, 0, none⟩)]) (· = L) (· <+: L) (L.length + 1) w (fun k => k = bs ∨ Own b mm L k) := by
  intro l J Jx C0 W hW hZ hC0 hJ hJx hY h0
  have hbw : bs < w.heap.size := World.block_lt_of_cell? _ _ hbs
  have hbsW : W.cell? ⟨bs, 0, none⟩ = some (.pointer (some ⟨b, 0, none⟩)) := (hW.cell (p := ⟨bs, 0, none⟩) hbw).trans hbs
  have hAW : AV W b mm L := hA.next hW
  have hb1 : W.cell? ⟨b, 1, none⟩ = some (ptr (hd L none)) := block_cell hAW.blk
  obtain ⟨x1, hx1⟩ := ptr_is (hd L none)
  rw [hx1] at hb1
  refine callsIn_of_wp Tryd.func34 rfl trivial ?_ rfl
  simp only [Tryd.ntmps34, List.size_toArray, List.length_cons, List.length_nil, Nat.reduceAdd, Nat.reduceSub, Array.replicate_succ, Array.replicate_zero, List.push_toArray, List.append_toArray, List.nil_append, List.cons_append]
  have HJm := Lib.hid hJ
  have HYm := Lib.hid hY
  have HX1 := Lib.hid hx1
  have HAW := Lib.hid hAW
  have HZ := Lib.hid hZ
  clear hJ hJx hY hx1 hA hAW hZ
  gi_wp2_with fail
  gi_loopw [3] (fun ev wr => ∃ (pre rest : List En) (C : Nat → Prop), Hid (L = pre ++ rest) ∧ Hid (ev = ptr (hd rest none)) ∧ Hid (J pre C wr) ∧ Hid (Came C0 W wr) ∧ Hid (∀ k, C k → C0 k ∨ W.heap.size ≤ k) ∧ Hid (∀ k, C k → k < wr.heap.size))
    (fun ev _ => leftE L ev)
  case atStart =>
    exact ⟨[], L, C0, Lib.hid rfl, Lib.hid HX1.out.symm, Lib.hid h0, Lib.hid (Came.refl _ _), Lib.hid (fun k h => .inl h), Lib.hid hC0⟩
  case round =>
    obtain ⟨pre, rest, C, HL, HEV, HJ, HC, HF, HCz⟩ := hrel
    cases rest with
    | nil =>
      have he := HEV.out
      rw [show ptr (hd ([] : List En) none) = .pointer none from rfl] at he
      subst he
      gi_wp2_with fail
      go_end0
      exact ⟨⟨_, rfl⟩, HC.out, .inl ⟨pre, C, by rw [HL.out, List.append_nil], HJ.out⟩⟩
    | cons e r =>
      have he := HEV.out
      rw [show ptr (hd (e :: r) none) = .pointer (some ⟨e.g, 0, none⟩) from rfl] at he
      subst he
      have hdis := HAW.out.dis
      rw [HL.out] at hdis
      have HM := Lib.hid (leftE_mid (A := pre) (B := r) (e := e) (fun x hx => (hdis.mid.1 x hx).1))
      rw [← HL.out] at HM
      have hpl : pre.length < L.length + 1 := by rw [HL.out]; simp; omega
      obtain ⟨fn, tmps, assign, body, hy, hR⟩ := HYm.out pre e C wr HJ.out HC.out HF.out hpl ⟨r, by rw [HL.out]; simp⟩
      have HR := Lib.hid hR
      clear hR hdis
      gi_wp2_with fail
      refine HR.out.mono ?_
      rintro e1 W3 ⟨C', hf', hbd', hc', (⟨rfl, hJ3⟩ | ⟨rfl, hJ3⟩)⟩
      · have hc3 : Came C0 W W3 := HC.out.trans hc' (fun k h => HF.out k h)
        have heL : e ∈ L := by rw [HL.out]; simp
        have hne : ¬ C0 e.g := HZ.out _ (.inr (.inr (.inr ⟨e, heL, rfl⟩)))
        have hel : e.g < W.heap.size := (HAW.out.lnk.lt e heL).1
        have hlk := HAW.out.lnk
        rw [HL.out] at hlk
        have hen := (((Lnk_append pre (e :: r) none none).1 hlk).2).1
        have c5 : W.cell? ⟨e.g, 5, none⟩ = some (ptr (hd r none)) := block_cell hen
        have d5 : W3.cell? ⟨e.g, 5, none⟩ = some (ptr (hd r none)) := (hc3.cell (a := ⟨e.g, 5, none⟩) hel hne).trans c5
        obtain ⟨nx, hnx⟩ := ptr_is (hd r none)
        rw [hnx] at d5
        have HLM : Hid (leftE L (.pointer nx) < leftE L (.pointer (some ⟨e.g, 0, none⟩))) := Lib.hid (by
          rw [HM.out]
          cases r with
          | nil =>
            have : nx = none := by injection hnx.symm with h
            rw [this, leftE_nil]; simp
          | cons e2 r2 =>
            have h2 : nx = some ⟨e2.g, 0, none⟩ := by injection hnx.symm with h
            have hdis := HAW.out.dis
            rw [HL.out] at hdis
            have hd2 : Dis ((pre ++ [e]) ++ e2 :: r2) := by simpa using hdis
            have := leftE_mid (A := pre ++ [e]) (B := r2) (e := e2) (fun x hx => (hd2.mid.1 x hx).1)
            rw [h2, HL.out, show pre ++ e :: e2 :: r2 = (pre ++ [e]) ++ e2 :: r2 by simp, this]
            simp)
        have HREL : Hid (∃ (pre' rest' : List En) (C : Nat → Prop), Hid (L = pre' ++ rest') ∧ Hid (.pointer nx = ptr (hd rest' none)) ∧ Hid (J pre' C W3) ∧ Hid (Came C0 W W3) ∧ Hid (∀ k, C k → C0 k ∨ W.heap.size ≤ k) ∧ Hid (∀ k, C k → k < W3.heap.size)) := Lib.hid
          ⟨pre ++ [e], r, C', Lib.hid (by rw [HL.out]; simp), Lib.hid hnx.symm, Lib.hid hJ3, Lib.hid hc3, Lib.hid (fun k h => (hf' k h).elim (HF.out k) (fun h2 => .inr (Nat.le_trans HC.out.size h2))), Lib.hid hbd'⟩
        clear hf' hbd' hc' hJ3 hc3 hnx hlk hen c5 HR hy
        gi_wp2_with fail
        go_roundw
        case rel => exact HREL.out
        case measure => exact HLM.out
      · gi_wp2_with fail
        refine bodyPost_ret (results_none rfl _ _ _) rfl ?_
        exact ⟨⟨_, rfl⟩, HC.out.trans hc' (fun k h => HF.out k h), .inr ⟨_, C', ⟨r, by rw [HL.out]; simp⟩, hJ3⟩⟩
end Go.Proofs.YtjnhaglcigpknaaDoor
