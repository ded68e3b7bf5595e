/-
  WHAT THE ROWS OF LAYER 7 SHARE: their listed tables as the walks want them, a world for the witness in which they lie; how a row of values reads as data.
-/
import Derived.Test.YtipcanbeegladaaGreatDoorNDoor
import Derived.Test.YtipcanbeegladaaGreatDoorCellOpen
import Derived.Test.YtipcanbeegladaaGreatDoorFmtW8
import Derived.Deep.Slices
import Derived.ChangeSame
import Derived.Carry
namespace Go.Proofs.YtipcanbeegladaaGreatDoor.FDoor
open Go.ChangeShapes Go.WideShapes Go.ChangeAt Go.RowKit

theorem own : ownKnob Tryz.prog.godebug = none := NDoor.own
noncomputable def laidWorld (os : Os) : World := NDoor.laidWorld os
theorem laidOut : laidOutB Tryz.prog = true := by kernel_rfl
theorem gTz : Tryz.prog.globalNamed "math/bits.deBruijn64tab" = some 7 := by kernel_rfl
theorem gTzType : (Tryz.prog.globals[7]?).map (·.type) = some 151 := by kernel_rfl
theorem cellsZ : Tryz.prog.cellsOf 151 = 64 := by kernel_rfl
theorem cellsB : Tryz.prog.cellsOf 5 = 1 := by kernel_rfl
theorem datumZ : (Rows.laid_math_bits_deBruijn64tab : DataW Unit) = Lib.tabData .u8 NDoor.tab64 := by kernel_rfl
/-- WHAT THE ROW's LIST GIVES: the tables of powers of ten and of trailing zeros hold them; MaxLen holds some int. -/
theorem facts {W : World} (h : laidMet Tryz.prog NDoor.laid5 W) (hS : W.ShapedOpen Tryz.prog) : Gf W := by
  have hT : Lib.TabIs Tryz.prog W "math/bits.deBruijn64tab" .u8 NDoor.tab64 := by
    obtain ⟨ps, ⟨g0, t0, cs0, f0, p0, q0, hg0, ht0, hv0, hd0, ⟨g', t', cs, fuel, p, q, hg', ht', hvar, hd, _, _⟩, _⟩, _⟩ := h
    obtain rfl := Option.some.inj (gTz.symm.trans hg')
    obtain rfl := Option.some.inj (gTzType.symm.trans ht')
    rw [datumZ] at hd
    unfold Lib.TabIs
    rw [hvar, ← Lib.cells_of_tab Tryz.underlying151 Tryz.underlying5 cellsB cellsZ hd]
  have hz := hT.cell gTz 15 (by decide)
  exact ⟨NDoor.facts h hS, hz, Tryz.laysM145.s1_3 W hS⟩
end Go.Proofs.YtipcanbeegladaaGreatDoor.FDoor
namespace Go.Proofs.YtipcanbeegladaaGreatDoor
open Go.ChangeShapes Go.WideShapes Go.RowKit Go.Deep

/-- What a value's row holds is within its types. -/
theorem wf_bounds {n : Int} (h : (Lit.int .i64 n).wf = true) : -9223372036854775808 ≤ n ∧ n ≤ 9223372036854775807 := by
  simp [Lit.wf, IntKind.min, IntKind.max, IntKind.signed, IntKind.bits] at h
  exact h
def Ce.ok (c : Ce) : Prop := c.s.size ≤ maxLen
instance : Inhabited Ce := ⟨⟨0, 0, ⟨#[]⟩⟩⟩
section
variable {H : Type} {enc : TypeId × Value → H} {w : World} {base : Nat} {spare : Nat → Bool} {held : Bool}
set_option maxRecDepth 100000 in
theorem trod_ce {a : Addr} {cs : List Value} {n : Nat} {x : DataW H × List MemPlace} (hc : w.cells? base a (Tryz.prog.cellsOf 36) = some cs) (h : DataW.trod enc Tryz.prog w base spare held n 36 cs = some x) :
    ∃ t : Ce, t.ok ∧ a.block < w.heap.size ∧ w.cell? a = some (.int .i64 t.k) ∧ w.cell? ⟨a.block, a.off + 1, none⟩ = some (.int .i64 t.n) ∧ w.cell? ⟨a.block, a.off + 2, none⟩ = some (.string t.s) := by
  have hC : Tryz.prog.cellsOf 36 = 3 := by kernel_rfl
  have hI : Tryz.prog.cellsOf 3 = 1 := by kernel_rfl
  have hN : Tryz.prog.cellsOf 34 = 1 := by kernel_rfl
  have hS : Tryz.prog.cellsOf 9 = 1 := by kernel_rfl
  rw [hC] at hc
  obtain ⟨_, hcl, hat⟩ := World.cells?_some hc
  obtain ⟨xs, m, _, _, _, hlen, hf⟩ := DataW.trod_struct Tryz.underlying36 h
  match cs, hcl, xs, hlen with
  | [c0, c1, c2], _, [x0, x1, x2], _ =>
    have f0 : DataW.trod enc Tryz.prog w base spare held m 3 (List.take (Tryz.prog.cellsOf 3) [c0, c1, c2]) = some x0 := hf 0 _ rfl
    have f1 : DataW.trod enc Tryz.prog w base spare held m 34 (List.take (Tryz.prog.cellsOf 34) [c1, c2]) = some x1 := hf 1 _ rfl
    have f2 : DataW.trod enc Tryz.prog w base spare held m 9 (List.take (Tryz.prog.cellsOf 9) [c2]) = some x2 := hf 2 _ rfl
    rw [hI] at f0
    rw [hN] at f1
    rw [hS] at f2
    obtain ⟨k, hk, _, hkw⟩ := DataW.trod_int Tryz.underlying3 f0
    obtain ⟨v, hv, _, hvw⟩ := DataW.trod_int Tryz.underlying34 f1
    obtain ⟨s, hs, _, hsz⟩ := DataW.trod_string Tryz.underlying9 f2
    obtain rfl : c0 = .int .i64 k := by simpa using hk
    obtain rfl : c1 = .int .i64 v := by simpa using hv
    obtain rfl : c2 = .string s := by simpa using hs
    exact ⟨⟨k, v, s⟩, hsz, World.block_lt_of_cell? _ _ (hat 0 (by omega)), hat 0 (by omega), hat 1 (by omega), hat 2 (by omega)⟩
set_option maxRecDepth 100000 in
theorem open_cells {r : Reach} {b0 : Nat} {v : Value} {d : DataW H} {ps : List MemPlace} (hv : Value.okWide Tryz.prog w r b0 22 v) (h : DataW.Trod enc Tryz.prog w base spare held 22 v d ps) :
    ∃ (q : Option Addr) (cap : Nat) (l : List Ce), v = .slice q l.length cap ∧ CeAt w q l ∧ l.length ≤ maxLen ∧ ∀ t ∈ l, t.ok := by
  obtain ⟨a0, len, cap, rfl⟩ := okWide_slice Tryz.underlying22 hv
  obtain ⟨fuel, hf⟩ := h
  have hC : Tryz.prog.cellsOf 36 = 3 := by kernel_rfl
  rcases open_slice Tryz.underlying22 hf with ⟨hcs, _⟩ | ⟨a, len', cap', m, n, D, Pl, hcs, hb, hl, hm, hmm, hx, hi⟩
  · simp [Value.cells] at hcs
    obtain ⟨rfl, rfl, rfl⟩ := hcs
    exact ⟨none, 0, [], rfl, fun i h => absurd h (by simp), Nat.zero_le _, fun t h => absurd h (by simp)⟩
  · simp [Value.cells] at hcs
    obtain ⟨rfl, rfl, rfl⟩ := hcs
    have hlm : len ≤ m := by rw [hmm]; split <;> omega
    obtain ⟨T, hT⟩ := choose_lt (α := Ce) (n := len) (p := fun i t => t.ok ∧ (a.add (i * 3)).block < w.heap.size ∧ w.cell? (a.add (i * 3)) = some (.int .i64 t.k) ∧ w.cell? ⟨(a.add (i * 3)).block, (a.add (i * 3)).off + 1, none⟩ = some (.int .i64 t.n) ∧ w.cell? ⟨(a.add (i * 3)).block, (a.add (i * 3)).off + 2, none⟩ = some (.string t.s)) (fun i hi' => by
      obtain ⟨cs, hc, ht⟩ := hi i (by omega)
      have := trod_ce hc ht
      rwa [hC] at this)
    refine ⟨some a, cap, (List.range len).map T, by simp, fun i hi' => ?_, by simp; omega, fun t ht => ?_⟩
    · have hi2 : i < len := by simpa using hi'
      obtain ⟨_, h2, h3, h4, h5⟩ := hT i hi2
      have e : (a.add (i * 3)).block = a.block := by unfold Addr.add; split <;> rfl
      refine ⟨a, rfl, by rw [← e]; exact h2, ?_⟩
      simp only [List.getElem_map, List.getElem_range]
      exact ⟨h3, h4, h5⟩
    · obtain ⟨i, hi', rfl⟩ := List.mem_map.1 ht
      exact (hT i (by simpa using hi')).1
end
end Go.Proofs.YtipcanbeegladaaGreatDoor
