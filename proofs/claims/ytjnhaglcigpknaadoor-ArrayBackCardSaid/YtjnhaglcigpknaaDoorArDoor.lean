/-
  WHAT THE ROWS OF LAYER 8 SHARE: how a row of calls reads as data.
-/
import Derived.Test.YtjnhaglcigpknaaDoorNDoor
import Derived.Test.YtjnhaglcigpknaaDoorArMd
import Derived.Deep.Slices
import Derived.ChangeSame
import Derived.Carry
namespace Go.Proofs.YtjnhaglcigpknaaDoor.ArDoor
open Go.ChangeShapes Go.WideShapes Go.ChangeAt Go.RowKit

theorem own : ownKnob Tryd.prog.godebug = none := NDoor.own
noncomputable def laidWorld (os : Os) : World := NDoor.laidWorld os
theorem laidOut : laidOutB Tryd.prog = true := by kernel_rfl
theorem facts {W : World} (h : laidMet Tryd.prog NDoor.laid5 W) (hS : W.ShapedOpen Tryd.prog) : Gl W := NDoor.facts h hS
end Go.Proofs.YtjnhaglcigpknaaDoor.ArDoor
namespace Go.Proofs.YtjnhaglcigpknaaDoor
open Go.ChangeShapes Go.WideShapes Go.RowKit Go.Deep

theorem wf_bounds {n : Int} (h : (Lit.int .i64 n).wf = true) : -9223372036854775808 ≤ n ∧ n ≤ 9223372036854775807 := by
  simp [Lit.wf, IntKind.min, IntKind.max, IntKind.signed, IntKind.bits] at h
  exact h
instance : Inhabited Ac := ⟨⟨0, ⟨#[]⟩, ⟨0, 0, ⟨#[]⟩⟩⟩⟩
section
variable {H : Type} {enc : TypeId × Value → H} {w : World} {base : Nat} {spare : Nat → Bool} {held : Bool}
set_option maxRecDepth 100000 in
theorem trod_ac {a : Addr} {cs : List Value} {n : Nat} {x : DataW H × List MemPlace} (hc : w.cells? base a (Tryd.prog.cellsOf 49) = some cs) (h : DataW.trod enc Tryd.prog w base spare held n 49 cs = some x) :
    ∃ t : Ac, t.ok ∧ a.block < w.heap.size ∧ w.cell? a = some (.int .i64 t.d) ∧ w.cell? ⟨a.block, a.off + 1, none⟩ = some (.string t.key) ∧ w.cell? ⟨a.block, a.off + 2, none⟩ = some (.int .i64 t.c.k) ∧ w.cell? ⟨a.block, a.off + 3, none⟩ = some (.int .i64 t.c.n) ∧ w.cell? ⟨a.block, a.off + 4, none⟩ = some (.string t.c.s) := by
  have hA : Tryd.prog.cellsOf 49 = 5 := by kernel_rfl
  have hC : Tryd.prog.cellsOf 46 = 3 := by kernel_rfl
  have hI : Tryd.prog.cellsOf 3 = 1 := by kernel_rfl
  have hN : Tryd.prog.cellsOf 44 = 1 := by kernel_rfl
  have hS : Tryd.prog.cellsOf 9 = 1 := by kernel_rfl
  rw [hA] at hc
  obtain ⟨_, hcl, hat⟩ := World.cells?_some hc
  obtain ⟨xs, m, _, _, _, hlen, hf⟩ := DataW.trod_struct Tryd.underlying49 h
  match cs, hcl, xs, hlen with
  | [c0, c1, c2, c3, c4], _, [x0, x1, x2], _ =>
    have f0 : DataW.trod enc Tryd.prog w base spare held m 3 (List.take (Tryd.prog.cellsOf 3) [c0, c1, c2, c3, c4]) = some x0 := hf 0 _ rfl
    have f1 : DataW.trod enc Tryd.prog w base spare held m 9 (List.take (Tryd.prog.cellsOf 9) [c1, c2, c3, c4]) = some x1 := hf 1 _ rfl
    have f2 : DataW.trod enc Tryd.prog w base spare held m 46 (List.take (Tryd.prog.cellsOf 46) [c2, c3, c4]) = some x2 := hf 2 _ rfl
    rw [hI] at f0
    rw [hS] at f1
    rw [hC] at f2
    obtain ⟨ys, m2, _, _, _, hlen2, hf2⟩ := DataW.trod_struct Tryd.underlying46 f2
    match ys, hlen2 with
    | [y0, y1, y2], _ =>
      have g0 : DataW.trod enc Tryd.prog w base spare held m2 3 (List.take (Tryd.prog.cellsOf 3) [c2, c3, c4]) = some y0 := hf2 0 _ rfl
      have g1 : DataW.trod enc Tryd.prog w base spare held m2 44 (List.take (Tryd.prog.cellsOf 44) [c3, c4]) = some y1 := hf2 1 _ rfl
      have g2 : DataW.trod enc Tryd.prog w base spare held m2 9 (List.take (Tryd.prog.cellsOf 9) [c4]) = some y2 := hf2 2 _ rfl
      rw [hI] at g0
      rw [hN] at g1
      rw [hS] at g2
      obtain ⟨d, hd, _, _⟩ := DataW.trod_int Tryd.underlying3 f0
      obtain ⟨ky, hky, _, hks⟩ := DataW.trod_string Tryd.underlying9 f1
      obtain ⟨k, hk, _, hkw⟩ := DataW.trod_int Tryd.underlying3 g0
      obtain ⟨v, hv, _, hvw⟩ := DataW.trod_int Tryd.underlying44 g1
      obtain ⟨s, hs, _, hsz⟩ := DataW.trod_string Tryd.underlying9 g2
      obtain rfl : c0 = .int .i64 d := by simpa using hd
      obtain rfl : c1 = .string ky := by simpa using hky
      obtain rfl : c2 = .int .i64 k := by simpa using hk
      obtain rfl : c3 = .int .i64 v := by simpa using hv
      obtain rfl : c4 = .string s := by simpa using hs
      exact ⟨⟨d, ky, ⟨k, v, s⟩⟩, ⟨hks, hsz, wf_bounds hvw, wf_bounds hkw⟩, World.block_lt_of_cell? _ _ (hat 0 (by omega)), hat 0 (by omega), hat 1 (by omega), hat 2 (by omega), hat 3 (by omega), hat 4 (by omega)⟩
set_option maxRecDepth 100000 in
theorem open_acts {r : Reach} {b0 : Nat} {v : Value} {d : DataW H} {ps : List MemPlace} (hv : Value.okWide Tryd.prog w r b0 22 v) (h : DataW.Trod enc Tryd.prog w base spare held 22 v d ps) :
    ∃ (q : Option Addr) (cap : Nat) (l : List Ac), v = .slice q l.length cap ∧ AcAt w q l ∧ l.length ≤ maxLen ∧ ∀ t ∈ l, t.ok := by
  obtain ⟨a0, len, cap, rfl⟩ := okWide_slice Tryd.underlying22 hv
  obtain ⟨fuel, hf⟩ := h
  have hC : Tryd.prog.cellsOf 49 = 5 := by kernel_rfl
  rcases open_slice Tryd.underlying22 hf with ⟨hcs, _⟩ | ⟨a, len', cap', m, n, D, Pl, hcs, hb, hl, hm, hmm, hx, hi⟩
  · simp [Value.cells] at hcs
    obtain ⟨rfl, rfl, rfl⟩ := hcs
    exact ⟨none, 0, [], rfl, fun i h => absurd h (by simp), Nat.zero_le _, fun t h => absurd h (by simp)⟩
  · simp [Value.cells] at hcs
    obtain ⟨rfl, rfl, rfl⟩ := hcs
    have hlm : len ≤ m := by rw [hmm]; split <;> omega
    obtain ⟨T, hT⟩ := choose_lt (α := Ac) (n := len) (p := fun i t => t.ok ∧ (a.add (i * 5)).block < w.heap.size ∧ w.cell? (a.add (i * 5)) = some (.int .i64 t.d) ∧ w.cell? ⟨(a.add (i * 5)).block, (a.add (i * 5)).off + 1, none⟩ = some (.string t.key) ∧ w.cell? ⟨(a.add (i * 5)).block, (a.add (i * 5)).off + 2, none⟩ = some (.int .i64 t.c.k) ∧ w.cell? ⟨(a.add (i * 5)).block, (a.add (i * 5)).off + 3, none⟩ = some (.int .i64 t.c.n) ∧ w.cell? ⟨(a.add (i * 5)).block, (a.add (i * 5)).off + 4, none⟩ = some (.string t.c.s)) (fun i hi' => by
      obtain ⟨cs, hc, ht⟩ := hi i (by omega)
      have := trod_ac hc ht
      rwa [hC] at this)
    refine ⟨some a, cap, (List.range len).map T, by simp, fun i hi' => ?_, by simp; omega, fun t ht => ?_⟩
    · have hi2 : i < len := by simpa using hi'
      obtain ⟨_, h2, h3⟩ := hT i hi2
      have e : (a.add (i * 5)).block = a.block := by unfold Addr.add; split <;> rfl
      refine ⟨a, rfl, by rw [← e]; exact h2, ?_⟩
      simp only [List.getElem_map, List.getElem_range]
      exact h3
    · obtain ⟨i, hi', rfl⟩ := List.mem_map.1 ht
      exact (hT i (by simpa using hi')).1
end
end Go.Proofs.YtjnhaglcigpknaaDoor
