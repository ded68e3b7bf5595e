/-
  AN ARGUMENT THAT IS A ROW OF THINGS, opened to cells.
-/
import Derived.Test.YtjcnlkbmigemhaaDoorWritesW
import Derived.Deep.Slices
import Derived.ChangeSame
import Derived.Carry
namespace Go.Proofs.YtjcnlkbmigemhaaDoor
open Go.ChangeShapes Go.WideShapes Go.RowKit Go.Deep

theorem wf_bounds {n : Int} (h : (Lit.int .i64 n).wf = true) : -9223372036854775808 ≤ n ∧ n ≤ 9223372036854775807 := by
  simp [Lit.wf, IntKind.min, IntKind.max, IntKind.signed, IntKind.bits] at h
  exact h
instance : Inhabited Th := ⟨⟨0, 0, ⟨#[]⟩⟩⟩
section
variable {H : Type} {enc : TypeId × Value → H} {w : World} {base : Nat} {spare : Nat → Bool} {held : Bool}
theorem trod_thing {a : Addr} {cs : List Value} {n : Nat} {x : DataW H × List MemPlace} (hc : w.cells? base a (Tryd.prog.cellsOf 39) = some cs) (h : DataW.trod enc Tryd.prog w base spare held n 39 cs = some x) :
    ∃ t : Th, t.ok ∧ a.block < w.heap.size ∧ w.cell? a = some (.int .i64 t.k) ∧ w.cell? ⟨a.block, a.off + 1, none⟩ = some (.int .i64 t.n) ∧ w.cell? ⟨a.block, a.off + 2, none⟩ = some (.string t.s) := by
  have hC : Tryd.prog.cellsOf 39 = 3 := by kernel_rfl
  have hI : Tryd.prog.cellsOf 3 = 1 := by kernel_rfl
  have hS : Tryd.prog.cellsOf 9 = 1 := by kernel_rfl
  rw [hC] at hc
  obtain ⟨_, hcl, hat⟩ := World.cells?_some hc
  obtain ⟨xs, m, _, _, _, hlen, hf⟩ := DataW.trod_struct Tryd.underlying39 h
  match cs, hcl, xs, hlen with
  | [c0, c1, c2], _, [x0, x1, x2], _ =>
    have f0 : DataW.trod enc Tryd.prog w base spare held m 3 (List.take (Tryd.prog.cellsOf 3) [c0, c1, c2]) = some x0 := hf 0 _ rfl
    have f1 : DataW.trod enc Tryd.prog w base spare held m 3 (List.take (Tryd.prog.cellsOf 3) [c1, c2]) = some x1 := hf 1 _ rfl
    have f2 : DataW.trod enc Tryd.prog w base spare held m 9 (List.take (Tryd.prog.cellsOf 9) [c2]) = some x2 := hf 2 _ rfl
    rw [hI] at f0 f1
    rw [hS] at f2
    obtain ⟨k, hk, _, hkw⟩ := DataW.trod_int Tryd.underlying3 f0
    obtain ⟨v, hv, _, hvw⟩ := DataW.trod_int Tryd.underlying3 f1
    obtain ⟨s, hs, _, hsz⟩ := DataW.trod_string Tryd.underlying9 f2
    obtain rfl : c0 = .int .i64 k := by simpa using hk
    obtain rfl : c1 = .int .i64 v := by simpa using hv
    obtain rfl : c2 = .string s := by simpa using hs
    have hb := wf_bounds hvw
    exact ⟨⟨k, v, s⟩, ⟨hb.1, hb.2, hsz⟩, World.block_lt_of_cell? _ _ (hat 0 (by omega)), hat 0 (by omega), hat 1 (by omega), hat 2 (by omega)⟩

theorem open_things {r : Reach} {b0 : Nat} {v : Value} {d : DataW H} {ps : List MemPlace} (hv : Value.okWide Tryd.prog w r b0 32 v) (h : DataW.Trod enc Tryd.prog w base spare held 32 v d ps) :
    ∃ (q : Option Addr) (cap : Nat) (l : List Th), v = .slice q l.length cap ∧ ThAt w q l ∧ l.length ≤ maxLen ∧ ∀ t ∈ l, t.ok := by
  obtain ⟨a0, len, cap, rfl⟩ := okWide_slice Tryd.underlying32 hv
  obtain ⟨fuel, hf⟩ := h
  have hC : Tryd.prog.cellsOf 39 = 3 := by kernel_rfl
  rcases open_slice Tryd.underlying32 hf with ⟨hcs, _⟩ | ⟨a, len', cap', m, n, D, Pl, hcs, hb, hl, hm, hmm, hx, hi⟩
  · simp [Value.cells] at hcs
    obtain ⟨rfl, rfl, rfl⟩ := hcs
    exact ⟨none, 0, [], rfl, fun i h => absurd h (by simp), Nat.zero_le _, fun t h => absurd h (by simp)⟩
  · simp [Value.cells] at hcs
    obtain ⟨rfl, rfl, rfl⟩ := hcs
    have hlm : len ≤ m := by rw [hmm]; split <;> omega
    obtain ⟨T, hT⟩ := choose_lt (α := Th) (n := len) (p := fun i t => t.ok ∧ (a.add (i * 3)).block < w.heap.size ∧ w.cell? (a.add (i * 3)) = some (.int .i64 t.k) ∧ w.cell? ⟨(a.add (i * 3)).block, (a.add (i * 3)).off + 1, none⟩ = some (.int .i64 t.n) ∧ w.cell? ⟨(a.add (i * 3)).block, (a.add (i * 3)).off + 2, none⟩ = some (.string t.s)) (fun i hi' => by
      obtain ⟨cs, hc, ht⟩ := hi i (by omega)
      have := trod_thing hc ht
      rwa [hC] at this)
    refine ⟨some a, cap, (List.range len).map T, by simp, fun i hi' => ?_, by simp; omega, fun t ht => ?_⟩
    · have hi2 : i < len := by simpa using hi'
      obtain ⟨_, h2, h3, h4, h5⟩ := hT i hi2
      have e : (a.add (i * 3)).block = a.block := by unfold Addr.add; split <;> rfl
      refine ⟨a, rfl, by rw [← e]; exact h2, ?_⟩
      simp only [List.getElem_map, List.getElem_range]
      exact ⟨h3, h4, h5⟩
    · obtain ⟨i, hi', rfl⟩ := List.mem_map.1 ht
      exact (hT i (by simpa using hi')).1
end
end Go.Proofs.YtjcnlkbmigemhaaDoor
