/-
  AN ARGUMENT THAT IS A ROW OF ACTS (layer 3's calls), opened to the cells that the law reads.
-/
import Derived.Test.YtfacobejgmnmpaaRows
import Derived.WalkKit
import Derived.ProofKit
import Derived.OpenShut
import Derived.Deep.Slices
import Derived.ChangeSame
import Derived.Carry
import Derived.Below
namespace Go.Proofs.Ytfacobejgmnmpaa
open Go.ChangeShapes Go.WideShapes Go.RowKit Go.Deep

/-- An act, as far as it is plain. -/
structure Ac where
  kind : Int
  name : ByteArray
  to : ByteArray
  s : ByteArray
  n : Int
  at' : Int
  kp : Option Addr
  kl : Nat
  kc : Nat
  names : Bool
instance : Inhabited Ac := ⟨⟨0, ⟨#[]⟩, ⟨#[]⟩, ⟨#[]⟩, 0, 0, none, 0, 0, false⟩⟩
def Ac.ok (t : Ac) : Prop := -9223372036854775808 ≤ t.n ∧ t.n ≤ 9223372036854775807 ∧ t.name.size ≤ maxLen ∧ t.to.size ≤ maxLen ∧ t.s.size ≤ maxLen
structure AcCell (w : World) (a : Addr) (t : Ac) : Prop where
  c0 : w.cell? a = some (.int .i64 t.kind)
  c1 : w.cell? ⟨a.block, a.off + 1, none⟩ = some (.string t.name)
  c2 : w.cell? ⟨a.block, a.off + 2, none⟩ = some (.string t.to)
  c3 : w.cell? ⟨a.block, a.off + 3, none⟩ = some (.string t.s)
  c4 : w.cell? ⟨a.block, a.off + 4, none⟩ = some (.int .i64 t.n)
  c5 : w.cell? ⟨a.block, a.off + 5, none⟩ = some (.int .i64 t.at')
  c6 : w.cell? ⟨a.block, a.off + 6, none⟩ = some (.slice t.kp t.kl t.kc)
  c7 : w.cell? ⟨a.block, a.off + 7, none⟩ = some (.bool t.names)
/-- A row of acts in memory, behind p. -/
def AcAt (w : World) (p : Option Addr) (l : List Ac) : Prop := ∀ i (h : i < l.length), ∃ a, p = some a ∧ a.block < w.heap.size ∧ AcCell w (a.add (i * 8)) l[i]
theorem addA_block (a : Addr) (n : Nat) : (a.add n).block = a.block := by unfold Addr.add; split <;> rfl
theorem AcAt.below {w w' : World} {p : Option Addr} {l : List Ac} (h : AcAt w p l) (hb : Below w.heap.size w w') : AcAt w' p l := fun i hi => by
  obtain ⟨a, h1, h2, c0, c1, c2, c3, c4, c5, c6, c7⟩ := h i hi
  have hc (o : Nat) : w'.cell? ⟨(a.add (i * 8)).block, (a.add (i * 8)).off + o, none⟩ = w.cell? ⟨(a.add (i * 8)).block, (a.add (i * 8)).off + o, none⟩ := hb.cell (p := ⟨(a.add (i * 8)).block, (a.add (i * 8)).off + o, none⟩) (by show (a.add (i * 8)).block < _; rw [addA_block]; exact h2)
  exact ⟨a, h1, Nat.lt_of_lt_of_le h2 hb.size, (hb.cell (p := a.add (i * 8)) (by rw [addA_block]; exact h2)).trans c0, (hc 1).trans c1, (hc 2).trans c2, (hc 3).trans c3, (hc 4).trans c4, (hc 5).trans c5, (hc 6).trans c6, (hc 7).trans c7⟩
theorem wf_boundsA {n : Int} (h : (Lit.int .i64 n).wf = true) : -9223372036854775808 ≤ n ∧ n ≤ 9223372036854775807 := by
  simp [Lit.wf, IntKind.min, IntKind.max, IntKind.signed, IntKind.bits] at h
  exact h
section
variable {H : Type} {enc : TypeId × Value → H} {w : World} {base : Nat} {spare : Nat → Bool} {held : Bool}
set_option maxRecDepth 100000 in
theorem trod_act {a : Addr} {cs : List Value} {n : Nat} {x : DataW H × List MemPlace} (hc : w.cells? base a (Try.prog.cellsOf 35) = some cs) (h : DataW.trod enc Try.prog w base spare held n 35 cs = some x) :
    ∃ t : Ac, t.ok ∧ a.block < w.heap.size ∧ AcCell w a t := by
  have hC : Try.prog.cellsOf 35 = 8 := by kernel_rfl
  have hI : Try.prog.cellsOf 3 = 1 := by kernel_rfl
  have hS : Try.prog.cellsOf 9 = 1 := by kernel_rfl
  have hL : Try.prog.cellsOf 33 = 1 := by kernel_rfl
  have hB : Try.prog.cellsOf 4 = 1 := by kernel_rfl
  rw [hC] at hc
  obtain ⟨_, hcl, hat⟩ := World.cells?_some hc
  obtain ⟨xs, m, _, _, _, hlen, hf⟩ := DataW.trod_struct Try.underlying35 h
  match cs, hcl, xs, hlen with
  | [c0, c1, c2, c3, c4, c5, c6, c7], _, [x0, x1, x2, x3, x4, x5, x6, x7], _ =>
    have f0 : DataW.trod enc Try.prog w base spare held m 3 (List.take (Try.prog.cellsOf 3) [c0, c1, c2, c3, c4, c5, c6, c7]) = some x0 := hf 0 _ rfl
    have f1 : DataW.trod enc Try.prog w base spare held m 9 (List.take (Try.prog.cellsOf 9) [c1, c2, c3, c4, c5, c6, c7]) = some x1 := hf 1 _ rfl
    have f2 : DataW.trod enc Try.prog w base spare held m 9 (List.take (Try.prog.cellsOf 9) [c2, c3, c4, c5, c6, c7]) = some x2 := hf 2 _ rfl
    have f3 : DataW.trod enc Try.prog w base spare held m 9 (List.take (Try.prog.cellsOf 9) [c3, c4, c5, c6, c7]) = some x3 := hf 3 _ rfl
    have f4 : DataW.trod enc Try.prog w base spare held m 3 (List.take (Try.prog.cellsOf 3) [c4, c5, c6, c7]) = some x4 := hf 4 _ rfl
    have f5 : DataW.trod enc Try.prog w base spare held m 3 (List.take (Try.prog.cellsOf 3) [c5, c6, c7]) = some x5 := hf 5 _ rfl
    have f6 : DataW.trod enc Try.prog w base spare held m 33 (List.take (Try.prog.cellsOf 33) [c6, c7]) = some x6 := hf 6 _ rfl
    have f7 : DataW.trod enc Try.prog w base spare held m 4 (List.take (Try.prog.cellsOf 4) [c7]) = some x7 := hf 7 _ rfl
    rw [hI] at f0 f4 f5
    rw [hS] at f1 f2 f3
    rw [hL] at f6
    rw [hB] at f7
    obtain ⟨k, hk, _, _⟩ := DataW.trod_int Try.underlying3 f0
    obtain ⟨s1, h1, _, z1⟩ := DataW.trod_string Try.underlying9 f1
    obtain ⟨s2, h2, _, z2⟩ := DataW.trod_string Try.underlying9 f2
    obtain ⟨s3, h3, _, z3⟩ := DataW.trod_string Try.underlying9 f3
    obtain ⟨v4, h4, _, w4⟩ := DataW.trod_int Try.underlying3 f4
    obtain ⟨v5, h5, _, _⟩ := DataW.trod_int Try.underlying3 f5
    obtain rfl : c0 = .int .i64 k := by simpa using hk
    obtain rfl : c1 = .string s1 := by simpa using h1
    obtain rfl : c2 = .string s2 := by simpa using h2
    obtain rfl : c3 = .string s3 := by simpa using h3
    obtain rfl : c4 = .int .i64 v4 := by simpa using h4
    obtain rfl : c5 = .int .i64 v5 := by simpa using h5
    have h6 : ∃ p l c, c6 = .slice p l c := by
      rcases open_slice Try.underlying33 f6 with ⟨e, _⟩ | ⟨a', l', c', _, _, _, _, e, _⟩
      · exact ⟨none, 0, 0, by simpa using e⟩
      · exact ⟨_, _, _, by simpa using e⟩
    obtain ⟨p6, l6, d6, rfl⟩ := h6
    have h7 : ∃ q, c7 = .bool q := by
      obtain ⟨q, e, _⟩ := DataW.trod_bool Try.underlying4 f7
      exact ⟨q, by simpa using e⟩
    obtain ⟨q7, rfl⟩ := h7
    have hb := wf_boundsA w4
    refine ⟨⟨k, s1, s2, s3, v4, v5, p6, l6, d6, q7⟩, ⟨hb.1, hb.2, z1, z2, z3⟩, World.block_lt_of_cell? _ _ (hat 0 (by omega)), hat 0 (by omega), hat 1 (by omega), hat 2 (by omega), hat 3 (by omega), hat 4 (by omega), hat 5 (by omega), hat 6 (by omega), hat 7 (by omega)⟩
set_option maxRecDepth 100000 in
theorem open_acts {r : Reach} {b0 : Nat} {v : Value} {d : DataW H} {ps : List MemPlace} (hv : Value.okWide Try.prog w r b0 22 v) (h : DataW.Trod enc Try.prog w base spare held 22 v d ps) :
    ∃ (q : Option Addr) (cap : Nat) (l : List Ac), v = .slice q l.length cap ∧ AcAt w q l ∧ l.length ≤ maxLen ∧ ∀ t ∈ l, t.ok := by
  obtain ⟨a0, len, cap, rfl⟩ := okWide_slice Try.underlying22 hv
  obtain ⟨fuel, hf⟩ := h
  have hC : Try.prog.cellsOf 35 = 8 := by kernel_rfl
  rcases open_slice Try.underlying22 hf with ⟨hcs, _⟩ | ⟨a, len', cap', m, n, D, Pl, hcs, hb, hl, hm, hmm, hx, hi⟩
  · simp [Value.cells] at hcs
    obtain ⟨rfl, rfl, rfl⟩ := hcs
    exact ⟨none, 0, [], rfl, fun i h => absurd h (by simp), Nat.zero_le _, fun t h => absurd h (by simp)⟩
  · simp [Value.cells] at hcs
    obtain ⟨rfl, rfl, rfl⟩ := hcs
    have hlm : len ≤ m := by rw [hmm]; split <;> omega
    obtain ⟨T, hT⟩ := choose_lt (α := Ac) (n := len) (p := fun i t => t.ok ∧ (a.add (i * 8)).block < w.heap.size ∧ AcCell w (a.add (i * 8)) t) (fun i hi' => by
      obtain ⟨cs, hc, ht⟩ := hi i (by omega)
      have := trod_act hc ht
      rwa [hC] at this)
    refine ⟨some a, cap, (List.range len).map T, by simp, fun i hi' => ?_, by simp; omega, fun t ht => ?_⟩
    · have hi2 : i < len := by simpa using hi'
      obtain ⟨_, h2, h3⟩ := hT i hi2
      have e : (a.add (i * 8)).block = a.block := addA_block a _
      refine ⟨a, rfl, by rw [← e]; exact h2, ?_⟩
      simp only [List.getElem_map, List.getElem_range]
      exact h3
    · obtain ⟨i, hi', rfl⟩ := List.mem_map.1 ht
      exact (hT i (by simpa using hi')).1
end
end Go.Proofs.Ytfacobejgmnmpaa
