/-
  WHAT THE ROWS OF LAYER 12 SHARE: their listed tables as the walks want them, a world for the witness in which they lie; how a row of parts reads as data.
-/
import Derived.Test.YtgahamppfdhnaaaDoorCards
import Derived.Test.YtgahamppfdhnaaaDoorTie
import Derived.Test.YtgahamppfdhnaaaDoorAsAw
import Derived.Deep.Slices
import Derived.ChangeSame
import Derived.Carry
import Derived.WalkKit
import Derived.ProofKit
import Derived.OpenShut
import Derived.ShutString
import Derived.Deep.DeepHandedRow
import Derived.Lib.LaidTab
import Derived.WalkSmall
import Derived.ChangeOld
namespace Go.Proofs.YtgahamppfdhnaaaDoor.AsDoor
open Go.ChangeShapes Go.WideShapes Go.ChangeAt Go.RowKit

theorem own : ownKnob Tryd.prog.godebug = none := by kernel_rfl
theorem gTab : Tryd.prog.globalNamed "internal/strconv.uint64pow10" = some 0 := by kernel_rfl
theorem gTabType : (Tryd.prog.globals[0]?).map (·.type) = some 85 := by kernel_rfl
theorem cellsA : Tryd.prog.cellsOf 85 = 20 := by kernel_rfl
theorem cellsE : Tryd.prog.cellsOf 71 = 1 := by kernel_rfl
theorem datum : (Rows.laid_internal_strconv_uint64pow10 : DataW Unit) = Lib.tabData .u64 Lib.pow10Tab := by kernel_rfl
/-- The list that every row of this seat bears. -/
def laid3 : List (String × DataW Unit) := [("math/bits.deBruijn32tab", Rows.laid_math_bits_deBruijn32tab), ("math/bits.deBruijn64tab", Rows.laid_math_bits_deBruijn64tab), ("internal/strconv.uint64pow10", Rows.laid_internal_strconv_uint64pow10)]

theorem laidOut : laidOutB Tryd.prog = true := by kernel_rfl
/-- WHAT THE ROW's LIST GIVES: the table of powers of ten holds them. -/
theorem table {W : World} (h : laidMet Tryd.prog laid3 W) : Lib.TabIs Tryd.prog W "internal/strconv.uint64pow10" .u64 Lib.pow10Tab := by
  obtain ⟨ps, ⟨g0, t0, cs0, f0, p0, q0, hg0, ht0, hv0, hd0, ⟨g1, t1, cs1, f1, p1, q1, hg1, ht1, hv1, hd1, ⟨g', t', cs, fuel, p, q, hg', ht', hvar, hd, _, _⟩, _⟩, _⟩, _⟩ := h
  obtain rfl := Option.some.inj (gTab.symm.trans hg')
  obtain rfl := Option.some.inj (gTabType.symm.trans ht')
  rw [datum] at hd
  unfold Lib.TabIs
  rw [hvar, ← Lib.cells_of_tab Tryd.underlying85 Tryd.underlying71 cellsE cellsA hd]
theorem below {W : World} {B : Nat} (h : Lib.TabIs Tryd.prog W "internal/strconv.uint64pow10" .u64 Lib.pow10Tab) (hB : 0 < B) : Lib.TabBelow Tryd.prog B W "internal/strconv.uint64pow10" .u64 Lib.pow10Tab :=
  fun _ hb => var?_below hb gTab hB h
/-- The table lies in the heap. -/
theorem lies {W : World} (h : Lib.TabIs Tryd.prog W "internal/strconv.uint64pow10" .u64 Lib.pow10Tab) : 0 < W.heap.size := by
  have := h.cell gTab 0 (by decide)
  exact World.block_lt_of_cell? _ _ this

def tab32 : List Int := [0, 1, 28, 2, 29, 14, 24, 3, 30, 22, 20, 15, 25, 17, 4, 8, 31, 27, 13, 23, 21, 19, 16, 7, 26, 12, 18, 6, 11, 5, 10, 9]
def tab64 : List Int := [0, 1, 56, 2, 57, 49, 28, 3, 61, 58, 42, 50, 38, 29, 17, 4, 62, 47, 59, 36, 45, 43, 51, 22, 53, 39, 33, 30, 24, 18, 12, 5, 63, 55, 48, 27, 60, 41, 37, 16, 46, 35, 44, 21, 52, 32, 23, 11, 54, 26, 40, 15, 34, 20, 31, 10, 25, 14, 19, 9, 13, 8, 7, 6]
def lay (xs : Array Value) : Obj → Obj
  | .cells _ t frozen => .cells xs t frozen
  | o => o
/-- A WORLD FOR THE WITNESS: the settled one, the three tables holding what their initialisers lay. -/
noncomputable def laidWorld (os : Os) : World :=
  { World.holding Tryd.prog os ⟨#[], #[], []⟩ with heap := (((World.holding Tryd.prog os ⟨#[], #[], []⟩).heap.modify 0 (lay (Lib.pow10Tab.map (Value.int .u64)).toArray)).modify 1 (lay (tab32.map (Value.int .u8)).toArray)).modify 2 (lay (tab64.map (Value.int .u8)).toArray) }
theorem facts {W : World} (hL : laidMet Tryd.prog laid3 W) (_hS : W.ShapedOpen Tryd.prog) : Lib.TabBelow Tryd.prog W.heap.size W "internal/strconv.uint64pow10" .u64 Lib.pow10Tab := below (table hL) (lies (table hL))
end Go.Proofs.YtgahamppfdhnaaaDoor.AsDoor
namespace Go.Proofs.YtgahamppfdhnaaaDoor
open Go.ChangeShapes Go.WideShapes Go.RowKit Go.Deep

theorem wf_bounds {n : Int} (h : (Lit.int .i64 n).wf = true) : -9223372036854775808 ≤ n ∧ n ≤ 9223372036854775807 := by
  simp [Lit.wf, IntKind.min, IntKind.max, IntKind.signed, IntKind.bits] at h
  exact h
instance : Inhabited Pa := ⟨⟨⟨#[]⟩, ⟨#[]⟩, 0, 0⟩⟩
section
variable {H : Type} {enc : TypeId × Value → H} {w : World} {base : Nat} {spare : Nat → Bool} {held : Bool}
set_option maxRecDepth 100000 in
theorem trod_pa {a : Addr} {cs : List Value} {n : Nat} {x : DataW H × List MemPlace} (hc : w.cells? base a (Tryd.prog.cellsOf 53) = some cs) (h : DataW.trod enc Tryd.prog w base spare held n 53 cs = some x) :
    ∃ t : Pa, t.ok ∧ a.block < w.heap.size ∧ w.cell? a = some (.string t.op) ∧ w.cell? ⟨a.block, a.off + 1, none⟩ = some (.string t.tx) ∧ w.cell? ⟨a.block, a.off + 2, none⟩ = some (.int .i64 t.pl) ∧ w.cell? ⟨a.block, a.off + 3, none⟩ = some (.int .i64 t.up) := by
  have hA : Tryd.prog.cellsOf 53 = 4 := by kernel_rfl
  have hI : Tryd.prog.cellsOf 3 = 1 := by kernel_rfl
  have hS : Tryd.prog.cellsOf 9 = 1 := by kernel_rfl
  rw [hA] at hc
  obtain ⟨_, hcl, hat⟩ := World.cells?_some hc
  obtain ⟨xs, m, _, _, _, hlen, hf⟩ := DataW.trod_struct Tryd.underlying53 h
  match cs, hcl, xs, hlen with
  | [c0, c1, c2, c3], _, [x0, x1, x2, x3], _ =>
    have f0 : DataW.trod enc Tryd.prog w base spare held m 9 (List.take (Tryd.prog.cellsOf 9) [c0, c1, c2, c3]) = some x0 := hf 0 _ rfl
    have f1 : DataW.trod enc Tryd.prog w base spare held m 9 (List.take (Tryd.prog.cellsOf 9) [c1, c2, c3]) = some x1 := hf 1 _ rfl
    have f2 : DataW.trod enc Tryd.prog w base spare held m 3 (List.take (Tryd.prog.cellsOf 3) [c2, c3]) = some x2 := hf 2 _ rfl
    have f3 : DataW.trod enc Tryd.prog w base spare held m 3 (List.take (Tryd.prog.cellsOf 3) [c3]) = some x3 := hf 3 _ rfl
    rw [hS] at f0 f1
    rw [hI] at f2 f3
    obtain ⟨op, ho, _, hos⟩ := DataW.trod_string Tryd.underlying9 f0
    obtain ⟨tx, ht, _, hts⟩ := DataW.trod_string Tryd.underlying9 f1
    obtain ⟨pl, hp, _, hpw⟩ := DataW.trod_int Tryd.underlying3 f2
    obtain ⟨up, hu, _, huw⟩ := DataW.trod_int Tryd.underlying3 f3
    obtain rfl : c0 = .string op := by simpa using ho
    obtain rfl : c1 = .string tx := by simpa using ht
    obtain rfl : c2 = .int .i64 pl := by simpa using hp
    obtain rfl : c3 = .int .i64 up := by simpa using hu
    exact ⟨⟨op, tx, pl, up⟩, ⟨hos, hts, wf_bounds hpw, wf_bounds huw⟩, World.block_lt_of_cell? _ _ (hat 0 (by omega)), hat 0 (by omega), hat 1 (by omega), hat 2 (by omega), hat 3 (by omega)⟩
set_option maxRecDepth 100000 in
theorem open_parts {r : Reach} {b0 : Nat} {v : Value} {d : DataW H} {ps : List MemPlace} (hv : Value.okWide Tryd.prog w r b0 22 v) (h : DataW.Trod enc Tryd.prog w base spare held 22 v d ps) :
    ∃ (q : Option Addr) (cap : Nat) (l : List Pa), v = .slice q l.length cap ∧ PaAt w q l ∧ (l.length ≤ maxLen ∧ l.length ≤ cap) ∧ (∀ t ∈ l, t.ok) ∧ (d = .nil ∧ l = [] ∨ ∃ elems spare, d = .slice elems spare ∧ elems.length = l.length) := by
  obtain ⟨a0, len, cap, rfl⟩ := okWide_slice Tryd.underlying22 hv
  obtain ⟨fuel, hf⟩ := h
  have hC : Tryd.prog.cellsOf 53 = 4 := by kernel_rfl
  rcases open_slice Tryd.underlying22 hf with ⟨hcs, hxn⟩ | ⟨a, len', cap', m, n, D, Pl, hcs, hb, hl, hm, hmm, hx, hi⟩
  · simp [Value.cells] at hcs
    obtain ⟨rfl, rfl, rfl⟩ := hcs
    have hnil : d = .nil ∧ ([] : List Pa) = [] ∨ ∃ elems spare, d = .slice elems spare ∧ elems.length = ([] : List Pa).length := .inl ⟨congrArg Prod.fst hxn, rfl⟩
    exact ⟨none, 0, [], rfl, fun i h => absurd h (by simp), ⟨Nat.zero_le _, Nat.le_refl _⟩, fun t h => absurd h (by simp), hnil⟩
  · simp [Value.cells] at hcs
    obtain ⟨rfl, rfl, rfl⟩ := hcs
    have hlm : len ≤ m := by rw [hmm]; split <;> omega
    obtain ⟨T, hT⟩ := choose_lt (α := Pa) (n := len) (p := fun i t => t.ok ∧ (a.add (i * 4)).block < w.heap.size ∧ w.cell? (a.add (i * 4)) = some (.string t.op) ∧ w.cell? ⟨(a.add (i * 4)).block, (a.add (i * 4)).off + 1, none⟩ = some (.string t.tx) ∧ w.cell? ⟨(a.add (i * 4)).block, (a.add (i * 4)).off + 2, none⟩ = some (.int .i64 t.pl) ∧ w.cell? ⟨(a.add (i * 4)).block, (a.add (i * 4)).off + 3, none⟩ = some (.int .i64 t.up)) (fun i hi' => by
      obtain ⟨cs, hc, ht⟩ := hi i (by omega)
      have := trod_pa hc ht
      rwa [hC] at this)
    refine ⟨some a, cap, (List.range len).map T, by simp, fun i hi' => ?_, ⟨by simp; omega, by simp; omega⟩, fun t ht => ?_, .inr ⟨_, _, congrArg Prod.fst hx, by simp⟩⟩
    · have hi2 : i < len := by simpa using hi'
      obtain ⟨_, h2, h3⟩ := hT i hi2
      have e : (a.add (i * 4)).block = a.block := by unfold Addr.add; split <;> rfl
      refine ⟨a, rfl, by rw [← e]; exact h2, ?_⟩
      simp only [List.getElem_map, List.getElem_range]
      exact h3
    · obtain ⟨i, hi', rfl⟩ := List.mem_map.1 ht
      exact (hT i (by simpa using hi')).1
end
end Go.Proofs.YtgahamppfdhnaaaDoor
