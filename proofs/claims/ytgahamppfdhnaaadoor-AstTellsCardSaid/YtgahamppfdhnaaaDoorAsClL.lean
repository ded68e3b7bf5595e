/-
  WHAT THE COPY OF A TREE DOES TO ITS ROW: appends in place.
-/
import Derived.Test.YtgahamppfdhnaaaDoorAsClM
import Derived.Test.YtgahamppfdhnaaaDoorAsOtW0
namespace Go.Proofs.YtgahamppfdhnaaaDoor
open Go.RowKit

/-- One block alone has turned. -/
structure OneB (g : Nat) (w w' : World) : Prop where
  os : w'.os = w.os
  tape : w'.tape = w.tape
  output : w'.output = w.output
  size : w'.heap.size = w.heap.size
  block : ∀ k, k ≠ g → w'.heap[k]? = w.heap[k]?
theorem OneB.refl (g : Nat) (w : World) : OneB g w w := ⟨rfl, rfl, rfl, rfl, fun _ _ => rfl⟩
theorem OneB.set {g : Nat} {u w : World} (h : OneB g u w) (o : Nat) (v : Value) : OneB g u (w.setCell ⟨g, o, none⟩ v) :=
  ⟨h.os, h.tape, h.output, by rw [World.size_setCell]; exact h.size, fun k hk => (Below.heap_setCell w ⟨g, o, none⟩ v k hk).trans (h.block k hk)⟩
theorem OneB.cells {g : Nat} : ∀ (vs : List Value) (o : Nat) (w : World), OneB g w (w.setCells g o vs)
  | [], _, w => OneB.refl g w
  | v :: r, o, w => by
    have h := OneB.cells (g := g) r (o + 1) (w.setCell ⟨g, o, none⟩ v)
    have h2 := (OneB.refl g w).set o v
    exact ⟨h.os.trans h2.os, h.tape.trans h2.tape, h.output.trans h2.output, h.size.trans h2.size, fun k hk => (h.block k hk).trans (h2.block k hk)⟩
theorem OneB.below {g b : Nat} {u w w' : World} (h : Below b u w) (k : OneB g w w') (hg : b ≤ g) : Below b u w' :=
  ⟨k.os.trans h.os, k.tape.trans h.tape, k.output.trans h.output, by rw [k.size]; exact h.size, fun j hj => (k.block j (by omega)).trans (h.block j hj)⟩
theorem append_lay {w : World} {g S : Nat} {nds ms : List Nd} {p : Option Addr} {c : Nat} (h : Lay w g S nds)
    (hs : ms = [] ∨ ∃ kg ko, p = some ⟨kg, ko, none⟩ ∧ ∀ (i : Nat) (h : i < ms.length), NodeAt w kg (ko + i * 4) ms[i]) (hm : nds.length + ms.length ≤ S) (ty : TypeId) :
    ∃ w', (Builtin.append_ #[23, 23] ty #[.slice (some ⟨g, 0, none⟩) nds.length S, .slice p ms.length c]).run Tryd.prog w = .ok (.slice (some ⟨g, 0, none⟩) (nds.length + ms.length) S) w' ∧ Lay w' g S (nds ++ ms) ∧ OneB g w w' := by
  obtain ⟨i0, hi0, hz0, hz1, hz2⟩ := info_parts Tryd.infoNode
  have hsrc : Src Tryd.prog i0.size 23 (.slice p ms.length c) ms.length (ndRow ms) w := by
    rw [hz1]
    cases p with
    | none =>
      rcases hs with rfl | ⟨_, _, h, _⟩
      · exact Src.ofNil w Tryd.underlying23 c
      · cases h
    | some a =>
      refine Src.ofSlice w Tryd.underlying23 a ms.length c (ndRow ms) (ndRow_len ms) ?_ (ndRow_one ms)
      rcases hs with rfl | ⟨kg, ko, h, h2⟩
      · intro j u hj; simp [ndRow] at hj
      · injection h with h; subst h
        exact ndRow_cells h2
  have hr := run_append_room_src (P := Tryd.prog) w 23 23 ty 25 i0 Tryd.underlying23 hi0 g 0 nds.length S _ ms.length (ndRow ms) hsrc hm
    (fun j hj => by rw [ndRow_len] at hj; rw [hz1]; exact h.there (by omega)) (fun j _ => h.frozen _)
  rw [hz1, Nat.zero_add] at hr
  exact ⟨_, hr, h.app ms hm, OneB.cells _ _ _⟩
theorem wp_append_runO {P : Program} {w : World} {o : Oper} {a : Act} {K : Act → World → Prop} {Q : Exit → Act → World → Prop} (sl x : Operand) (t u : TypeId)
    (ho : o.op = .call { callee := .builtin .append, args := #[sl, x], argTypes := #[t, u] }) (v s : Value) (hs : a.eval sl = v) (hx : a.eval x = s) (v' : Value) (w' : World)
    (hr : (Builtin.append_ #[t, u] o.type #[v, s]).run P w = .ok v' w') (h : K (a.put o.dst v') w') : o.wp P a w K Q := by
  unfold Oper.wp execOp
  simp only [ho, resolve, invoke, builtin, Sem.run_bind, Sem.run_pure, Result.andThen_ok, List.map_toArray, List.map_cons, List.map_nil, hs, hx, hr]
  exact h
theorem make_nodes (n : Nat) (hn : n ≤ 1000) (W : World) : ∃ cur : Array Value, cur.size = n * 4 ∧ (Instr.makeSlice 23 (.int .i64 0) (.int .i64 (n : Int))).run Tryd.prog W = .ok (.slice (some ⟨W.heap.size, 0, none⟩) 0 n) (W.alloc (.cells cur 25)) := by
  obtain ⟨i0, hi, hz0, hz1, hz2⟩ := info_parts Tryd.infoNode
  have h := run_make (P := Tryd.prog) W 23 25 i0 _ Tryd.underlying23 hi hz0 .i64 .i64 0 (n : Int) (by omega) (by omega) (by rw [hz2]; omega) (by omega)
  refine ⟨_, ?_, h⟩
  rw [size_madeCells, hz1]
  simp
theorem Lay.new (W : World) (n : Nat) (cur : Array Value) (h : cur.size = n * 4) : Lay (W.alloc (.cells cur 25)) W.heap.size n [] :=
  ⟨⟨cur, as_heap_alloc W _, h, by simp [ndRow]⟩, Nat.zero_le _⟩
theorem as_clone (s : ByteArray) (w : World) (hs : s.size ≤ 281474976710656) : Calls Tryd.prog 33 #[.string s] w fun e w' => e = .returned (.string s) ∧ Below w.heap.size w w' := by
  have C := Tryd.stringslite_Clone s w hs
  go_enter Tryd.func33, Tryd.ntmps33
  go_wp2_with (refine C.mono ?_; rintro e w1 ⟨rfl, hb1⟩)
  go_ret
  exact ⟨rfl, hb1⟩
end Go.Proofs.YtgahamppfdhnaaaDoor
