/-
  CONTRACTS of the laws' own up, grow of layer 12.
-/
import Derived.Test.YtgahamppfdhnaaaDoorAsGrM
import Derived.Test.YtgahamppfdhnaaaDoorOrd
import Derived.Test.YtgahamppfdhnaaaDoorOrdC
import Derived.WalkMore
import Derived.ScopeJumps
import Derived.RegionTactic
import Derived.Deep.RegionLaw
import Derived.Deep.RegionHeld3
namespace Go.Proofs.YtgahamppfdhnaaaDoor
open Go.RowKit

theorem up_any (q : Option Addr) (cap : Nat) (l : List Pa) (k : Nat) (w : World) (hA : PaAt w q l) (hok : ∀ a ∈ l, a.ok) (hk : k < l.length) (h1 : 1 ≤ k) (hl : l.length ≤ 1000) :
    Calls Tryd.prog 30 #[.slice q l.length cap, .int .i64 (k : Int)] w fun e w' => e = .returned (.int .i64 (upL l k : Int)) ∧ w = w' := by
  obtain ⟨a, rfl, _, _, _, _, h6⟩ := hA k hk
  obtain ⟨_, _, _, hb1, hb2⟩ := hok l[k] (List.getElem_mem hk)
  rw [upL_at hk]
  unfold upN
  generalize l[k].up = x at *
  have hm : (x.tmod (k : Int)).natAbs < k := by
    rw [Int.natAbs_tmod, Int.natAbs_natCast]
    exact Nat.mod_lt _ (by omega)
  have hki : (1 : Int) ≤ (k : Int) := by omega
  clear hA hok
  go_enter Tryd.func30, Tryd.ntmps30
  go_wp2_with fail
  · have e : (((x.tmod (k : Int)).natAbs : Nat) : Int) = -(x.tmod (k : Int)) := by omega
    rw [e]
    go_ret
    exact ⟨rfl, rfl⟩
  · have e : (((x.tmod (k : Int)).natAbs : Nat) : Int) = x.tmod (k : Int) := by omega
    rw [e]
    go_ret
    exact ⟨rfl, rfl⟩
theorem Tryd.infoNode : (Tryd.prog.info? 25).map (fun i => (i.zero, i.size, i.bytes)) = some (some (.agg #[.string ⟨#[]⟩, .string ⟨#[]⟩, .int .i64 0, .slice none 0 0]), 4, 64) := by kernel_rfl
/-- What grow answers: a tree in new blocks. -/
def GrPost (t : T) (w : World) (e : Ending) (w' : World) : Prop := ∃ nd ks, e = .returned nd.val ∧ TV w' (fun g => w.heap.size ≤ g) nd ks ∧ nd.t ks = t ∧ Below w.heap.size w w'
/-- Blocks that are no row of the list's own. -/
def Free (n0 : Nat) (v : Value) (g : Nat) : Prop := n0 ≤ g ∧ v.ownBlock ≠ some g
theorem as_heap_alloc (w : World) (o : Obj) : (w.alloc o).heap[w.heap.size]? = some o := by
  show (w.heap.push _)[w.heap.size]? = _
  exact Array.getElem?_push_size
theorem as_setCell_block {w : World} {b i : Nat} {cur : Array Value} {e : TypeId} {fz : Nat × Nat} (h : w.heap[b]? = some (.cells cur e fz)) (v : Value) :
    (w.setCell ⟨b, i, none⟩ v).heap[b]? = some (.cells (cur.setIfInBounds i v) e fz) := by
  have hlt : b < w.heap.size := (Array.getElem?_eq_some_iff.1 h).1
  have hv : w.heap[b] = .cells cur e fz := (Array.getElem?_eq_some_iff.1 h).2
  unfold World.setCell
  rw [Array.getElem?_eq_getElem (by simpa using hlt), Array.getElem_modify]
  simp [hv]
theorem as_cell {w : World} {b i : Nat} {cur : Array Value} {e : TypeId} {fz : Nat × Nat} (h : w.heap[b]? = some (.cells cur e fz)) : w.cell? ⟨b, i, none⟩ = cur[i]? := by simp [World.cell?, h]
theorem as_frozen {w : World} {b i : Nat} {cur : Array Value} {e : TypeId} (h : w.heap[b]? = some (.cells cur e (0, 0))) : w.frozen? ⟨b, i, none⟩ = false := by simp [World.frozen?, h]
theorem as_lt {w : World} {b : Nat} {o : Obj} (h : w.heap[b]? = some o) : b < w.heap.size := (Array.getElem?_eq_some_iff.1 h).1
/-- A node under way: its block, the row of its kids, these as trees. -/
structure GrSt (ty : TypeId) (w0 : World) (nb : Nat) (op tx : ByteArray) (pl : Int) (ts : List T) (nds : List Nd) (v : Value) (w : World) : Prop where
  blk : w.heap[nb]? = some (.cells #[.string op, .string tx, .int .i64 pl, v] ty (0, 0))
  pos : nb = w0.heap.size + 1
  own : w.ownsRow (nb + 1) ty 4 v nds.length (ndRow nds)
  trs : Trs w (Free (nb + 1) v) ts nds
  bel : Below w0.heap.size w0 w
  res : w.heap[w0.heap.size]? = some (.cells #[.string ⟨#[]⟩, .string ⟨#[]⟩, .int .i64 0, .slice none 0 0] ty (0, 0))
/-- The node's cells that the append reads and writes. -/
def GC (nb : Nat) (v : Value) (w : World) : Prop := w.cell? ⟨nb, 3, none⟩ = some v ∧ w.frozen? ⟨nb, 3, none⟩ = false
section
variable {ty : TypeId} {w0 w w' : World} {nb : Nat} {op tx : ByteArray} {pl : Int} {ts : List T} {nds : List Nd} {v : Value}
theorem GrSt.gc (h : GrSt ty w0 nb op tx pl ts nds v w) : GC nb v w := ⟨as_cell h.blk, as_frozen h.blk⟩
theorem GrSt.lt (h : GrSt ty w0 nb op tx pl ts nds v w) : nb < w.heap.size := as_lt h.blk
theorem GrSt.next (h : GrSt ty w0 nb op tx pl ts nds v w) (hb : Below w.heap.size w w') : GrSt ty w0 nb op tx pl ts nds v w' := by
  have hs := hb.size
  refine ⟨(hb.block nb h.lt).trans h.blk, h.pos, ?_, h.trs.kept (fun g _ hl => hb.block g hl) (fun _ hg _ => hg), h.bel.trans (hb.mono h.bel.size), (hb.block _ (as_lt h.res)).trans h.res⟩
  refine ⟨h.own.1, ?_⟩
  rcases h.own.2 with h2 | ⟨g, cap, cur, rfl, hB, hgg, h3⟩
  · exact .inl h2
  · exact .inr ⟨g, cap, cur, rfl, hB, (hb.block g (as_lt hgg)).trans hgg, h3⟩
theorem GrSt.drew (h : GrSt ty w0 nb op tx pl ts nds v w) : GrSt ty w0 nb op tx pl ts nds v w.drew := h.next (Below.refl _ _).drew
/-- Behind an append to its kids: the row stored back. -/
theorem GrSt.put {nd : Nd} {t : T} {v' : Value} {w8 w9 : World} {lit : Obj} (h : GrSt ty w0 nb op tx pl ts nds v w) (hb : Below w.heap.size w w8) (ht : Tr w8 (fun g => w.heap.size ≤ g) t nd)
    (ho : w9.ownsRow (nb + 1) ty 4 v' (nds.length + 1) (ndRow nds ++ nd.vals)) (hg : (w8.alloc lit).grownBy w9 v.ownBlock) (hat : v'.ownBlock = v.ownBlock ∨ v'.ownBlock = some (w8.alloc lit).heap.size) :
    GrSt ty w0 nb op tx pl (ts ++ [t]) (nds ++ [nd]) v' (w9.setCell ⟨nb, 3, none⟩ v') := by
  have h8 := h.next hb
  have hnb := h.pos
  have hs8 := hb.size
  have hal : (w8.alloc lit).heap.size = w8.heap.size + 1 := by simp
  have hs9 := hg.size
  have hob : ∀ k, v.ownBlock = some k → nb + 1 ≤ k ∧ k < w.heap.size := fun k hk => h.own.lt k hk
  have h89 : ∀ k, k < w8.heap.size → v.ownBlock ≠ some k → w9.heap[k]? = w8.heap[k]? := fun k hk hne =>
    (hg.block k (by omega) (fun e => hne e.symm)).trans (Below.heap_alloc w8 lit k hk)
  have hne : ∀ k, k ≤ nb → v.ownBlock ≠ some k := fun k hk e => by have := (hob k e).1; omega
  have hset : ∀ k, k ≠ nb → (w9.setCell ⟨nb, 3, none⟩ v').heap[k]? = w9.heap[k]? := fun k hk => Below.heap_setCell w9 ⟨nb, 3, none⟩ v' k hk
  have hfree : ∀ g, g < w8.heap.size → v.ownBlock ≠ some g → v'.ownBlock ≠ some g := fun g hgl hgn e => by
    rcases hat with h2 | h2
    · exact hgn (h2 ▸ e)
    · rw [h2] at e
      have := Option.some.inj e
      omega
  have hb9 : w9.heap[nb]? = some (.cells #[.string op, .string tx, .int .i64 pl, v] ty (0, 0)) := (h89 nb (by have := h.lt; omega) (hne nb (Nat.le_refl _))).trans h8.blk
  refine ⟨as_setCell_block hb9 _, hnb, ?_, ?_, ?_, ?_⟩
  · have e : ndRow (nds ++ [nd]) = ndRow nds ++ nd.vals := by rw [ndRow_append]; simp [ndRow]
    rw [e, List.length_append, List.length_singleton]
    refine ⟨ho.1, ?_⟩
    rcases ho.2 with h2 | ⟨g, cap, cur, rfl, hB, hgg, h3⟩
    · exact .inl h2
    · exact .inr ⟨g, cap, cur, rfl, hB, (hset g (by omega)).trans hgg, h3⟩
  · refine Trs.snoc ?_ ?_
    · refine ht.kept (fun g hgB hl => (hset g (by have := h.lt; omega)).trans (h89 g hl (fun e => by have := (hob g e).2; omega))) (fun g hgB hl => ⟨by have := h.lt; omega, hfree g hl (fun e => by have := (hob g e).2; omega)⟩)
    · refine h8.trs.kept (fun g hgB hl => (hset g (by have := hgB.1; omega)).trans (h89 g hl hgB.2)) (fun g hgB hl => ⟨hgB.1, hfree g hl hgB.2⟩)
  · have b9 : Below w0.heap.size w0 w9 := (h8.bel.alloc h8.bel.size lit).grown hg (by rw [hal]; have := h8.bel.size; omega) (fun k hk => by have := (hob k hk).1; omega)
    exact b9.setCell (p := ⟨nb, 3, none⟩) (by show w0.heap.size ≤ nb; omega) _
  · exact (hset _ (by omega)).trans ((h89 _ (by have := as_lt h.res; omega) (hne _ (by omega))).trans h8.res)
end
/-- Four stores of a node into a block. -/
def put4 (w : World) (g : Nat) (n : Nd) : World := (((w.setCell ⟨g, 0, none⟩ (.string n.op)).setCell ⟨g, 1, none⟩ (.string n.tx)).setCell ⟨g, 2, none⟩ (.int .i64 n.pl)).setCell ⟨g, 3, none⟩ (.slice n.kp n.kn n.kc)
theorem put4_block {w : World} {g k : Nat} (hk : k ≠ g) (n : Nd) : (put4 w g n).heap[k]? = w.heap[k]? := by
  unfold put4
  rw [Below.heap_setCell _ _ _ k hk, Below.heap_setCell _ _ _ k hk, Below.heap_setCell _ _ _ k hk, Below.heap_setCell _ _ _ k hk]
theorem put4_below {w0 w : World} {g b : Nat} (h : Below b w0 w) (hg : b ≤ g) (n : Nd) : Below b w0 (put4 w g n) :=
  (((h.setCell (p := ⟨g, 0, none⟩) hg _).setCell (p := ⟨g, 1, none⟩) hg _).setCell (p := ⟨g, 2, none⟩) hg _).setCell (p := ⟨g, 3, none⟩) hg _
theorem as_succ {W : World} {base : Nat} {e : TypeId} {size : Nat} {v : Value} {k : Nat} {xs : List Value} (h : W.ownsRow base e size v (k + 1) xs) : ∃ g cap, v = .slice (some ⟨g, 0, none⟩) (k + 1) cap := by
  rcases h.2 with ⟨_, h0⟩ | ⟨g, cap, _, rfl, _⟩
  · omega
  · exact ⟨g, cap, rfl⟩
theorem node_cells_new (w : World) (ty : TypeId) (n : Nd) : ∀ (j : Nat) (u : Value), n.vals[j]? = some u → (w.alloc (.cells #[.string n.op, .string n.tx, .int .i64 n.pl, .slice n.kp n.kn n.kc] ty)).cell? (Addr.add ⟨w.heap.size, 0, none⟩ j) = some u := by
  intro j u hj
  match j, hj with
  | 0, hj => simp [Nd.vals] at hj; subst hj; simp [Addr.add, go_sem]
  | 1, hj => simp [Nd.vals] at hj; subst hj; simp [Addr.add, go_sem]
  | 2, hj => simp [Nd.vals] at hj; subst hj; simp [Addr.add, go_sem]
  | 3, hj => simp [Nd.vals] at hj; subst hj; simp [Addr.add, go_sem]
  | n + 4, hj => simp [Nd.vals] at hj
def PaC (a : Addr) (i : Nat) (x : Pa) (w : World) : Prop := w.cell? (a.add (i * 4)) = some (.string x.op) ∧ w.cell? ⟨(a.add (i * 4)).block, (a.add (i * 4)).off + 1, none⟩ = some (.string x.tx) ∧
  w.cell? ⟨(a.add (i * 4)).block, (a.add (i * 4)).off + 2, none⟩ = some (.int .i64 x.pl)
set_option maxHeartbeats 4000000 in
set_option maxRecDepth 100000 in
theorem grow_one (q : Option Addr) (cap : Nat) (l : List Pa) (i : Nat) (hok : ∀ a ∈ l, a.ok) (hi : i < l.length) (hl : l.length ≤ 1000)
    (ih : ∀ k, i < k → k < l.length → ∀ w, PaAt w q l → Calls Tryd.prog 22 #[.slice q l.length cap, .int .i64 (k : Int)] w (GrPost (growT l k) w)) (w : World) (hA : PaAt w q l) :
    Calls Tryd.prog 22 #[.slice q l.length cap, .int .i64 (i : Int)] w (GrPost (growT l i) w) := by
  obtain ⟨i0, hi0, hz0, hz1, hz2⟩ := info_parts Tryd.infoNode
  rw [growT_eq hi]
  obtain ⟨a, rfl, ha2, ha3, ha4, ha5, _⟩ := hA i hi
  obtain ⟨hs1, hs2, _, _⟩ := hok l[i] (List.getElem_mem hi)
  have hpc : PaC a i l[i] w := ⟨ha3, ha4, ha5⟩
  have hpl : (a.add (i * 4)).block < w.heap.size := by rw [add_blockP]; exact ha2
  obtain ⟨⟨xop, xtx, xpl, xup⟩, hx⟩ : ∃ x, x = l[i] := ⟨_, rfl⟩
  rw [← hx] at hpc hs1 hs2 ⊢
  simp only at hs1 hs2 hpc ⊢
  have C1 := Lib.hid fun W => cut_any xop 10 W hs1 (by omega)
  have C2 := Lib.hid fun W => cut_any xtx 20 W hs2 (by omega)
  generalize cutB xop 10 = op at *
  generalize cutB xtx 20 = tx at *
  have HOK := Lib.hid hok
  have HA := Lib.hid hA
  have HIH := Lib.hid ih
  have hpn : ∀ W, Below w.heap.size w W → PaC a i ⟨xop, xtx, xpl, xup⟩ W := fun W hb =>
    ⟨(hb.cell (p := a.add (i * 4)) hpl).trans hpc.1, (hb.cell (p := ⟨(a.add (i * 4)).block, (a.add (i * 4)).off + 1, none⟩) hpl).trans hpc.2.1, (hb.cell (p := ⟨(a.add (i * 4)).block, (a.add (i * 4)).off + 2, none⟩) hpl).trans hpc.2.2⟩
  have b1 : Below w.heap.size w (w.alloc (.cells #[.string ⟨#[]⟩, .string ⟨#[]⟩, .int .i64 0, .slice none 0 0] 25)) := (Below.refl _ _).alloc (Nat.le_refl _) _
  have r1 := as_heap_alloc w (.cells #[.string ⟨#[]⟩, .string ⟨#[]⟩, .int .i64 0, .slice none 0 0] 25)
  have hz1' : (w.alloc (.cells #[.string ⟨#[]⟩, .string ⟨#[]⟩, .int .i64 0, .slice none 0 0] 25)).heap.size = w.heap.size + 1 := by simp
  have HB1 := Lib.hid b1
  have HR1 := Lib.hid r1
  have HPN := Lib.hid hpn
  clear hA hok ih ha2 ha3 ha4 ha5 hpc hpl hx hs1 hs2 hpn b1 r1
  go_enter Tryd.func22, Tryd.ntmps22
  have hl0 : ((l.length : Int) == 0) = false := by rw [beq_eq_false_iff_ne]; omega
  have hil : (i : Int) < (l.length : Int) := by omega
  go_wp2_with fail
  generalize w.alloc (.cells #[.string ⟨#[]⟩, .string ⟨#[]⟩, .int .i64 0, .slice none 0 0] 25) = W1 at *
  refine wp_region_held_drew (S := fun w' => PaC a i ⟨xop, xtx, xpl, xup⟩ w') (by kernel_rfl) (HPN.out _ HB1.out.drew) (fun hHeld => ?_)
  refine wpAnyH_take (i := 0) (oi := _) (v := ?_) rfl (by kernel_rfl) (by kernel_rfl) (by kernel_rfl) (fun _ _ _ h => h) (Or.inl ⟨by rfl, ?_⟩) (by assumption) ?_
  rotate_left
  · (intro w hSw; (obtain ⟨q0, q1, q2⟩ := hSw); go_simp; try with_reducible rfl)
  try simp only [List.getElem_toArray, List.getElem_cons_zero, Act.put, List.setIfInBounds_toArray, List.set_cons_zero, List.set_cons_succ]
  refine wpAnyH_take (i := 1) (oi := _) (v := ?_) rfl (by kernel_rfl) (by kernel_rfl) (by kernel_rfl) (fun _ _ _ h => h) (Or.inl ⟨by rfl, ?_⟩) (by assumption) ?_
  rotate_left
  · (intro w hSw; (obtain ⟨q0, q1, q2⟩ := hSw); go_simp; try with_reducible rfl)
  try simp only [List.getElem_toArray, List.getElem_cons_zero, List.getElem_cons_succ, Act.put, List.setIfInBounds_toArray, List.set_cons_zero, List.set_cons_succ]
  refine wpAnyH_take (i := 2) (oi := _) (v := ?_) rfl (by kernel_rfl) (by kernel_rfl) (by kernel_rfl) (fun _ _ _ h => h) (Or.inl ⟨by rfl, ?_⟩) (by assumption) ?_
  rotate_left
  · (intro w hSw; (obtain ⟨q0, q1, q2⟩ := hSw); go_simp; try with_reducible rfl)
  try simp only [List.getElem_toArray, List.getElem_cons_zero, List.getElem_cons_succ, Act.put, List.setIfInBounds_toArray, List.set_cons_zero, List.set_cons_succ]
  refine wpAnyH_take (i := 3) (oi := _) (v := ?_) rfl (by kernel_rfl) (by kernel_rfl) (by kernel_rfl) (fun _ _ _ h => h) (Or.inl ⟨by rfl, ?_⟩) (by assumption) ?_
  rotate_left
  · (intro w hSw; (obtain ⟨q0, q1, q2⟩ := hSw); go_simp; try with_reducible rfl)
  try simp only [List.getElem_toArray, List.getElem_cons_zero, List.getElem_cons_succ, Act.put, List.setIfInBounds_toArray, List.set_cons_zero, List.set_cons_succ]
  refine wpAnyH_take (i := 4) (oi := _) (v := ?_) rfl (by kernel_rfl) (by kernel_rfl) (by kernel_rfl) (fun _ _ _ h => h) (Or.inl ⟨by rfl, ?_⟩) (by assumption) ?_
  rotate_left
  · (intro w hSw; (obtain ⟨q0, q1, q2⟩ := hSw); go_simp; try with_reducible rfl)
  try simp only [List.getElem_toArray, List.getElem_cons_zero, List.getElem_cons_succ, Act.put, List.setIfInBounds_toArray, List.set_cons_zero, List.set_cons_succ]
  refine wpAnyH_take (i := 6) (oi := _) (v := ?_) rfl (by kernel_rfl) (by kernel_rfl) (by kernel_rfl) (fun _ _ _ h => h) (Or.inl ⟨by rfl, ?_⟩) (by assumption) ?_
  rotate_left
  · (intro w hSw; (obtain ⟨q0, q1, q2⟩ := hSw); go_simp; try with_reducible rfl)
  try simp only [List.getElem_toArray, List.getElem_cons_zero, List.getElem_cons_succ, Act.put, List.setIfInBounds_toArray, List.set_cons_zero, List.set_cons_succ]
  refine wpAnyH_take (i := 7) (oi := _) (v := ?_) rfl (by kernel_rfl) (by kernel_rfl) (by kernel_rfl) (fun _ _ _ h => h) (Or.inl ⟨by rfl, ?_⟩) (by assumption) ?_
  rotate_left
  · (intro w hSw; (obtain ⟨q0, q1, q2⟩ := hSw); go_simp; try with_reducible rfl)
  try simp only [List.getElem_toArray, List.getElem_cons_zero, List.getElem_cons_succ, Act.put, List.setIfInBounds_toArray, List.set_cons_zero, List.set_cons_succ]
  refine wpAnyH_take (i := 8) (oi := _) (v := ?_) rfl (by kernel_rfl) (by kernel_rfl) (by kernel_rfl) (fun _ _ _ h => h) (Or.inl ⟨by rfl, ?_⟩) (by assumption) ?_
  rotate_left
  · (intro w hSw; (obtain ⟨q0, q1, q2⟩ := hSw); go_simp; try with_reducible rfl)
  try simp only [List.getElem_toArray, List.getElem_cons_zero, List.getElem_cons_succ, Act.put, List.setIfInBounds_toArray, List.set_cons_zero, List.set_cons_succ]
  refine wpAnyH_take (i := 9) (oi := _) (v := ?_) rfl (by kernel_rfl) (by kernel_rfl) (by kernel_rfl) (fun _ _ _ h => h) (Or.inl ⟨by rfl, ?_⟩) (by assumption) ?_
  rotate_left
  · (intro w hSw; (obtain ⟨q0, q1, q2⟩ := hSw); go_simp; try with_reducible rfl)
  try simp only [List.getElem_toArray, List.getElem_cons_zero, List.getElem_cons_succ, Act.put, List.setIfInBounds_toArray, List.set_cons_zero, List.set_cons_succ]
  refine wpAnyH_take (i := 10) (oi := _) (v := ?_) rfl (by kernel_rfl) (by kernel_rfl) (by kernel_rfl) (fun _ _ _ h => h) (Or.inl ⟨by rfl, ?_⟩) (by assumption) ?_
  rotate_left
  · (intro w hSw; (obtain ⟨q0, q1, q2⟩ := hSw); go_simp; try with_reducible rfl)
  try simp only [List.getElem_toArray, List.getElem_cons_zero, List.getElem_cons_succ, Act.put, List.setIfInBounds_toArray, List.set_cons_zero, List.set_cons_succ]
  refine wpAnyH_take (i := 12) (oi := _) (v := ?_) rfl (by kernel_rfl) (by kernel_rfl) (by kernel_rfl) (fun _ _ _ h => h) (Or.inl ⟨by rfl, ?_⟩) (by assumption) ?_
  rotate_left
  · (intro w hSw; (obtain ⟨q0, q1, q2⟩ := hSw); go_simp; try with_reducible rfl)
  try simp only [List.getElem_toArray, List.getElem_cons_zero, List.getElem_cons_succ, Act.put, List.setIfInBounds_toArray, List.set_cons_zero, List.set_cons_succ]
  refine wpAnyH_take (i := 13) (oi := _) (v := ?_) rfl (by kernel_rfl) (by kernel_rfl) (by kernel_rfl) (fun _ _ _ h => h) (Or.inl ⟨by rfl, ?_⟩) (by assumption) ?_
  rotate_left
  · (intro w hSw; (obtain ⟨q0, q1, q2⟩ := hSw); go_simp; try with_reducible rfl)
  try simp only [List.getElem_toArray, List.getElem_cons_zero, List.getElem_cons_succ, Act.put, List.setIfInBounds_toArray, List.set_cons_zero, List.set_cons_succ]
  refine wpAnyH_take (i := 14) (oi := _) (v := ?_) rfl (by kernel_rfl) (by kernel_rfl) (by kernel_rfl) (fun _ _ _ h => h) (Or.inl ⟨by rfl, ?_⟩) (by assumption) ?_
  rotate_left
  · (intro w hSw; (obtain ⟨q0, q1, q2⟩ := hSw); go_simp; try with_reducible rfl)
  try simp only [List.getElem_toArray, List.getElem_cons_zero, List.getElem_cons_succ, Act.put, List.setIfInBounds_toArray, List.set_cons_zero, List.set_cons_succ]
  refine wpAnyH_take (i := 15) (oi := _) (v := ?_) rfl (by kernel_rfl) (by kernel_rfl) (by kernel_rfl) (fun _ _ _ h => h) (Or.inl ⟨by rfl, ?_⟩) (by assumption) ?_
  rotate_left
  · (intro w hSw; (obtain ⟨q0, q1, q2⟩ := hSw); go_simp; try with_reducible rfl)
  try simp only [List.getElem_toArray, List.getElem_cons_zero, List.getElem_cons_succ, Act.put, List.setIfInBounds_toArray, List.set_cons_zero, List.set_cons_succ]
  refine wpAnyH_take (i := 16) (oi := _) (v := ?_) rfl (by kernel_rfl) (by kernel_rfl) (by kernel_rfl) (fun _ _ _ h => h) (Or.inl ⟨by rfl, ?_⟩) (by assumption) ?_
  rotate_left
  · (intro w hSw; (obtain ⟨q0, q1, q2⟩ := hSw); go_simp; try with_reducible rfl)
  try simp only [List.getElem_toArray, List.getElem_cons_zero, List.getElem_cons_succ, Act.put, List.setIfInBounds_toArray, List.set_cons_zero, List.set_cons_succ]
  refine wpAnyH_call (i := 5) (oi := _) (v := .string op) rfl (by kernel_rfl) (by kernel_rfl) (by kernel_rfl) (fun _ _ _ h => h) (by rfl) 9 #[.string xop, .int .i64 10] (fun w => ?_) C1.out (by assumption) ?_
  · (go_simp; try with_reducible rfl)
  try simp only [List.getElem_toArray, List.getElem_cons_zero, List.getElem_cons_succ, Act.put, List.setIfInBounds_toArray, List.set_cons_zero, List.set_cons_succ]
  refine wpAnyH_call (i := 11) (oi := _) (v := .string tx) rfl (by kernel_rfl) (by kernel_rfl) (by kernel_rfl) (fun _ _ _ h => h) (by rfl) 9 #[.string xtx, .int .i64 20] (fun w => ?_) C2.out (by assumption) ?_
  · (go_simp; try with_reducible rfl)
  try simp only [List.getElem_toArray, List.getElem_cons_zero, List.getElem_cons_succ, Act.put, List.setIfInBounds_toArray, List.set_cons_zero, List.set_cons_succ]
  refine wpAnyH_take (i := 17) (oi := _) (v := ?_) rfl (by kernel_rfl) (by kernel_rfl) (by kernel_rfl) (fun _ _ _ h => h) (Or.inl ⟨by rfl, ?_⟩) (by assumption) ?_
  rotate_left
  · (intro w hSw; (obtain ⟨q0, q1, q2⟩ := hSw); go_simp; try with_reducible rfl)
  try simp only [List.getElem_toArray, List.getElem_cons_zero, List.getElem_cons_succ, Act.put, List.setIfInBounds_toArray, List.set_cons_zero, List.set_cons_succ]
  refine wpAnyH_ready (rs := [18]) (by kernel_rfl) (by simp) ?_
  refine AllReadyH.cons (o := _) rfl (fun K hK => ?_) AllReadyH.nil
  go_simp
  refine hK.out _ _ (HPN.out _ (HB1.out.drew.alloc (by show w.heap.size ≤ W1.heap.size; omega) _)) (fun hHeld => ?_)
  clear hK K
  try simp only [List.getElem_toArray, List.getElem_cons_zero, List.getElem_cons_succ, Act.put, List.setIfInBounds_toArray, List.set_cons_zero, List.set_cons_succ]
  refine wpAnyH_ready (rs := [19]) (by kernel_rfl) (by simp) ?_
  refine AllReadyH.cons (o := _) rfl (fun K hK => ?_) AllReadyH.nil
  go_simp
  refine hK.out _ _ (HPN.out _ (HB1.out.drew.alloc (by show w.heap.size ≤ W1.heap.size; omega) _)) (fun hHeld => ?_)
  clear hK K
  try simp only [List.getElem_toArray, List.getElem_cons_zero, List.getElem_cons_succ, Act.put, List.setIfInBounds_toArray, List.set_cons_zero, List.set_cons_succ]
  refine wpAnyH_done (by kernel_rfl) ?_ _
  have g2 : GrSt 25 w (w.heap.size + 1) op tx xpl [] [] (.slice none 0 0) (W1.alloc (.cells #[.string op, .string tx, .int .i64 xpl, .slice none 0 0] 25)).drew := by
    refine GrSt.drew ⟨?_, rfl, World.ownsRow_nil _ _ _ _, rfl, HB1.out.alloc (by omega) _, ?_⟩
    · rw [← hz1']; exact as_heap_alloc _ _
    · exact (Below.heap_alloc _ _ _ (by omega)).trans HR1.out
  generalize (W1.alloc (.cells #[.string op, .string tx, .int .i64 xpl, .slice none 0 0] 25)).drew = W2 at *
  have HG2 := Lib.hid g2
  clear g2 hHeld HR1 HB1 HPN C1 C2
  obtain ⟨nb, hnb⟩ : ∃ nb, w.heap.size + 1 = nb := ⟨_, rfl⟩
  rw [hnb] at HG2
  try rw [hnb]
  have HNB := Lib.hid hnb
  go_wp2_with fail
  try rw [HNB.out]
  go_loopw [6] (fun iv wr => ∃ (k : Nat) (nds : List Nd) (v : Value), i + 1 ≤ k ∧ k ≤ l.length ∧ iv = .int .i64 (k : Int) ∧ Hid (GrSt 25 w nb op tx xpl (kidsTo l i k) nds v wr)) (fun iv _ => l.length - (intOf iv).toNat)
  case atStart => exact ⟨i + 1, [], _, Nat.le_refl _, hi, by simp, by rw [kidsTo_start]; exact HG2⟩
  case round =>
    obtain ⟨k, nds, v, hk1, hk2, rfl, HG⟩ := hrel
    by_cases hc : k < l.length
    · have hki : (k : Int) < (l.length : Int) := by omega
      have CU := Lib.hid fun W (h : Below w.heap.size w W) => up_any (some a) cap l k W (HA.out.next h) HOK.out hc (by omega) hl
      have HNX := Lib.hid (kidsTo_next (l := l) hk1)
      go_wp2_with fail
      refine (CU.out _ HG.out.bel).mono ?_
      rintro e w3 ⟨rfl, rfl⟩
      by_cases hu : upL l k = i
      · rw [if_pos hu] at HNX
        have hui : ((upL l k : Int) == (i : Int)) = true := by rw [beq_iff_eq]; omega
        have CG := Lib.hid fun W (h : Below w.heap.size w W) => HIH.out k (by omega) hc W (HA.out.next h)
        have hnl : nds.length ≤ 1000 := by
          have h1 := HG.out.trs.len
          have h2 : (kidsTo l i k).length ≤ k - (i + 1) := by
            unfold kidsTo
            rw [List.length_map]
            exact Nat.le_trans (List.length_filter_le _ _) (by simp)
          omega
        clear CU
        go_wp2_with fail
        refine wp_region_L (st := [8]) (S := fun w' => GC nb v w') (by kernel_rfl) (HG.out.gc) (fun hHeld => ?_)
        refine wpAnyL_take (i := 0) (oi := _) (v := ?_) rfl (by kernel_rfl) (by kernel_rfl) (by kernel_rfl) (by decide) (by kernel_rfl) (by kernel_rfl) (by kernel_rfl) (fun _ _ _ h => h) (Or.inl ⟨by rfl, ?_⟩) (by assumption) ?_
        rotate_left
        · (intro w hSw; obtain ⟨q0, q1⟩ := hSw; go_simp; try with_reducible rfl)
        try simp only [List.getElem_toArray, List.getElem_cons_zero, Act.put, List.setIfInBounds_toArray, List.set_cons_zero, List.set_cons_succ]
        refine wpAnyL_take (i := 1) (oi := _) (v := ?_) rfl (by kernel_rfl) (by kernel_rfl) (by kernel_rfl) (by decide) (by kernel_rfl) (by kernel_rfl) (by kernel_rfl) (fun _ _ _ h => h) (Or.inl ⟨by rfl, ?_⟩) (by assumption) ?_
        rotate_left
        · (intro w hSw; obtain ⟨q0, q1⟩ := hSw; go_simp; try with_reducible rfl)
        try simp only [List.getElem_toArray, List.getElem_cons_zero, List.getElem_cons_succ, Act.put, List.setIfInBounds_toArray, List.set_cons_zero, List.set_cons_succ]
        refine wpAnyL_take (i := 2) (oi := _) (v := ?_) rfl (by kernel_rfl) (by kernel_rfl) (by kernel_rfl) (by decide) (by kernel_rfl) (by kernel_rfl) (by kernel_rfl) (fun _ _ _ h => h) (Or.inl ⟨by rfl, ?_⟩) (by assumption) ?_
        rotate_left
        · (intro w hSw; obtain ⟨q0, q1⟩ := hSw; go_simp; try with_reducible rfl)
        try simp only [List.getElem_toArray, List.getElem_cons_zero, List.getElem_cons_succ, Act.put, List.setIfInBounds_toArray, List.set_cons_zero, List.set_cons_succ]
        refine wpAnyL_take (i := 3) (oi := _) (v := ?_) rfl (by kernel_rfl) (by kernel_rfl) (by kernel_rfl) (by decide) (by kernel_rfl) (by kernel_rfl) (by kernel_rfl) (fun _ _ _ h => h) (Or.inl ⟨by rfl, ?_⟩) (by assumption) ?_
        rotate_left
        · (intro w hSw; obtain ⟨q0, q1⟩ := hSw; go_simp; try with_reducible rfl)
        try simp only [List.getElem_toArray, List.getElem_cons_zero, List.getElem_cons_succ, Act.put, List.setIfInBounds_toArray, List.set_cons_zero, List.set_cons_succ]
        refine wpAnyL_ready (rs := [4]) (by kernel_rfl) (by simp) ?_
        refine AllReadyL.cons (o := _) rfl (fun K hK => ?_) AllReadyL.nil
        go_simp
        refine (CG.out _ HG.out.bel.drew).mono ?_
        rintro e w8 ⟨nd, ks8, rfl, htv8, hnt8, hb8⟩
        have HT8 := Lib.hid (show Tr w8 (fun g => wr.drew.heap.size ≤ g) (growT l k) nd from ⟨ks8, htv8, hnt8⟩)
        have HB8 := Lib.hid hb8
        have HG8 := Lib.hid (HG.out.drew.next hb8)
        clear htv8 hnt8 hb8 CG
        simp only [Nd.val]
        refine hK.out _ _ (HG8.out.gc) (fun hHeld => ?_)
        clear hK K
        try simp only [List.getElem_toArray, List.getElem_cons_zero, List.getElem_cons_succ, Act.put, List.setIfInBounds_toArray, List.set_cons_zero, List.set_cons_succ]
        refine wpAnyL_ready (rs := [5]) (by kernel_rfl) (by simp) ?_
        refine AllReadyL.cons (o := _) rfl (fun K hK => ?_) AllReadyL.nil
        go_simp
        have hal8 : Below w8.heap.size w8 (w8.alloc (.cells #[.string nd.op, .string nd.tx, .int .i64 nd.pl, .slice nd.kp nd.kn nd.kc] 25)) := (Below.refl _ _).alloc (Nat.le_refl _) _
        have HG9 := Lib.hid (HG8.out.next hal8)
        clear hal8
        refine hK.out _ _ (HG9.out.gc) (fun hHeld => ?_)
        clear hK K
        try simp only [List.getElem_toArray, List.getElem_cons_zero, List.getElem_cons_succ, Act.put, List.setIfInBounds_toArray, List.set_cons_zero, List.set_cons_succ]
        refine wpAnyL_ready (rs := [6]) (by kernel_rfl) (by simp) ?_
        refine AllReadyL.cons (o := _) rfl (fun K hK => ?_) AllReadyL.nil
        rw [if_pos (by rfl)]
        refine wp_append_at _ _ 23 rfl (nb + 1) 25 i0 (.agg #[.string ⟨#[]⟩, .string ⟨#[]⟩, .int .i64 0, .slice none 0 0]) 4 64 Tryd.underlying23 hi0 hz0 hz1 hz2 rfl (by decide) v nds.length (ndRow nds) rfl HG9.out.own ⟨w8.heap.size, 0, none⟩ 1 1 nd.vals rfl rfl ?c1 ?c2 ?c3 ?c4 ?c5 ?_
        case c1 => exact node_cells_new w8 _ nd
        case c2 => simp [Nd.vals, Value.oneCell']
        case c3 => unfold maxLen; omega
        case c4 => omega
        case c5 => have := HG9.out.lt; omega
        intro v' w9 hown9 hgrow9 hat9
        obtain ⟨g9, c9, rfl⟩ := as_succ hown9
        have HE := Lib.hid (HG.out.drew.put HB8.out HT8.out hown9 hgrow9 hat9)
        have HC : Hid (GC nb v w9) := Lib.hid (by
          have h2 := (hgrow9.block nb HG9.out.lt (fun e => by have := (HG9.out.own.lt nb e.symm).1; omega)).trans HG9.out.blk
          exact ⟨as_cell h2, as_frozen h2⟩)
        clear hown9 hgrow9 hat9
        refine hK.out _ _ (HC.out) (fun hHeld => ?_)
        clear hK K
        try simp only [List.getElem_toArray, List.getElem_cons_zero, List.getElem_cons_succ, Act.put, List.setIfInBounds_toArray, List.set_cons_zero, List.set_cons_succ]
        refine wpAnyL_take (i := 7) (oi := _) (v := ?_) rfl (by kernel_rfl) (by kernel_rfl) (by kernel_rfl) (by decide) (by kernel_rfl) (by kernel_rfl) (by kernel_rfl) (fun _ _ _ h => h) (Or.inl ⟨by rfl, ?_⟩) (by assumption) ?_
        rotate_left
        · (intro w hSw; obtain ⟨q0, q1⟩ := hSw; go_simp; try with_reducible rfl)
        try simp only [List.getElem_toArray, List.getElem_cons_zero, List.getElem_cons_succ, Act.put, List.setIfInBounds_toArray, List.set_cons_zero, List.set_cons_succ]
        obtain ⟨q0, q1⟩ := hHeld
        refine wpAnyL_ready (rs := [8]) (by kernel_rfl) (by simp) ?_
        refine AllReadyL.store (o := _) rfl (by decide) (by decide) (fun K hK => ?_) AllReadyL.nil
        go_simp
        refine hK.out _ _ ?_
        clear hK K
        try simp only [List.getElem_toArray, List.getElem_cons_zero, List.getElem_cons_succ, Act.put, List.setIfInBounds_toArray, List.set_cons_zero, List.set_cons_succ]
        refine wpAnyL_done (by kernel_rfl) ?_ _
        go_wp2_with fail
        go_round
        case measure => simp [intOf]; omega
        case rel =>
          exact ⟨k + 1, nds ++ [nd], .slice (some ⟨g9, 0, none⟩) (nds.length + 1) c9, by omega, by omega, by simp, by rw [HNX.out]; exact HE⟩
      · rw [if_neg hu, List.append_nil] at HNX
        have hui : ((upL l k : Int) == (i : Int)) = false := by rw [beq_eq_false_iff_ne]; omega
        clear CU
        go_wp2_with fail
        go_round
        case measure => simp [intOf]; omega
        case rel => exact ⟨k + 1, nds, v, by omega, by omega, by simp, by rw [HNX.out]; exact HG⟩
    · obtain rfl : k = l.length := by omega
      obtain ⟨vp, vn, vc, rfl⟩ : ∃ p n c, v = .slice p n c := by
        rcases HG.out.own.2 with ⟨rfl, _⟩ | ⟨g, cap', cur, rfl, _⟩
        · exact ⟨_, _, _, rfl⟩
        · exact ⟨_, _, _, rfl⟩
      have d0 : wr.cell? ⟨nb, 0, none⟩ = some (.string op) := as_cell HG.out.blk
      have d1 : wr.cell? ⟨nb, 1, none⟩ = some (.string tx) := as_cell HG.out.blk
      have d2 : wr.cell? ⟨nb, 2, none⟩ = some (.int .i64 xpl) := as_cell HG.out.blk
      have d3 : wr.cell? ⟨nb, 3, none⟩ = some (.slice vp vn vc) := as_cell HG.out.blk
      have f0 : wr.frozen? ⟨w.heap.size, 0, none⟩ = false := as_frozen HG.out.res
      have f1 : wr.frozen? ⟨w.heap.size, 1, none⟩ = false := as_frozen HG.out.res
      have f2 : wr.frozen? ⟨w.heap.size, 2, none⟩ = false := as_frozen HG.out.res
      have f3 : wr.frozen? ⟨w.heap.size, 3, none⟩ = false := as_frozen HG.out.res
      have e0 : wr.cell? ⟨w.heap.size, 0, none⟩ = some (.string ⟨#[]⟩) := as_cell HG.out.res
      have e1 : wr.cell? ⟨w.heap.size, 1, none⟩ = some (.string ⟨#[]⟩) := as_cell HG.out.res
      have e2 : wr.cell? ⟨w.heap.size, 2, none⟩ = some (.int .i64 0) := as_cell HG.out.res
      have e3 : wr.cell? ⟨w.heap.size, 3, none⟩ = some (.slice none 0 0) := as_cell HG.out.res
      have hnn : vn = nds.length := by
        rcases HG.out.own.2 with ⟨h1, h0⟩ | ⟨g, cap', cur, h1, _⟩
        · injection h1 with _ h2 _; omega
        · injection h1
      subst hnn
      obtain ⟨ks, hks, her⟩ := gather (B' := fun g => w.heap.size + 1 ≤ g) (n := nds.length) rfl HG.out.own rfl HG.out.trs (fun g hg _ => by have := hg.1; have := HG.out.pos; omega) (fun g hg => by have := (HG.out.own.lt g hg).1; have := HG.out.pos; omega) op tx xpl
      have HE : Hid (GrPost (T.mk op tx xpl (kidsTo l i l.length)) w (.returned (.agg #[.string op, .string tx, .int .i64 xpl, .slice vp nds.length vc])) (put4 wr w.heap.size ⟨op, tx, xpl, vp, nds.length, vc⟩)) := Lib.hid ⟨⟨op, tx, xpl, vp, nds.length, vc⟩, ks, rfl, hks.kept (fun g hg _ => put4_block (by show g ≠ w.heap.size; omega) _) (fun g hg _ => by show w.heap.size ≤ g; omega), by rw [Nd.t, her], put4_below HG.out.bel (Nat.le_refl _) _⟩
      clear hks her HG
      go_wp2_with fail
      refine bodyPost_ret (v := .agg #[.string op, .string tx, .int .i64 xpl, .slice vp nds.length vc]) ?_ rfl HE.out
      simp [results, Tryd.results22, go_sem, e0, e1, e2, e3]
theorem grow_any (q : Option Addr) (cap : Nat) (l : List Pa) (hok : ∀ a ∈ l, a.ok) (hl : l.length ≤ 1000) : ∀ (n i : Nat), l.length ≤ i + n → i < l.length → ∀ w, PaAt w q l → Calls Tryd.prog 22 #[.slice q l.length cap, .int .i64 (i : Int)] w (GrPost (growT l i) w)
  | 0, i, h1, h2, _, _ => by omega
  | n + 1, i, h1, h2, w, hA => grow_one q cap l i hok h2 hl (fun k hk hk2 W hW => grow_any q cap l hok hl n k (by omega) hk2 W hW) w hA
end Go.Proofs.YtgahamppfdhnaaaDoor
