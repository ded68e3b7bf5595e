/-
  CONTRACTS of layer 11's reader: how it lies in memory; add and fail.
-/
import Derived.Test.YtfmjajmdkndknaaLxW4
import Derived.Test.YtfmjajmdkndknaaOrd
import Derived.Maps.AppendAt
namespace Go.Proofs.Ytfmjajmdkndknaa
open Go.RowKit

theorem setCell_block {w : World} {b i : Nat} {cur : Array Value} {e : TypeId} {fz : Nat × Nat} (h : w.heap[b]? = some (.cells cur e fz)) (v : Value) :
    (w.setCell ⟨b, i, none⟩ v).heap[b]? = some (.cells (cur.setIfInBounds i v) e fz) := by
  have hlt : b < w.heap.size := (Array.getElem?_eq_some_iff.1 h).1
  have hv : w.heap[b] = .cells cur e fz := (Array.getElem?_eq_some_iff.1 h).2
  unfold World.setCell
  rw [Array.getElem?_eq_getElem (by simpa using hlt), Array.getElem_modify]
  simp [hv]
theorem block_cell {w : World} {b i : Nat} {cur : Array Value} {e : TypeId} {fz : Nat × Nat} (h : w.heap[b]? = some (.cells cur e fz)) : w.cell? ⟨b, i, none⟩ = cur[i]? := by
  simp [World.cell?, h]
theorem block_frozen {w : World} {b i : Nat} {cur : Array Value} {e : TypeId} (h : w.heap[b]? = some (.cells cur e (0, 0))) : w.frozen? ⟨b, i, none⟩ = false := by
  simp [World.frozen?, h]
theorem block_lt {w : World} {b : Nat} {o : Obj} (h : w.heap[b]? = some o) : b < w.heap.size := (Array.getElem?_eq_some_iff.1 h).1
theorem own_succ {W : World} {base : Nat} {e : TypeId} {size : Nat} {v : Value} {k : Nat} {xs : List Value} (h : W.ownsRow base e size v (k + 1) xs) : ∃ g cap, v = .slice (some ⟨g, 0, none⟩) (k + 1) cap := by
  rcases h.2 with ⟨_, h0⟩ | ⟨g, cap, _, rfl, _⟩
  · omega
  · exact ⟨g, cap, rfl⟩
theorem own_base {w : World} {B : Nat} {e : TypeId} {z : Nat} {v : Value} {n : Nat} {xs : List Value} (h : w.ownsRow B e z v n xs) : ∀ g, v.ownBlock = some g → B ≤ g ∧ g < w.heap.size := by
  intro g hg
  rcases h.2 with ⟨rfl, _⟩ | ⟨g', cap, cur, rfl, hB, hgg, _⟩
  · simp [Value.ownBlock] at hg
  · simp [Value.ownBlock] at hg
    subst hg
    exact ⟨hB, block_lt hgg⟩
theorem own_kept {w w' : World} {B : Nat} {e : TypeId} {z : Nat} {v : Value} {n : Nat} {xs : List Value} (h : w.ownsRow B e z v n xs) (hk : ∀ g, v.ownBlock = some g → w'.heap[g]? = w.heap[g]?) : w'.ownsRow B e z v n xs := by
  refine ⟨h.1, ?_⟩
  rcases h.2 with h2 | ⟨g, cap, cur, rfl, hB, hgg, h3⟩
  · exact .inl h2
  · exact .inr ⟨g, cap, cur, rfl, hB, (hk g rfl).trans hgg, h3⟩
theorem own_below {w w' : World} {B C : Nat} {e : TypeId} {z : Nat} {v : Value} {n : Nat} {xs : List Value} (h : w.ownsRow B e z v n xs) (hb : Below C w w') (hC : w.heap.size ≤ C) : w'.ownsRow B e z v n xs :=
  own_kept h fun g hg => hb.block g (by have := own_base h g hg; omega)

def Tok.vals (t : Tok) : List Value := [.int .i64 t.k, .string ⟨t.t.toArray⟩, .int .i64 t.a]
def tokRow : List Tok → List Value
  | [] => []
  | t :: l => t.vals ++ tokRow l
theorem tokRow_append : ∀ (l m : List Tok), tokRow (l ++ m) = tokRow l ++ tokRow m
  | [], _ => rfl
  | t :: l, m => by show t.vals ++ tokRow (l ++ m) = _; rw [tokRow_append l m]; simp [tokRow]
theorem tokRow_get : ∀ (l : List Tok) (i j : Nat) (h : i < l.length), j < 3 → (tokRow l)[i * 3 + j]? = l[i].vals[j]?
  | t :: l, 0, j, _, hj => by
    show (t.vals ++ tokRow l)[0 * 3 + j]? = t.vals[j]?
    rw [List.getElem?_append_left (by show 0 * 3 + j < 3; omega), show 0 * 3 + j = j from by omega]
  | t :: l, i + 1, j, h, hj => by
    show (t.vals ++ tokRow l)[(i + 1) * 3 + j]? = (l[i]'(by simpa using h)).vals[j]?
    rw [List.getElem?_append_right (by show 3 ≤ (i + 1) * 3 + j; omega), show (i + 1) * 3 + j - t.vals.length = i * 3 + j from by show (i + 1) * 3 + j - 3 = _; omega]
    exact tokRow_get l i j (by simpa using h) hj

/-- The reader in block b of a text: where it stands, is the place wrong, its tokens. -/
structure RsV (b : Nat) (w : World) (s : ByteArray) (p : Nat) (bad : Bool) (l : List Tok) (v : Value) : Prop where
  blk : w.heap[b]? = some (.cells #[.string s, .int .i64 p, .bool bad, v] 42 (0, 0))
  row : w.ownsRow (b + 1) 36 3 v l.length (tokRow l)
def Rs (b : Nat) (w : World) (s : ByteArray) (p : Nat) (bad : Bool) (l : List Tok) : Prop := ∃ v, RsV b w s p bad l v
theorem RsV.lt {b : Nat} {w : World} {s : ByteArray} {p : Nat} {bad : Bool} {l : List Tok} {v : Value} (h : RsV b w s p bad l v) : b < w.heap.size := block_lt h.blk
/-- Its cells. -/
def RC (b : Nat) (s : ByteArray) (p : Nat) (bad : Bool) (v : Value) (w : World) : Prop :=
  (w.cell? ⟨b, 0, none⟩ = some (.string s) ∧ w.cell? ⟨b, 1, none⟩ = some (.int .i64 p) ∧ w.cell? ⟨b, 2, none⟩ = some (.bool bad) ∧ w.cell? ⟨b, 3, none⟩ = some v) ∧ w.frozen? ⟨b, 1, none⟩ = false ∧ w.frozen? ⟨b, 2, none⟩ = false ∧ w.frozen? ⟨b, 3, none⟩ = false
theorem RC.of {b : Nat} {s : ByteArray} {p : Nat} {bad : Bool} {v : Value} {w : World} (h : w.heap[b]? = some (.cells #[.string s, .int .i64 p, .bool bad, v] 42 (0, 0))) : RC b s p bad v w :=
  ⟨⟨block_cell h, block_cell h, block_cell h, block_cell h⟩, block_frozen h, block_frozen h, block_frozen h⟩
theorem RC.drew {b : Nat} {s : ByteArray} {p : Nat} {bad : Bool} {v : Value} {w : World} (h : RC b s p bad v w) : RC b s p bad v w.drew := h
theorem RsV.cells {b : Nat} {w : World} {s : ByteArray} {p : Nat} {bad : Bool} {l : List Tok} {v : Value} (h : RsV b w s p bad l v) : RC b s p bad v w := RC.of h.blk
theorem RsV.below {b C : Nat} {w w' : World} {s : ByteArray} {p : Nat} {bad : Bool} {l : List Tok} {v : Value} (h : RsV b w s p bad l v) (hb : Below C w w') (hC : w.heap.size ≤ C) : RsV b w' s p bad l v :=
  ⟨(hb.block b (Nat.lt_of_lt_of_le h.lt hC)).trans h.blk, own_below h.row hb hC⟩
theorem RsV.alloc {b : Nat} {w : World} {s : ByteArray} {p : Nat} {bad : Bool} {l : List Tok} {v : Value} (h : RsV b w s p bad l v) (o : Obj) : RsV b (w.alloc o) s p bad l v :=
  h.below ((Below.refl w.heap.size w).alloc (Nat.le_refl _) o) (Nat.le_refl _)
theorem RsV.drew {b : Nat} {w : World} {s : ByteArray} {p : Nat} {bad : Bool} {l : List Tok} {v : Value} (h : RsV b w s p bad l v) : RsV b w.drew s p bad l v := ⟨h.blk, h.row⟩
theorem RsV.setAt {b : Nat} {w : World} {s : ByteArray} {p : Nat} {bad : Bool} {l : List Tok} {v : Value} (h : RsV b w s p bad l v) (q : Nat) : RsV b (w.setCell ⟨b, 1, none⟩ (.int .i64 q)) s q bad l v :=
  ⟨setCell_block h.blk _, own_kept h.row fun g hg => Below.heap_setCell w _ _ g (by have := own_base h.row g hg; show g ≠ b; omega)⟩
theorem RsV.setBad {b : Nat} {w : World} {s : ByteArray} {p : Nat} {bad : Bool} {l : List Tok} {v : Value} (h : RsV b w s p bad l v) (q : Bool) : RsV b (w.setCell ⟨b, 2, none⟩ (.bool q)) s p q l v :=
  ⟨setCell_block h.blk _, own_kept h.row fun g hg => Below.heap_setCell w _ _ g (by have := own_base h.row g hg; show g ≠ b; omega)⟩
/-- Behind an append to its tokens: the row stored back. -/
theorem RsV.put {b : Nat} {w w' : World} {s : ByteArray} {p : Nat} {bad : Bool} {l : List Tok} {v v' : Value} (h : RsV b w s p bad l v) (hg : w.grownBy w' v.ownBlock) (t : Tok) (ho : w'.ownsRow (b + 1) 36 3 v' (l.length + 1) (tokRow l ++ t.vals)) :
    RsV b (w'.setCell ⟨b, 3, none⟩ v') s p bad (l ++ [t]) v' := by
  have hbk : w'.heap[b]? = some (.cells #[.string s, .int .i64 p, .bool bad, v] 42 (0, 0)) := (hg.block b h.lt (fun e => by have := own_base h.row b e.symm; omega)).trans h.blk
  refine ⟨setCell_block hbk _, ?_⟩
  have e : tokRow (l ++ [t]) = tokRow l ++ t.vals := by rw [tokRow_append]; simp [tokRow]
  rw [e, List.length_append]
  exact own_kept ho fun g hg => Below.heap_setCell w' _ _ g (by have := own_base ho g hg; show g ≠ b; omega)
theorem tok_new {b : Nat} (w : World) (t : Tok) (hb : w.heap.size = b) : ∀ (j : Nat) (u : Value), t.vals[j]? = some u → (w.alloc (.cells #[.int .i64 t.k, .string ⟨t.t.toArray⟩, .int .i64 t.a] 36)).cell? (Addr.add ⟨b, 0, none⟩ j) = some u := by
  subst hb
  intro j u hj
  match j, hj with
  | 0, hj => simp [Tok.vals] at hj; subst hj; simp [Addr.add, go_sem]
  | 1, hj => simp [Tok.vals] at hj; subst hj; simp [Addr.add, go_sem]
  | 2, hj => simp [Tok.vals] at hj; subst hj; simp [Addr.add, go_sem]
  | n + 3, hj => simp [Tok.vals] at hj
theorem Try.infoTok : (Try.prog.info? 36).map (fun i => (i.zero, i.size, i.bytes)) = some (some (.agg #[.int .i64 0, .string ⟨#[]⟩, .int .i64 0]), 3, 32) := by kernel_rfl
theorem lclone_any (s : ByteArray) (w : World) (hs : s.size ≤ 100000) : Calls Try.prog 30 #[.string s] w fun e w' => e = .returned (.string s) ∧ Below w.heap.size w w' := by
  have C := Try.stringslite_Clone s w (by omega)
  go_enter Try.func30, Try.ntmps30
  go_wp2_with (refine C.mono ?_; rintro e w1 ⟨rfl, hb1⟩)
  go_ret
  exact ⟨rfl, hb1⟩
def AdPost (b : Nat) (s : ByteArray) (p : Nat) (bad : Bool) (l : List Tok) (w : World) (e : Ending) (w' : World) : Prop := e = .returned (.tuple #[]) ∧ Rs b w' s p bad l ∧ Below b w w'
theorem fail_any (b : Nat) (s : ByteArray) (p q : Nat) (bad : Bool) (l : List Tok) (w : World) (h : Rs b w s p bad l) :
    Calls Try.prog 39 #[.pointer (some ⟨b, 0, none⟩), .int .i64 (q : Int)] w fun e w' => e = .returned (.bool false) ∧ Rs b w' s q true l ∧ Below b w w' := by
  obtain ⟨v, h⟩ := h
  obtain ⟨⟨c0, c1, c2, c3⟩, f1, f2, f3⟩ := h.cells
  have HE := Lib.hid (show Rs b ((w.setCell ⟨b, 1, none⟩ (.int .i64 q)).setCell ⟨b, 2, none⟩ (.bool true)) s q true l ∧ Below b w ((w.setCell ⟨b, 1, none⟩ (.int .i64 q)).setCell ⟨b, 2, none⟩ (.bool true)) from
    ⟨⟨v, (h.setAt q).setBad true⟩, ((Below.refl b w).setCell (Nat.le_refl b) _).setCell (Nat.le_refl b) _⟩)
  clear h
  go_enter Try.func39, Try.ntmps39
  go_wp2
  go_ret
  exact ⟨rfl, HE.out⟩
set_option maxHeartbeats 2000000 in
set_option maxRecDepth 100000 in
theorem add_any (b : Nat) (s : ByteArray) (p : Nat) (bad : Bool) (l : List Tok) (k : Nat) (t : ByteArray) (z : Nat) (w : World) (h : Rs b w s p bad l) (ht : t.size ≤ 100000) (hl : l.length ≤ 100000) (hp : p ≤ 100000) (hz : z ≤ 100000) :
    Calls Try.prog 18 #[.pointer (some ⟨b, 0, none⟩), .int .i64 (k : Int), .string t, .int .i64 (z : Int)] w (AdPost b s (p + z) bad (l ++ [⟨k, t.data.toList, p⟩]) w) := by
  obtain ⟨v, h⟩ := h
  have C1 := Lib.hid fun W => lclone_any t W ht
  have HR := Lib.hid h
  have hc := h.cells
  have hlt := h.lt
  clear h ht
  obtain ⟨i0, hi, hz0, hz1, hz2⟩ := info_parts Try.infoTok
  go_enter Try.func18, Try.ntmps18
  go_wp2_with fail
  refine wp_region_L (st := [17]) (S := fun w' => RC b s p bad v w') (by kernel_rfl) (hc.drew) (fun hHeld => ?_)
  refine wpAnyL_take (i := 0) (oi := _) (v := ?_) rfl (by kernel_rfl) (by kernel_rfl) (by kernel_rfl) (by decide) (by kernel_rfl) (by kernel_rfl) (by kernel_rfl) (fun _ _ _ h => h) (Or.inl ⟨by rfl, ?_⟩) (by assumption) ?_
  rotate_left
  · (intro w hSw; obtain ⟨⟨q0, q1, q2, q3⟩, k1, k2, k3⟩ := hSw; go_simp; try with_reducible rfl)
  try simp only [List.getElem_toArray, List.getElem_cons_zero, Act.put, List.setIfInBounds_toArray, List.set_cons_zero, List.set_cons_succ]
  refine wpAnyL_take (i := 1) (oi := _) (v := ?_) rfl (by kernel_rfl) (by kernel_rfl) (by kernel_rfl) (by decide) (by kernel_rfl) (by kernel_rfl) (by kernel_rfl) (fun _ _ _ h => h) (Or.inl ⟨by rfl, ?_⟩) (by assumption) ?_
  rotate_left
  · (intro w hSw; obtain ⟨⟨q0, q1, q2, q3⟩, k1, k2, k3⟩ := hSw; go_simp; try with_reducible rfl)
  try simp only [List.getElem_toArray, List.getElem_cons_zero, List.getElem_cons_succ, Act.put, List.setIfInBounds_toArray, List.set_cons_zero, List.set_cons_succ]
  refine wpAnyL_take (i := 2) (oi := _) (v := ?_) rfl (by kernel_rfl) (by kernel_rfl) (by kernel_rfl) (by decide) (by kernel_rfl) (by kernel_rfl) (by kernel_rfl) (fun _ _ _ h => h) (Or.inl ⟨by rfl, ?_⟩) (by assumption) ?_
  rotate_left
  · (intro w hSw; obtain ⟨⟨q0, q1, q2, q3⟩, k1, k2, k3⟩ := hSw; go_simp; try with_reducible rfl)
  try simp only [List.getElem_toArray, List.getElem_cons_zero, List.getElem_cons_succ, Act.put, List.setIfInBounds_toArray, List.set_cons_zero, List.set_cons_succ]
  refine wpAnyL_take (i := 3) (oi := _) (v := ?_) rfl (by kernel_rfl) (by kernel_rfl) (by kernel_rfl) (by decide) (by kernel_rfl) (by kernel_rfl) (by kernel_rfl) (fun _ _ _ h => h) (Or.inl ⟨by rfl, ?_⟩) (by assumption) ?_
  rotate_left
  · (intro w hSw; obtain ⟨⟨q0, q1, q2, q3⟩, k1, k2, k3⟩ := hSw; go_simp; try with_reducible rfl)
  try simp only [List.getElem_toArray, List.getElem_cons_zero, List.getElem_cons_succ, Act.put, List.setIfInBounds_toArray, List.set_cons_zero, List.set_cons_succ]
  refine wpAnyL_take (i := 4) (oi := _) (v := ?_) rfl (by kernel_rfl) (by kernel_rfl) (by kernel_rfl) (by decide) (by kernel_rfl) (by kernel_rfl) (by kernel_rfl) (fun _ _ _ h => h) (Or.inl ⟨by rfl, ?_⟩) (by assumption) ?_
  rotate_left
  · (intro w hSw; obtain ⟨⟨q0, q1, q2, q3⟩, k1, k2, k3⟩ := hSw; go_simp; try with_reducible rfl)
  try simp only [List.getElem_toArray, List.getElem_cons_zero, List.getElem_cons_succ, Act.put, List.setIfInBounds_toArray, List.set_cons_zero, List.set_cons_succ]
  refine wpAnyL_take (i := 5) (oi := _) (v := ?_) rfl (by kernel_rfl) (by kernel_rfl) (by kernel_rfl) (by decide) (by kernel_rfl) (by kernel_rfl) (by kernel_rfl) (fun _ _ _ h => h) (Or.inl ⟨by rfl, ?_⟩) (by assumption) ?_
  rotate_left
  · (intro w hSw; obtain ⟨⟨q0, q1, q2, q3⟩, k1, k2, k3⟩ := hSw; go_simp; try with_reducible rfl)
  try simp only [List.getElem_toArray, List.getElem_cons_zero, List.getElem_cons_succ, Act.put, List.setIfInBounds_toArray, List.set_cons_zero, List.set_cons_succ]
  refine wpAnyL_take (i := 6) (oi := _) (v := ?_) rfl (by kernel_rfl) (by kernel_rfl) (by kernel_rfl) (by decide) (by kernel_rfl) (by kernel_rfl) (by kernel_rfl) (fun _ _ _ h => h) (Or.inl ⟨by rfl, ?_⟩) (by assumption) ?_
  rotate_left
  · (intro w hSw; obtain ⟨⟨q0, q1, q2, q3⟩, k1, k2, k3⟩ := hSw; go_simp; try with_reducible rfl)
  try simp only [List.getElem_toArray, List.getElem_cons_zero, List.getElem_cons_succ, Act.put, List.setIfInBounds_toArray, List.set_cons_zero, List.set_cons_succ]
  refine wpAnyL_take (i := 8) (oi := _) (v := ?_) rfl (by kernel_rfl) (by kernel_rfl) (by kernel_rfl) (by decide) (by kernel_rfl) (by kernel_rfl) (by kernel_rfl) (fun _ _ _ h => h) (Or.inl ⟨by rfl, ?_⟩) (by assumption) ?_
  rotate_left
  · (intro w hSw; obtain ⟨⟨q0, q1, q2, q3⟩, k1, k2, k3⟩ := hSw; go_simp; try with_reducible rfl)
  try simp only [List.getElem_toArray, List.getElem_cons_zero, List.getElem_cons_succ, Act.put, List.setIfInBounds_toArray, List.set_cons_zero, List.set_cons_succ]
  refine wpAnyL_take (i := 9) (oi := _) (v := ?_) rfl (by kernel_rfl) (by kernel_rfl) (by kernel_rfl) (by decide) (by kernel_rfl) (by kernel_rfl) (by kernel_rfl) (fun _ _ _ h => h) (Or.inl ⟨by rfl, ?_⟩) (by assumption) ?_
  rotate_left
  · (intro w hSw; obtain ⟨⟨q0, q1, q2, q3⟩, k1, k2, k3⟩ := hSw; go_simp; try with_reducible rfl)
  try simp only [List.getElem_toArray, List.getElem_cons_zero, List.getElem_cons_succ, Act.put, List.setIfInBounds_toArray, List.set_cons_zero, List.set_cons_succ]
  refine wpAnyL_take (i := 10) (oi := _) (v := ?_) rfl (by kernel_rfl) (by kernel_rfl) (by kernel_rfl) (by decide) (by kernel_rfl) (by kernel_rfl) (by kernel_rfl) (fun _ _ _ h => h) (Or.inl ⟨by rfl, ?_⟩) (by assumption) ?_
  rotate_left
  · (intro w hSw; obtain ⟨⟨q0, q1, q2, q3⟩, k1, k2, k3⟩ := hSw; go_simp; try with_reducible rfl)
  try simp only [List.getElem_toArray, List.getElem_cons_zero, List.getElem_cons_succ, Act.put, List.setIfInBounds_toArray, List.set_cons_zero, List.set_cons_succ]
  refine wpAnyL_take (i := 11) (oi := _) (v := ?_) rfl (by kernel_rfl) (by kernel_rfl) (by kernel_rfl) (by decide) (by kernel_rfl) (by kernel_rfl) (by kernel_rfl) (fun _ _ _ h => h) (Or.inl ⟨by rfl, ?_⟩) (by assumption) ?_
  rotate_left
  · (intro w hSw; obtain ⟨⟨q0, q1, q2, q3⟩, k1, k2, k3⟩ := hSw; go_simp; try with_reducible rfl)
  try simp only [List.getElem_toArray, List.getElem_cons_zero, List.getElem_cons_succ, Act.put, List.setIfInBounds_toArray, List.set_cons_zero, List.set_cons_succ]
  refine wpAnyL_ready (rs := [7]) (by kernel_rfl) (by simp) ?_
  refine AllReadyL.cons (o := _) rfl (fun K hK => ?_) AllReadyL.nil
  go_simp
  refine (C1.out _).mono ?_
  rintro e w8 ⟨rfl, hb8⟩
  have HR8 := Lib.hid (HR.out.drew.below hb8 (Nat.le_refl _))
  have HB8 := Lib.hid ((Below.refl b w).drew.trans (hb8.mono (show b ≤ w.drew.heap.size from Nat.le_of_lt hlt)))
  go_simp
  refine hK.out _ _ (HR8.out.cells) (fun hHeld => ?_)
  clear hK K
  try simp only [List.getElem_toArray, List.getElem_cons_zero, List.getElem_cons_succ, Act.put, List.setIfInBounds_toArray, List.set_cons_zero, List.set_cons_succ]
  refine wpAnyL_take (i := 12) (oi := _) (v := ?_) rfl (by kernel_rfl) (by kernel_rfl) (by kernel_rfl) (by decide) (by kernel_rfl) (by kernel_rfl) (by kernel_rfl) (fun _ _ _ h => h) (Or.inl ⟨by rfl, ?_⟩) (by assumption) ?_
  rotate_left
  · (intro w hSw; obtain ⟨⟨q0, q1, q2, q3⟩, k1, k2, k3⟩ := hSw; go_simp; try with_reducible rfl)
  try simp only [List.getElem_toArray, List.getElem_cons_zero, List.getElem_cons_succ, Act.put, List.setIfInBounds_toArray, List.set_cons_zero, List.set_cons_succ]
  refine wpAnyL_ready (rs := [13]) (by kernel_rfl) (by simp) ?_
  refine AllReadyL.cons (o := _) rfl (fun K hK => ?_) AllReadyL.nil
  go_simp
  have HR9 := Lib.hid (HR8.out.alloc (.cells #[.int .i64 (k : Int), .string t, .int .i64 (p : Int)] 36))
  have HB9 := Lib.hid (HB8.out.alloc (Nat.le_of_lt HR8.out.lt) (.cells #[.int .i64 (k : Int), .string t, .int .i64 (p : Int)] 36))
  refine hK.out _ _ (HR9.out.cells) (fun hHeld => ?_)
  clear hK K
  try simp only [List.getElem_toArray, List.getElem_cons_zero, List.getElem_cons_succ, Act.put, List.setIfInBounds_toArray, List.set_cons_zero, List.set_cons_succ]
  refine wpAnyL_ready (rs := [14]) (by kernel_rfl) (by simp) ?_
  refine AllReadyL.cons (o := _) rfl (fun K hK => ?_) AllReadyL.nil
  rw [if_pos (by rfl)]
  refine wp_append_own _ _ _ 23 rfl (b + 1) 36 i0 (.agg #[.int .i64 0, .string ⟨#[]⟩, .int .i64 0]) 3 32 Try.underlying23 hi hz0 hz1 hz2 rfl (by decide) v l.length (tokRow l) rfl HR9.out.row ⟨w8.heap.size, 0, none⟩ 1 1 (Tok.vals ⟨k, t.data.toList, p⟩) rfl rfl ?c1 ?c2 ?c3 ?c4 ?c5 ?_
  case c1 => exact tok_new w8 ⟨k, t.data.toList, p⟩ rfl
  case c2 => simp [Tok.vals, Value.oneCell']
  case c3 => unfold maxLen; omega
  case c4 => omega
  case c5 => have := HR9.out.lt; omega
  intro v' w9 hown9 hgrow9 _
  obtain ⟨g', cap', rfl⟩ := own_succ hown9
  have HE := Lib.hid (HR9.out.put hgrow9 ⟨k, t.data.toList, p⟩ hown9)
  have HB := Lib.hid (((HB9.out.grown hgrow9 (Nat.le_of_lt HR9.out.lt) (fun g e => Nat.le_of_succ_le (own_base HR9.out.row g e).1))).setCell (p := ⟨b, 3, none⟩) (Nat.le_refl b) (.slice (some ⟨g', 0, none⟩) (l.length + 1) cap'))
  have HC := Lib.hid (RC.of ((hgrow9.block b HR9.out.lt (fun e => by have := own_base HR9.out.row b e.symm; omega)).trans HR9.out.blk))
  clear hown9 hgrow9
  refine hK.out _ _ (HC.out) (fun hHeld => ?_)
  clear hK K
  try simp only [List.getElem_toArray, List.getElem_cons_zero, List.getElem_cons_succ, Act.put, List.setIfInBounds_toArray, List.set_cons_zero, List.set_cons_succ]
  refine wpAnyL_take (i := 15) (oi := _) (v := ?_) rfl (by kernel_rfl) (by kernel_rfl) (by kernel_rfl) (by decide) (by kernel_rfl) (by kernel_rfl) (by kernel_rfl) (fun _ _ _ h => h) (Or.inl ⟨by rfl, ?_⟩) (by assumption) ?_
  rotate_left
  · (intro w hSw; obtain ⟨⟨q0, q1, q2, q3⟩, k1, k2, k3⟩ := hSw; go_simp; try with_reducible rfl)
  try simp only [List.getElem_toArray, List.getElem_cons_zero, List.getElem_cons_succ, Act.put, List.setIfInBounds_toArray, List.set_cons_zero, List.set_cons_succ]
  refine wpAnyL_take (i := 16) (oi := _) (v := ?_) rfl (by kernel_rfl) (by kernel_rfl) (by kernel_rfl) (by decide) (by kernel_rfl) (by kernel_rfl) (by kernel_rfl) (fun _ _ _ h => h) (Or.inl ⟨by rfl, ?_⟩) (by assumption) ?_
  rotate_left
  · (intro w hSw; obtain ⟨⟨q0, q1, q2, q3⟩, k1, k2, k3⟩ := hSw; go_simp; try with_reducible rfl)
  try simp only [List.getElem_toArray, List.getElem_cons_zero, List.getElem_cons_succ, Act.put, List.setIfInBounds_toArray, List.set_cons_zero, List.set_cons_succ]
  obtain ⟨⟨q0, q1, q2, q3⟩, k1, k2, k3⟩ := hHeld
  refine wpAnyL_ready (rs := [17]) (by kernel_rfl) (by simp) ?_
  refine AllReadyL.store (o := _) rfl (by decide) (by decide) (fun K hK => ?_) AllReadyL.nil
  go_simp
  refine hK.out _ _ ?_
  clear hK K
  try simp only [List.getElem_toArray, List.getElem_cons_zero, List.getElem_cons_succ, Act.put, List.setIfInBounds_toArray, List.set_cons_zero, List.set_cons_succ]
  refine wpAnyL_done (by kernel_rfl) ?_ _
  have HR10 := Lib.hid HE.out.cells
  have hZ : (((p + z : Nat)) : Int) = (p : Int) + (z : Int) := by omega
  obtain ⟨⟨r0, r1, r2, r3⟩, m1, m2, m3⟩ := HR10.out
  clear q0 q1 q2 q3 k1 k2 k3
  go_wp2_with fail
  go_end0
  have hA := HE.out.setAt (p + z)
  have hB := HB.out.setCell (p := ⟨b, 1, none⟩) (Nat.le_refl b) (.int .i64 ((p + z : Nat) : Int))
  rw [hZ] at hA hB
  exact ⟨rfl, ⟨_, hA⟩, hB⟩
end Go.Proofs.Ytfmjajmdkndknaa
